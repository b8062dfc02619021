/-
  What stands under factPuts_holds: part 14.
-/
import Derived.Test.YtokpabkcaofahaaGreatPp12
import Derived.Test.YtokpabkcaofahaaGreatPp4
import Derived.WalkSpells
import Derived.Deep.LoopGhost
import Derived.ScopeJumps
import Derived.BigQuiet
import Derived.Deep.QuietTactic
import Derived.Test.YtokpabkcaofahaaGreatPp1
import Derived.Deep.RegionLaw
import Derived.Deep.AppendLies
import Derived.Laws.CopyOwn
import Derived.Deep.OwnRows
import Derived.Test.YtokpabkcaofahaaGreatPp13
import Derived.Test.YtokpabkcaofahaaGreatPp3
import Derived.IntWalk
import Derived.WalkLawsBesides
import Derived.Test.YtokpabkcaofahaaGreatPp2
namespace Go.Proofs.YtokpabkcaofahaaGreat
set_option linter.unusedSimpArgs false
set_option linter.unusedVariables false
set_option maxRecDepth 100000
set_option maxHeartbeats 20000000
section
open Go.RowKit Sha
open Fld (Itm)
theorem wp_scope_ahead {P:Program} {a:Act} {w:World} {Q:Exit->Act->World->Prop} {c rest:Code}(l:Nat)(hf:findLabel c l=some rest)
 (first:c.wp P (Exit.jump l (fun a' w'=>rest.wp P (Exit.noGoto Q) a' w') Q) a w):(Code.scope c).wp P Q a w:=
 wp_scope_jumps l (fun a' w'=>rest.wp P (Exit.noGoto Q) a' w') (fun _ _=>0) hf first fun a' w' h=>wp_mono h fun e a₁ w₁ hq=>by
  cases e with
  | goto l=>exact hq.elim
  | normal=>exact hq
  | exit id=>exact hq
  | ret=>exact hq
  | panic ch=>exact hq
  | outgrown=>exact hq
theorem only_refl (w:World)(ga:Nat):w.grownBy w (some ga):=⟨rfl,rfl,rfl,Nat.le_refl _,fun _ _ _=>rfl⟩
theorem only_drewN {a w:World} {row:Option Nat}(h:a.grownBy w row)(n:Nat):a.grownBy (w.drewN n) row:=⟨h.os,h.tape,h.output,h.size,h.block⟩
theorem only_set {a w:World} {ga:Nat}(h:a.grownBy w (some ga))(i:Nat)(u:Value):a.grownBy (w.setCell ⟨ga,i,none⟩ u) (some ga):=
 ⟨h.os,h.tape,h.output,by simpa[World.setCell]using h.size,fun k hk hne=>(Below.heap_setCell w _ u k (by rintro rfl;exact hne rfl)).trans (h.block k hk hne)⟩
theorem only_trans {a b c:World} {ga:Nat}(h:a.grownBy b (some ga))(k:b.grownBy c (some ga)):a.grownBy c (some ga):=
 ⟨k.os.trans h.os,k.tape.trans h.tape,k.output.trans h.output,Nat.le_trans h.size k.size,fun i hi hn=>(k.block i (Nat.lt_of_lt_of_le hi h.size) hn).trans (h.block i hi hn)⟩
theorem below_only {a b c:World} {ga B:Nat}(h:Below B a b)(k:b.grownBy c (some ga))(hB:B<=ga)(hs:B<=b.heap.size):Below B a c:=
 h.trans ⟨k.os,k.tape,k.output,k.size,fun i hi=>k.block i (by omega) (by intro e;have:=Option.some.inj e;omega)⟩
theorem others_only {a b:World} {ga:Nat}(h:a.grownBy b (some ga))(e:TypeId):Lib.OthersKept e (some ga) a b:=fun i o hi hb _=>by
 have hlt:i < a.heap.size:=(Array.getElem?_eq_some_iff.1 hi).1
 rw[h.block i hlt hb];exact hi
theorem rd_cons_more {i acc:Nat} {x:Int} {r:List Int}(h9:i≠9)(h:128<=x):Fld.rd i acc (x::r)=Fld.rd (i+1) (acc+(x % 128).toNat*128 ^ i) r:=by
 rw[Fld.rd,if_neg h9,if_pos h]
theorem rd_cons_nine {acc:Nat} {x:Int} {r:List Int}:Fld.rd 9 acc (x::r)=(10,0,0):=by rw[Fld.rd,if_pos rfl]
theorem rd_cons_form {i acc:Nat} {x:Int} {r:List Int}(h9:i≠9)(h:¬128<=x)(hf:(x=0/\0 < i)\/4611686018427387903 < acc+(x % 128).toNat*128 ^ i):Fld.rd i acc (x::r)=(10,0,0):=by
 rw[Fld.rd,if_neg h9,if_neg h,if_pos hf]
theorem rd_cons_last {i acc:Nat} {x:Int} {r:List Int}(h9:i≠9)(h:¬128<=x)(hf:¬((x=0/\0 < i)\/4611686018427387903 < acc+(x % 128).toNat*128 ^ i)):Fld.rd i acc (x::r)=(0,((acc+(x % 128).toNat*128 ^ i:Nat):Int),i+1):=by
 rw[Fld.rd,if_neg h9,if_neg h,if_neg hf]
theorem pow128 (i:Nat):(2:Nat) ^ (7*i)=128 ^ i:=by rw[Nat.pow_mul]
theorem pow128_le (i:Nat)(h:i<=8):(128:Nat) ^ i<=72057594037927936:=by
 calc (128:Nat) ^ i<=128 ^ 8:=Nat.pow_le_pow_right (by omega) h
  _=72057594037927936:=by decide
theorem or_step (acc i:Nat)(x:Int)(hi:i<=8)(ha:acc < 128 ^ i)(hx:0<=x/\x<=255):
 bits BinOp.or IntKind.i64 (acc:Int) (wrap64 (x % 128*2 ^ (7*i)))=((acc+(x % 128).toNat*128 ^ i:Nat):Int):=by
 obtain⟨y,hy⟩:∃y:Nat,x % 128=(y:Int):=⟨(x % 128).toNat,by omega⟩
 have hy1:y<=127:=by omega
 have hp:=pow128_le i hi
 have hmul:y*128 ^ i<=127*72057594037927936:=Nat.mul_le_mul hy1 hp
 rw[hy,Int.toNat_natCast]
 have e1:(y:Int)*2 ^ (7*i)=((y*128 ^ i:Nat):Int):=by
  rw[<-pow128];push_cast;rfl
 rw[e1]
 have e2:wrap64 ((y*128 ^ i:Nat):Int)=((y*128 ^ i:Nat):Int):=by unfold wrap64;omega
 rw[e2]
 show IntKind.i64.wrap ((BitVec.ofInt 64 (acc:Int) ||| BitVec.ofInt 64 ((y*128 ^ i:Nat):Int)).toNat:Int)=_
 have h1:(BitVec.ofInt 64 (acc:Int)).toNat=acc:=by rw[BitVec.toNat_ofInt];omega
 have h2:(BitVec.ofInt 64 ((y*128 ^ i:Nat):Int)).toNat=y <<< (7*i):=by
  rw[BitVec.toNat_ofInt,Nat.shiftLeft_eq,pow128];omega
 rw[BitVec.toNat_or,h1,h2,Nat.or_comm,<-Nat.shiftLeft_add_eq_or_of_lt (by rw[pow128];exact ha),Nat.shiftLeft_eq,pow128,IntWalk.i64_in _ (by omega)]
 omega
theorem or_lt (acc i:Nat)(x:Int)(ha:acc < 128 ^ i)(hx:0<=x/\x<=255):acc+(x % 128).toNat*128 ^ i < 128 ^ (i+1):=by
 obtain⟨y,hy⟩:∃y:Nat,x % 128=(y:Int):=⟨(x % 128).toNat,by omega⟩
 rw[hy,Int.toNat_natCast,Nat.pow_succ,Nat.mul_comm (128 ^ i) 128]
 have hy1:y<=127:=by omega
 have:=Nat.mul_le_mul_right (128 ^ i) hy1
 omega
def NDone (ga:Nat)(bv v:Value)(r:Int×Int×Nat)(at_:Nat)(w:World)(e:Ending)(w':World):Prop:=
 e= .returned (.tuple #[.int .i64 r.2.1,.int .i64 r.1])/\Blk w' ga [bv,.int .i64 ((at_+r.2.2:Nat):Int),v] 160/\w.grownBy w' (some ga)
theorem rnum_any (w0:World)(ga:Nat)(bs:List Int)(p:Option Addr)(n c:Nat)(v:Value)(at_:Nat)(w:World)(hn:bs.length=n)(hb:∀x∈bs,0<=x/\x<=255)(hA:At w0 p (bs.map v8))(hB:Below w0.heap.size w0 w)(hga:w0.heap.size<=ga)(hc:n<=c)(hm:c<=9223372036854775807)(hat:at_<=n)
 (hK:Blk w ga [.slice p n c,.int .i64 at_,v] 160):
 Calls Tryz.prog 146 #[.pointer (some ⟨ga,0,none⟩)] w (NDone ga (.slice p n c) v (Fld.rd 0 0 (bs.drop at_)) at_ w):=by
 have HN:=Lib.hid hn
 have HBD:=Lib.hid hb
 have HA:=Lib.hid hA
 have HB:=Lib.hid hB
 have HK:=Lib.hid hK
 have e1:w.cell? ⟨ga,1,none⟩=some (.int .i64 at_):=hK.cell 1
 clear hn hb hA hB hK
 go_enter Tryz.func146,Tryz.ntmps146
 go_wp2_with fail
 refine wp_scope_ahead 0 rfl ?_
 go_wp2_with fail
 go_loopg [2,3,5] 10 (fun gh n0 e0 i0 wr=>∃(i acc:Nat),i<=9/\gh=10 - i/\n0= .int .i64 acc/\e0= .int .i64 0/\i0= .int .i64 i/\acc < 128 ^ i/\at_+i<=n/\Hid (Fld.rd 0 0 (bs.drop at_)=Fld.rd i acc (bs.drop (at_+i)))/\Hid (Blk wr ga [.slice p n c,.int .i64 ((at_+i:Nat):Int),v] 160)/\Hid (w.grownBy wr (some ga)))
 case atStart=>exact⟨0,0,by omega,rfl,rfl,rfl,rfl,by simp,by omega,rfl,HK,only_refl _ _⟩
 case round=>
  obtain⟨i,acc,hi,rfl,rfl,rfl,rfl,hacc,hai,HE,HK2,HO⟩:=hrel
  have c0:wr.cell? ⟨ga,0,none⟩=some (.slice p n c):=HK2.out.cell 0
  have c1:wr.cell? ⟨ga,1,none⟩=some (.int .i64 ((at_+i:Nat):Int)):=HK2.out.cell 1
  have f1:wr.frozen? ⟨ga,1,none⟩=false:=HK2.out.free 1
  have hacc2:=Lib.hid hacc
  clear hacc
  obtain⟨at2,ha2⟩:∃a,a=at_+i:=⟨_,rfl⟩
  rw[<-ha2]at c1 hai
  have HA2:=Lib.hid ha2
  clear ha2
  by_cases hend:at2=n
  ·have hend':((at2:Int) == (n:Int))=true:=by rw[beq_iff_eq];omega
   have HR:=Lib.hid (show Fld.rd 0 0 (bs.drop at_)=(4,0,i) by rw[HE.out,<-HA2.out,hend,<-HN.out,List.drop_length];rfl)
   clear hend
   go_wp2_with fail
   go_quiet (fail)
   go_wp2_with fail
   go_step3
   refine⟨rfl,?_⟩
   go_wp2_with fail
   rw[Exit.noGoto_ret]
   go_ret2
   exact⟨by rw[HR.out];rfl,by rw[HR.out];exact HK2.out.drewN nq,only_drewN HO.out nq⟩
  ·have hend':((at2:Int) == (n:Int))=false:=by rw[beq_eq_false_iff_ne];omega
   have hlt:at2 < n:=by omega
   have hlb:at2 < bs.length:=by rw[HN.out];exact hlt
   obtain⟨x,hx⟩:∃x,x=bs[at2]:=⟨_,rfl⟩
   have HD:=Lib.hid (show bs.drop at2=x::bs.drop (at2+1) by rw[hx];exact List.drop_eq_getElem_cons hlb)
   have hx0:0<=x/\x<=255:=HBD.out x (by rw[hx];exact List.getElem_mem hlb)
   obtain⟨b,off,rfl,hcell⟩:=HA.out.addr (by rw[List.length_map];omega)
   have hx1:w0.cell? ⟨b,off+at2,none⟩=some (v8 x):=hcell _ _ (by rw[List.getElem?_map,List.getElem?_eq_getElem hlb,hx];rfl)
   have HBW:=Lib.hid (below_only HB.out HO.out hga HB.out.size)
   have x1:wr.cell? ⟨b,off+at2,none⟩=some (v8 x):=(HBW.out.cell (p:=⟨b,off+at2,none⟩) (World.block_lt_of_cell? w0 _ hx1)).trans hx1
   have HE2:=Lib.hid (show Fld.rd 0 0 (bs.drop at_)=Fld.rd i acc (x::bs.drop (at2+1)) by rw[HE.out,<-HA2.out,HD.out])
   clear hend hx hcell hx1 hlb HE
   by_cases h9:i=9
   ·subst h9
    have HR:=Lib.hid (HE2.out.trans rd_cons_nine)
    rw[show((9:Nat):Int)=(9:Int)from rfl]
    go_wp2_with fail
    go_quiet (fail)
    go_wp2_with fail
    go_step3
    refine⟨rfl,?_⟩
    go_wp2_with fail
    rw[Exit.noGoto_ret]
    go_ret2
    exact⟨by rw[HR.out];rfl,by rw[HR.out];exact(HK2.out.drewN nq).set 1 _,only_set (only_drewN HO.out nq) 1 _⟩
   ·have h9':((i:Int) == 9)=false:=by rw[beq_eq_false_iff_ne];omega
    have hi8:i<=8:=by omega
    have hor:=or_step acc i x hi8 hacc2.out hx0
    have hml:=or_lt acc i x hacc2.out hx0
    obtain⟨m,hmm⟩:∃m,m=acc+(x % 128).toNat*128 ^ i:=⟨_,rfl⟩
    rw[<-hmm]at hor hml
    have hm63:m<=9223372036854775807:=by
     have:=Nat.pow_le_pow_right (n:=128) (by omega) (show i+1<=9 by omega)
     have h9:(128:Nat) ^ 9=9223372036854775808:=by decide
     omega
    have HML:=Lib.hid hml
    have HMM:=Lib.hid hmm
    have H9:=Lib.hid h9
    clear h9 hml hmm
    by_cases h128:128<=x
    ·have HR:=Lib.hid (HE2.out.trans (rd_cons_more H9.out h128))
     go_wp2_with fail
     go_quiet (fail)
     go_wp2_with fail
     go_quiet (fail)
     go_wp2_with fail
     go_roundg (10 - (i+1))
     case measure=>omega
     case rel=>
      refine⟨i+1,m,by omega,rfl,rfl,rfl,by go_num,HML.out,by have:=HA2.out;omega,Lib.hid (by rw[HR.out,<-HMM.out,HA2.out,Nat.add_assoc]),Lib.hid ?_,Lib.hid (only_set (only_drewN HO.out _) 1 _)⟩
      rw[show((at_+(i+1):Nat):Int)=(at2:Int)+1 by rw[HA2.out];omega]
      exact(HK2.out.drewN _).set 1 _
    ·have htr:(Blk wr ga [.slice (some ⟨b,off,none⟩) n c,.int .i64 at2,v] 160):=by have:=HK2.out;rwa [<-HA2.out]at this
     have HT:=Lib.hid htr
     clear htr
     by_cases tm:4611686018427387903 < m
     ·by_cases t0:x=0
      ·have t0':(x == 0)=true:=by simpa using t0
       clear t0
       by_cases ti:0 < i
       ·have HR:=Lib.hid (HE2.out.trans (rd_cons_form H9.out h128 (by rw[<-HMM.out];exact Or.inr tm)))
        go_wp2_with fail
        go_quiet (fail)
        go_wp2_with fail
        go_quiet (fail)
        go_wp2_with fail
        go_step3
        refine⟨rfl,?_⟩
        go_wp2_with fail
        rw[Exit.noGoto_ret]
        go_ret2
        exact⟨by rw[HR.out];rfl,by rw[HR.out];exact((HK2.out.drewN _).set 1 _).set 1 _,only_set (only_set (only_drewN HO.out _) 1 _) 1 _⟩
       ·have HR:=Lib.hid (HE2.out.trans (rd_cons_form H9.out h128 (by rw[<-HMM.out];exact Or.inr tm)))
        go_wp2_with fail
        go_quiet (fail)
        go_wp2_with fail
        go_quiet (fail)
        go_wp2_with fail
        go_step3
        refine⟨rfl,?_⟩
        go_wp2_with fail
        rw[Exit.noGoto_ret]
        go_ret2
        exact⟨by rw[HR.out];rfl,by rw[HR.out];exact((HK2.out.drewN _).set 1 _).set 1 _,only_set (only_set (only_drewN HO.out _) 1 _) 1 _⟩
      ·have t0':(x == 0)=false:=by simpa using t0
       clear t0
       have HR:=Lib.hid (HE2.out.trans (rd_cons_form H9.out h128 (by rw[<-HMM.out];exact Or.inr tm)))
       go_wp2_with fail
       go_quiet (fail)
       go_wp2_with fail
       go_quiet (fail)
       go_wp2_with fail
       go_step3
       refine⟨rfl,?_⟩
       go_wp2_with fail
       rw[Exit.noGoto_ret]
       go_ret2
       exact⟨by rw[HR.out];rfl,by rw[HR.out];exact((HK2.out.drewN _).set 1 _).set 1 _,only_set (only_set (only_drewN HO.out _) 1 _) 1 _⟩
     ·by_cases t0:x=0
      ·have t0':(x == 0)=true:=by simpa using t0
       have T0:=Lib.hid t0
       clear t0
       by_cases ti:0 < i
       ·have HR:=Lib.hid (HE2.out.trans (rd_cons_form H9.out h128 (by rw[<-HMM.out];exact Or.inl ⟨T0.out,ti⟩)))
        go_wp2_with fail
        go_quiet (fail)
        go_wp2_with fail
        go_quiet (fail)
        go_wp2_with fail
        go_step3
        refine⟨rfl,?_⟩
        go_wp2_with fail
        rw[Exit.noGoto_ret]
        go_ret2
        exact⟨by rw[HR.out];rfl,by rw[HR.out];exact((HK2.out.drewN _).set 1 _).set 1 _,only_set (only_set (only_drewN HO.out _) 1 _) 1 _⟩
       ·have HR:=Lib.hid (HE2.out.trans (rd_cons_last H9.out h128 (by rw[<-HMM.out];rintro(⟨_,h⟩ | h);exact ti h;exact tm h)))
        go_wp2_with fail
        go_quiet (fail)
        go_wp2_with fail
        go_quiet (fail)
        go_wp2_with fail
        go_step3
        refine⟨rfl,?_⟩
        go_wp2_with fail
        rw[Exit.noGoto_ret]
        go_ret2
        exact⟨by rw[HR.out,<-HMM.out];rfl,by rw[HR.out,show((at_+(0,((acc+(x % 128).toNat*128 ^ i:Nat):Int),i+1).2.2:Nat):Int)=(at2:Int)+1 by rw[HA2.out];simp only[];omega];exact(HK2.out.drewN _).set 1 _,only_set (only_drewN HO.out _) 1 _⟩
      ·have t0':(x == 0)=false:=by simpa using t0
       have T0:=Lib.hid t0
       clear t0
       have HR:=Lib.hid (HE2.out.trans (rd_cons_last H9.out h128 (by rw[<-HMM.out];rintro(⟨h,_⟩ | h);exact T0.out h;exact tm h)))
       go_wp2_with fail
       go_quiet (fail)
       go_wp2_with fail
       go_quiet (fail)
       go_wp2_with fail
       go_step3
       refine⟨rfl,?_⟩
       go_wp2_with fail
       rw[Exit.noGoto_ret]
       go_ret2
       exact⟨by rw[HR.out,<-HMM.out];rfl,by rw[HR.out,show((at_+(0,((acc+(x % 128).toNat*128 ^ i:Nat):Int),i+1).2.2:Nat):Int)=(at2:Int)+1 by rw[HA2.out];simp only[];omega];exact(HK2.out.drewN _).set 1 _,only_set (only_drewN HO.out _) 1 _⟩
end
section
open Go.RowKit Sha
open Fld (Itm)
structure RIn (w0:World)(ga:Nat)(bs:List Int)(p:Option Addr)(n c:Nat):Prop where
 len:bs.length=n
 bd:∀x∈bs,0<=x/\x<=255
 at_:At w0 p (bs.map v8)
 base:w0.heap.size<=ga
 le:n<=c
 max:c<=9223372036854775807
 nil:p=none->c=0
theorem rd_ten (bs:List Int):∀i acc,(Fld.rd i acc bs).1=10->(Fld.rd i acc bs).2.2=0:=by
 induction bs with
 | nil=>intro i acc h;simp[Fld.rd]at h
 | cons x r ih=>
    intro i acc
    unfold Fld.rd
    split
    ·simp
    ·split
     ·exact ih _ _
     ·split<;>simp
theorem rd_four (bs:List Int):∀i acc,(Fld.rd i acc bs).1=4->(Fld.rd i acc bs).2.2=i+bs.length:=by
 induction bs with
 | nil=>intro i acc h;simp[Fld.rd]
 | cons x r ih=>
    intro i acc
    unfold Fld.rd
    split
    ·simp
    ·split
     ·intro h;rw[ih _ _ h];simp;omega
     ·split<;>simp
theorem rdTop_gt {l:List Int}(h:4000 < (Fld.rd 0 0 l).2.1):Fld.rdTop l=(3,0,0):=by unfold Fld.rdTop;rw[if_pos h]
theorem rdTop_le {l:List Int}(h:¬4000 < (Fld.rd 0 0 l).2.1):Fld.rdTop l=Fld.rd 0 0 l:=by unfold Fld.rdTop;rw[if_neg h]
theorem count_any (w0:World)(ga:Nat)(bs:List Int)(p:Option Addr)(n c:Nat)(hin:RIn w0 ga bs p n c)(v:Value)(at_:Nat)(w:World)(hB:Below w0.heap.size w0 w)(hat:at_<=n)(hK:Blk w ga [.slice p n c,.int .i64 at_,v] 160):
 Calls Tryz.prog 145 #[.pointer (some ⟨ga,0,none⟩),.int .i64 4000] w (NDone ga (.slice p n c) v (Fld.rdTop (bs.drop at_)) at_ w):=by
 have HI:=Lib.hid hin
 have HB:=Lib.hid hB
 have HK:=Lib.hid hK
 have e1:w.cell? ⟨ga,1,none⟩=some (.int .i64 at_):=hK.cell 1
 obtain⟨r,hr⟩:∃r,r=Fld.rd 0 0 (bs.drop at_):=⟨_,rfl⟩
 have HR:=Lib.hid hr
 have hx:=HI.out.max
 clear hin hB hK
 by_cases h4:4000 < r.2.1
 ·have HT:=Lib.hid (rdTop_gt (by rw[<-hr];exact h4))
  clear hr
  go_enter Tryz.func145,Tryz.ntmps145
  go_wp2_with (go_at_call 146;refine(rnum_any w0 ga bs p n c v at_ w HI.out.len HI.out.bd HI.out.at_ HB.out HI.out.base HI.out.le HI.out.max hat HK.out).mono ?_;rw[<-HR.out];rintro e w1 ⟨rfl,hk1,ho1⟩;have c1:w1.cell? ⟨ga,1,none⟩=some (.int .i64 ((at_+r.2.2:Nat):Int)):=hk1.cell 1;have f1:w1.frozen? ⟨ga,1,none⟩=false:=hk1.free 1;have HK1:=Lib.hid hk1;have HO1:=Lib.hid ho1;clear hk1 ho1)
  go_ret2
  exact⟨by rw[HT.out];rfl,by rw[HT.out];exact HK1.out.set 1 _,only_set HO1.out 1 _⟩
 ·have HT:=Lib.hid ((rdTop_le (by rw[<-hr];exact h4)).trans hr.symm)
  clear hr
  go_enter Tryz.func145,Tryz.ntmps145
  go_wp2_with (go_at_call 146;refine(rnum_any w0 ga bs p n c v at_ w HI.out.len HI.out.bd HI.out.at_ HB.out HI.out.base HI.out.le HI.out.max hat HK.out).mono ?_;rw[<-HR.out];rintro e w1 ⟨rfl,hk1,ho1⟩;have HK1:=Lib.hid hk1;have HO1:=Lib.hid ho1;clear hk1 ho1)
  go_ret2
  exact⟨by rw[HT.out];rfl,by rw[HT.out];exact HK1.out,HO1.out⟩
def FDone (ga gr off k:Nat)(bv v:Value)(cur:List Value)(t:TypeId)(bs:List Int)(at_ n:Nat)(w:World)(e:Ending)(w':World):Prop:=
 if n - at_ < k then e= .returned (.int .i64 4)/\Blk w' ga [bv,.int .i64 n,v] 160/\Blk w' gr cur t/\w.grownBy w' (some ga)
 else e= .returned (.int .i64 0)/\Blk w' ga [bv,.int .i64 ((at_+k:Nat):Int),v] 160/\Blk w' gr (splice cur off (((bs.drop at_).take k).map v8)) t/\∃w1,Below gr w w1/\w1.grownBy w' (some ga)
theorem fill_no (w0:World)(ga gr off k cr:Nat)(bs:List Int)(p:Option Addr)(n c:Nat)(hin:RIn w0 ga bs p n c)(v:Value)(at_:Nat)(w:World)(hB:Below w0.heap.size w0 w)(hat:at_<=n)(hK:Blk w ga [.slice p n c,.int .i64 at_,v] 160)
 (cur:List Value) (t:TypeId) (hG:Blk w gr cur t) (hlt:ga < gr) (hk:n - at_ < k) (hkm:k<=4000):
 Calls Tryz.prog 144 #[.pointer (some ⟨ga,0,none⟩),.slice (some ⟨gr,off,none⟩) k cr] w (FDone ga gr off k (.slice p n c) v cur t bs at_ n w):=by
 have HI:=Lib.hid hin
 have HK:=Lib.hid hK
 have HG:=Lib.hid hG
 have e0:w.cell? ⟨ga,0,none⟩=some (.slice p n c):=hK.cell 0
 have e1:w.cell? ⟨ga,1,none⟩=some (.int .i64 at_):=hK.cell 1
 have f1:w.frozen? ⟨ga,1,none⟩=false:=hK.free 1
 have hx:=HI.out.max
 have hle:=HI.out.le
 have d1:IntKind.i64.wrap ((n:Int) - (at_:Int))=(n:Int) - (at_:Int):=IntWalk.i64_in _ (by omega)
 have d2:(n:Int) - (at_:Int) < (k:Int):=by omega
 clear hin hK hG hB
 go_enter Tryz.func144,Tryz.ntmps144
 go_wp2_with fail
 go_quiet (fail)
 clear d1
 go_wp2_with fail
 go_ret
 unfold FDone
 rw[if_pos hk]
 have hne:gr≠ga:=by omega
 exact⟨rfl,(HK.out.drewN _).set 1 _,(HG.out.drewN _).setOther _ _ hne,only_set (only_drewN (only_refl w ga) _) 1 _⟩
theorem sl_cut (p:Option Addr)(n c at_:Nat)(h:at_<=n):∃sp,∀w,(Instr.sliceAt 26 (.slice p n c) (some (.int .i64 (at_:Int))) none none).run Tryz.prog w= .ok (.slice sp (n - at_) (c - at_)) w/\sp=(if c=at_ then p else p.map (·.add at_)):=by
 refine⟨_,fun w=>⟨?_,rfl⟩⟩
 have:=run_cut_l (P:=Tryz.prog) 26 5 p n c Tryz.underlying26 kslice1 .i64 (at_:Int) (by omega) (by omega) w
 rw[Int.toNat_natCast]at this
 rw[this];rfl
theorem src_at {w0 w:World} {bs:List Int} {p sp:Option Addr} {n c at_ k:Nat}(hA:At w0 p (bs.map v8))(hB:Below w0.heap.size w0 w)(hl:bs.length=n)(hc:n<=c)(hsp:sp=(if c=at_ then p else p.map (·.add at_))):
 0 < (((bs.drop at_).take k).map v8).length->∃ad,sp=some ad/\∀j u,(((bs.drop at_).take k).map v8)[j]? = some u->w.cell? (ad.add j)=some u:=by
 intro h0
 have h1:=(hA.below hB).sub at_ n c (by rw[List.length_map];omega)
 rw[<-hsp]at h1
 have e:((bs.map v8).take n).drop at_=(bs.drop at_).map v8:=by
  rw[List.take_of_length_le (by rw[List.length_map];omega),List.map_drop]
 rw[e]at h1
 obtain⟨b,off,hs,hcell⟩:=h1.addr (by simp at h0 ⊢;omega)
 refine⟨_,hs,fun j u hj=>?_⟩
 rw[Addr.add_mid]
 refine hcell j u ?_
 rw[List.map_take,List.getElem?_take]at hj
 split at hj
 ·exact hj
 ·cases hj
theorem fill_yes (w0:World)(ga gr off k cr:Nat)(bs:List Int)(p:Option Addr)(n c:Nat)(hin:RIn w0 ga bs p n c)(v:Value)(at_:Nat)(w:World)(hB:Below w0.heap.size w0 w)(hat:at_<=n)(hK:Blk w ga [.slice p n c,.int .i64 at_,v] 160)
 (cur:List Value) (t:TypeId) (hG:Blk w gr cur t) (hlt:ga < gr) (hk:¬n - at_ < k) (hkm:k<=4000) (hfit:off+k<=cur.length):
 Calls Tryz.prog 144 #[.pointer (some ⟨ga,0,none⟩),.slice (some ⟨gr,off,none⟩) k cr] w (FDone ga gr off k (.slice p n c) v cur t bs at_ n w):=by
 have HI:=Lib.hid hin
 have HK:=Lib.hid hK
 have HG:=Lib.hid hG
 have e0:w.cell? ⟨ga,0,none⟩=some (.slice p n c):=hK.cell 0
 have e1:w.cell? ⟨ga,1,none⟩=some (.int .i64 at_):=hK.cell 1
 have f1:w.frozen? ⟨ga,1,none⟩=false:=hK.free 1
 have hx:=HI.out.max
 have hle:=HI.out.le
 have d1:IntKind.i64.wrap ((n:Int) - (at_:Int))=(n:Int) - (at_:Int):=IntWalk.i64_in _ (by omega)
 have d2:decide ((n:Int) - (at_:Int) < (k:Int))=false:=by simp;omega
 obtain⟨sp,hsp⟩:=sl_cut p n c at_ hat
 have hcut:=fun w=>(hsp w).1
 obtain⟨cs,hcs⟩:∃cs,cs=((bs.drop at_).take k).map v8:=⟨_,rfl⟩
 have hcl:cs.length=k:=by rw[hcs];simp[HI.out.len];omega
 have HS:=Lib.hid (fun(w':World) (hb:Below w0.heap.size w0 w')=>src_at (k:=k) HI.out.at_ hb HI.out.len HI.out.le (hsp w').2)
 have HB:=Lib.hid hB
 have HC:=Lib.hid hcs
 have HF:=Lib.hid hfit
 have H1:=Lib.hid (show∀u∈cs,u.oneCell'=true by rw[hcs];exact kone8 _)
 clear hin hK hG hB hsp hcs hfit
 go_enter Tryz.func144,Tryz.ntmps144
 go_wp2_with fail
 go_quiet (fail)
 clear d1 d2
 go_wp2_with fail
 have q0:(w.drewN nq).cell? ⟨ga,0,none⟩=some (.slice p n c):=e0
 have q1:(w.drewN nq).cell? ⟨ga,1,none⟩=some (.int .i64 at_):=e1
 have q2:(w.drewN nq).frozen? ⟨ga,1,none⟩=false:=f1
 have HKq:=Lib.hid (HK.out.drewN nq)
 have HGq:=Lib.hid (HG.out.drewN nq)
 have HBq:=Lib.hid (below_drewN HB.out nq)
 have HWq:=Lib.hid (below_drewN (Below.refl gr w) nq)
 clear e0 e1 f1 HK HG HB
 generalize w.drewN nq=wq at *
 have hks:Nat.min (n - at_) k=k:=Nat.min_eq_right (by omega)
 have HKS:=Lib.hid hks
 clear hks
 go_region_law ((refine step_copy_splice (by rfl) (.tmp 30) (.tmp 39) 26 26 (by rfl) 5 Tryz.underlying26 kslice1 (some ⟨gr,off,none⟩) sp k cr (n - at_) (c - at_) (by rfl) (by rfl) gr off cur t HGq.out.drew cs (by rw[HKS.out];exact hcl) (by intro h0;refine⟨rfl,?_⟩;rw[HC.out]at h0 ⊢;exact HS.out wq.drew HBq.out.drew h0) (by rw[hcl];exact HF.out) H1.out gr wq ((Below.refl gr wq).drew) (Nat.le_refl _) ?_;intro w4 hg4 hb4;have r1:w4.cell? ⟨ga,1,none⟩=some (.int .i64 at_):=(hb4.cell hlt).trans q1;have r2:w4.frozen? ⟨ga,1,none⟩=false:=(hb4.frozen hlt).trans q2;have HB4:=Lib.hid hb4;have HG4:=hg4;clear hb4 hg4))
 all_goals
  go_wp2_with fail
  go_ret
  unfold FDone
  rw[if_neg hk]
  have hne:gr≠ga:=by omega
  have hk4:Blk w4 ga [.slice p n c,.int .i64 at_,v] 160:=HKq.out.below HB4.out hlt
  have hg5:Blk w4 gr (splice cur off (((bs.drop at_).take k).map v8)) t:=by rw[<-HC.out];exact HG4.out
  exact⟨rfl,by rw[show((at_+k:Nat):Int)=IntKind.i64.wrap ((at_:Int)+(k:Int)) by rw[IntWalk.i64_in _ (by omega)];omega];exact hk4.set 1 _,hg5.setOther _ _ hne,w4,HWq.out.trans HB4.out,only_set (only_refl w4 ga) 1 _⟩
theorem fill_any (w0:World)(ga gr off k cr:Nat)(bs:List Int)(p:Option Addr)(n c:Nat)(hin:RIn w0 ga bs p n c)(v:Value)(at_:Nat)(w:World)(hB:Below w0.heap.size w0 w)(hat:at_<=n)(hK:Blk w ga [.slice p n c,.int .i64 at_,v] 160)
 (cur:List Value) (t:TypeId) (hG:Blk w gr cur t) (hlt:ga < gr) (hkm:k<=4000) (hfit:off+k<=cur.length):
 Calls Tryz.prog 144 #[.pointer (some ⟨ga,0,none⟩),.slice (some ⟨gr,off,none⟩) k cr] w (FDone ga gr off k (.slice p n c) v cur t bs at_ n w):=by
 by_cases hk:n - at_ < k
 ·exact fill_no w0 ga gr off k cr bs p n c hin v at_ w hB hat hK cur t hG hlt hk hkm
 ·exact fill_yes w0 ga gr off k cr bs p n c hin v at_ w hB hat hK cur t hG hlt hk hkm hfit
end
section
open Go.RowKit Sha
open Fld (Itm)
theorem only_fill {w wA w1 w2:World} {ga gr:Nat}(h:w.grownBy wA (some ga))(hr:w.heap.size<=gr)(h1:Below gr wA w1)(h2:w1.grownBy w2 (some ga)):w.grownBy w2 (some ga):=
 ⟨h2.os.trans (h1.os.trans h.os),h2.tape.trans (h1.tape.trans h.tape),h2.output.trans (h1.output.trans h.output),Nat.le_trans h.size (Nat.le_trans h1.size h2.size),fun i hi hn=>
  (h2.block i (Nat.lt_of_lt_of_le hi (Nat.le_trans h.size h1.size)) hn).trans ((h1.block i (by omega)).trans (h.block i hi hn))⟩
theorem only_alloc {a w:World} {row:Option Nat}(h:a.grownBy w row)(o:Obj):a.grownBy (w.alloc o) row:=
 ⟨h.os,h.tape,h.output,Nat.le_trans h.size (by simp),fun i hi hne=>(Below.heap_alloc w o i (Nat.lt_of_lt_of_le hi h.size)).trans (h.block i hi hne)⟩
def BDone (ga:Nat)(bv v:Value)(bs:List Int)(at_ n:Nat)(w:World)(e:Ending)(w':World):Prop:=
 ∃(qq:Option Addr) (mm cc:Nat) (er:Int) (at2:Nat),e= .returned (.tuple #[.slice qq mm cc,.int .i64 er])/\Blk w' ga [bv,.int .i64 (at2:Int),v] 160/\w.grownBy w' (some ga)/\
  ((er≠0/\at_<=at2/\at2<=n/\∀acc,Fld.getS bs 98 (at_,acc)=((at2,acc),0,er))\/
   (er=0/\∃(m k g:Nat),(∀acc,Fld.getS bs 98 (at_,acc)=((at2,acc++[⟨0,(bs.drop (at_+k)).take m,Fld.zero32⟩]),0,0))/\m=((bs.drop (at_+k)).take m).length/\m<=4000/\at_ < at2/\at2<=n/\qq=some ⟨g,0,none⟩/\mm=m/\cc=m/\Blk w' g (((bs.drop (at_+k)).take m).map v8) 5/\w.heap.size<=g))
theorem rdTop_at (l:List Int)(a:Nat)(h:(Fld.rdTop l).1≠0):a+(Fld.rdTop l).2.2=if(Fld.rdTop l).1=4 then a+l.length else a:=by
 unfold Fld.rdTop at *
 split
 ·simp
 ·rename_i h4
  rw[if_neg h4]at h
  rcases Fld.rd_err l 0 0 with h1 | ⟨h1 | h1,_⟩
  ·exact absurd h1 h
  ·rw[if_pos h1,rd_four l 0 0 h1,Nat.zero_add]
  ·rw[if_neg (by omega),rd_ten l 0 0 h1,Nat.add_zero]
theorem rd_at (l:List Int)(a:Nat)(h:(Fld.rd 0 0 l).1≠0):a+(Fld.rd 0 0 l).2.2=if(Fld.rd 0 0 l).1=4 then a+l.length else a:=by
 rcases Fld.rd_err l 0 0 with h1 | ⟨h1 | h1,_⟩
 ·exact absurd h1 h
 ·rw[if_pos h1,rd_four l 0 0 h1,Nat.zero_add]
 ·rw[if_neg (by omega),rd_ten l 0 0 h1,Nat.add_zero]
theorem getS_b_err {bs:List Int} {at_:Nat}(ha:at_<=bs.length) {r:Int×Int×Nat}(hr:r=Fld.rdTop (bs.drop at_))(h:r.1≠0)(acc:List Itm):Fld.getS bs 98 (at_,acc)=((at_+r.2.2,acc),0,r.1):=by
 subst hr
 unfold Fld.getS
 rw[if_pos rfl]
 simp only
 rw[if_neg h,rdTop_at _ at_ h,List.length_drop,show at_+(bs.length - at_)=bs.length by omega]
theorem getS_b_short {bs:List Int} {at_ m k:Nat}(hr:Fld.rdTop (bs.drop at_)=(0,(m:Int),k))(hk:at_+k<=bs.length)(h:bs.length - (at_+k) < m)(acc:List Itm):Fld.getS bs 98 (at_,acc)=((bs.length,acc),0,4):=by
 unfold Fld.getS
 rw[if_pos rfl]
 simp only[hr,if_true]
 rw[if_pos (by omega)]
theorem getS_b_ok {bs:List Int} {at_ m k:Nat}(hr:Fld.rdTop (bs.drop at_)=(0,(m:Int),k))(hk:at_+k<=bs.length)(h:¬bs.length - (at_+k) < m)(acc:List Itm):Fld.getS bs 98 (at_,acc)=((at_+k+m,acc++[⟨0,(bs.drop (at_+k)).take m,Fld.zero32⟩]),0,0):=by
 unfold Fld.getS
 rw[if_pos rfl]
 simp only[hr,if_true]
 rw[if_neg (by omega)]
 simp
theorem splice_all (cur cs:List Value)(h:cur.length=cs.length):splice cur 0 cs=cs:=by
 unfold splice;simp[h]
theorem bytes_any (w0:World)(ga:Nat)(bs:List Int)(p:Option Addr)(n c:Nat)(hin:RIn w0 ga bs p n c)(v:Value)(at_:Nat)(w:World)(hB:Below w0.heap.size w0 w)(hat:at_<=n)(hK:Blk w ga [.slice p n c,.int .i64 at_,v] 160):
 Calls Tryz.prog 143 #[.pointer (some ⟨ga,0,none⟩)] w (BDone ga (.slice p n c) v bs at_ n w):=by
 have HI:=Lib.hid hin
 have HB:=Lib.hid hB
 have HK:=Lib.hid hK
 obtain⟨r,hr⟩:∃r,r=Fld.rdTop (bs.drop at_):=⟨_,rfl⟩
 have HR:=Lib.hid hr
 have hab:at_<=bs.length:=by rw[HI.out.len];exact hat
 clear hin hB hK
 by_cases h0:r.1=0
 ·have h0':(r.1 == 0)=true:=by simpa using h0
  obtain⟨m,e1,e2,e3,e4,e5⟩:=Fld.rdTop_back (bs.drop at_) r.2.1 r.2.2 (fun x hx=>HI.out.bd x (List.mem_of_mem_drop hx)) (by rw[<-hr,<-h0])
  obtain⟨k,hk⟩:∃k,k=r.2.2:=⟨_,rfl⟩
  have hkn:at_+k<=n:=by rw[hk,e3];rw[List.length_drop,HI.out.len]at e4;omega
  have hk0:0 < k:=by rw[hk,e3];exact Fld.num_pos m
  have HRR:=Lib.hid (show Fld.rdTop (bs.drop at_)=(0,(m:Int),k) by rw[<-hr];exact Prod.ext h0 (Prod.ext e1 hk.symm))
  have hr2:r=(0,(m:Int),k):=Prod.ext h0 (Prod.ext e1 hk.symm)
  clear e1 e3 e4 e5 hk h0 hr
  subst hr2
  have hmk:=run_make_row' (P:=Tryz.prog) 26 5 (.int .u8 0) 1 Tryz.underlying26 kbyte_info rfl .i64 .i64 m (by omega) (by omega)
  go_enter Tryz.func143,Tryz.ntmps143
  go_wp2_with (go_at_call 145;refine(count_any w0 ga bs p n c HI.out v at_ w HB.out hat HK.out).mono ?_;rw[HRR.out];rintro e w1 ⟨rfl,hk1,ho1⟩;have HK1:=Lib.hid hk1;have HO1:=Lib.hid ho1;clear hk1 ho1)
  have hks:=HI.out.base
  have hg1:=HO1.out.size
  have hgl:ga < w1.heap.size:=HK1.out.lt
  have HKA:=Lib.hid (HK1.out.old (Obj.cells (madeCells #[Value.int IntKind.u8 0] m) 5))
  have HGA:=Lib.hid (Blk.new w1 (madeCells #[Value.int IntKind.u8 0] m) 5)
  have HOA:=Lib.hid (only_alloc HO1.out (Obj.cells (madeCells #[Value.int IntKind.u8 0] m) 5))
  have HBA:=Lib.hid (below_only HB.out HOA.out hks HB.out.size)
  have HCL:=Lib.hid (show(madeCells #[Value.int IntKind.u8 0] m).toList.length=m by rw[Array.length_toList,size_madeCells])
  clear hmk HK1 HO1 HB HK
  generalize w1.alloc (Obj.cells (madeCells #[Value.int IntKind.u8 0] m) 5)=wA at *
  generalize w1.heap.size=gr at *
  generalize(madeCells #[Value.int IntKind.u8 0] m).toList=cur at *
  refine(fill_any w0 ga gr 0 m m bs p n c HI.out v (at_+k) wA HBA.out hkn HKA.out cur 5 HGA.out hgl e2 (by rw[HCL.out];omega)).mono ?_
  rintro e w2 hf
  unfold FDone at hf
  by_cases hsh:n - (at_+k) < m
  ·rw[if_pos hsh]at hf
   obtain⟨rfl,hk2,_,ho2⟩:=hf
   have HK2:=Lib.hid hk2
   have HO2:=Lib.hid (only_trans HOA.out ho2)
   have HS:=Lib.hid hsh
   clear hk2 ho2 hsh
   go_wp2_with fail
   go_ret2
   exact⟨some ⟨gr,0,none⟩,m,m,4,n,rfl,HK2.out,HO2.out,Or.inl ⟨by decide,hat,Nat.le_refl _,fun acc=>by rw[getS_b_short HRR.out (by rw[HI.out.len];exact hkn) (by rw[HI.out.len];exact HS.out),HI.out.len]⟩⟩
  ·rw[if_neg hsh]at hf
   obtain⟨rfl,hk2,hg2,w3,hb3,ho3⟩:=hf
   have HK2:=Lib.hid hk2
   have HO2:=Lib.hid (only_fill HOA.out hg1 hb3 ho3)
   have HTL:=Lib.hid (show((bs.drop (at_+k)).take m).length=m by rw[List.length_take,List.length_drop,HI.out.len];omega)
   have HG2:=Lib.hid (show Blk w2 gr (((bs.drop (at_+k)).take m).map v8) 5 by rwa [splice_all cur _ (by rw[HCL.out,List.length_map,HTL.out])]at hg2)
   have HS:=Lib.hid hsh
   clear hk2 hg2 hb3 ho3 hsh
   go_wp2_with fail
   go_ret2
   exact⟨some ⟨gr,0,none⟩,m,m,0,at_+k+m,rfl,HK2.out,HO2.out,Or.inr ⟨rfl,m,k,gr,fun acc=>getS_b_ok HRR.out (by rw[HI.out.len];exact hkn) (by rw[HI.out.len];exact HS.out) acc,HTL.out.symm,e2,by omega,by have:=HS.out;omega,rfl,rfl,rfl,HG2.out,hg1⟩⟩
 ·have h0':(r.1 == 0)=false:=by simpa using h0
  have HE:=Lib.hid (fun acc=>getS_b_err hab hr h0 acc)
  have HN0:=Lib.hid h0
  have HLE:=Lib.hid (show at_+r.2.2<=n by have h1:=rdTop_at (bs.drop at_) at_ (by rw[<-hr];exact h0);rw[<-hr,List.length_drop,HI.out.len]at h1;split at h1<;>omega)
  clear h0 hr
  go_enter Tryz.func143,Tryz.ntmps143
  go_wp2_with (go_at_call 145;refine(count_any w0 ga bs p n c HI.out v at_ w HB.out hat HK.out).mono ?_;rw[<-HR.out];rintro e w1 ⟨rfl,hk1,ho1⟩;have HK1:=Lib.hid hk1;have HO1:=Lib.hid ho1;clear hk1 ho1)
  go_ret2
  exact⟨none,0,0,r.1,at_+r.2.2,rfl,HK1.out,HO1.out,Or.inl ⟨HN0.out,by omega,HLE.out,HE.out⟩⟩
end
section
open Go.RowKit Sha
open Fld (Itm)
structure GoodR (w:World)(x:Itm)(q:Option Addr)(c:Nat):Prop where
 ok:x.ok
 len:c=x.B.length
 max:c<=4000
 at_:(x.B= []/\q=none)\/∃g,q=some ⟨g,0,none⟩/\Blk w g (x.B.map v8) 5
theorem GoodR.good {w:World} {x:Itm} {q:Option Addr} {c:Nat}(h:GoodR w x q c):GoodI w x q c:=by
 refine⟨h.ok,?_,by rw[h.len];exact Nat.le_refl _,by have:=h.max;omega,?_⟩
 ·rcases h.at_ with⟨h1,h2⟩ | ⟨g,h1,h2⟩
  ·rw[h1];exact At.nil _ _
  ·exact Or.inr ⟨g,0,h1,h2.range⟩
 ·intro hq
  rcases h.at_ with⟨h1,h2⟩ | ⟨g,h1,h2⟩
  ·rw[h.len,h1];rfl
  ·rw[h1]at hq;cases hq
theorem GoodR.carry {w w':World} {x:Itm} {q:Option Addr} {c:Nat}(h:GoodR w x q c)(hc:∀g cs,Blk w g cs 5->Blk w' g cs 5):GoodR w' x q c:=
 ⟨h.ok,h.len,h.max,h.at_.imp id fun⟨g,h1,h2⟩=>⟨g,h1,hc _ _ h2⟩⟩
theorem ri_ne:(83:TypeId)≠160:=by decide
theorem ur_ne:(5:TypeId)≠160:=by decide
theorem iu_ne:(5:TypeId)≠83:=by decide
theorem blk_ne {w:World} {g g':Nat} {cs cs':List Value} {t t':TypeId}(h:Blk w g cs t)(h':Blk w g' cs' t')(hne:t≠t'):g≠g':=by
 rintro rfl
 unfold Blk at h h'
 rw[h]at h'
 injection h' with h'
 injection h' with _ ht
 exact hne ht
structure RSt (w0:World)(ga:Nat)(bs:List Int)(p:Option Addr)(n c:Nat)(st:Nat×List Itm)(v:Value)(ys:List Hdr)(w:World):Prop where
 blk:Blk w ga [.slice p n c,.int .i64 (st.1:Int),v] 160
 own:w.ownsRow w0.heap.size 83 34 v st.2.length (ys.flatMap cellsI)
 items:ys.map (·.1)=st.2
 good:∀y∈ys,GoodR w y.1 y.2.1 y.2.2
 at_:st.1<=n
 few:st.2.length<=st.1
 below:Below w0.heap.size w0 w
def RAt (w0:World)(ga:Nat)(bs:List Int)(p:Option Addr)(n c:Nat)(st:Nat×List Itm)(w:World):Prop:=∃v ys,RSt w0 ga bs p n c st v ys w
def GDone (w0:World)(ga:Nat)(bs:List Int)(p:Option Addr)(n c:Nat)(l:Int)(st:Nat×List Itm)(w:World)(e:Ending)(w':World):Prop:=
 e= .returned (.tuple #[.int .i64 (Fld.getS bs l st).2.1,.int .i64 (Fld.getS bs l st).2.2])/\RAt w0 ga bs p n c (Fld.getS bs l st).1 w'/\ItersKept w w'
theorem only_setNew {a w:World} {ga g:Nat}(h:a.grownBy w (some ga))(hg:a.heap.size<=g)(i:Nat)(u:Value):a.grownBy (w.setCell ⟨g,i,none⟩ u) (some ga):=
 ⟨h.os,h.tape,h.output,by simpa[World.setCell]using h.size,fun k hk hne=>(Below.heap_setCell w _ u k (by show k≠g;omega)).trans (h.block k hk hne)⟩
structure GStep (w0 w:World)(ga gx:Nat)(bs:List Int)(p:Option Addr)(n c:Nat)(st:Nat×List Itm)(v:Value)(ys:List Hdr)(at2:Nat)(x:Itm)(q:Option Addr)(qc:Nat)(w2:World):Prop where
 blk:Blk w2 ga [.slice p n c,.int .i64 (at2:Int),v] 160
 item:Blk w2 gx (icells x q qc) 83
 own:w2.ownsRow w0.heap.size 83 34 v st.2.length (ys.flatMap cellsI)
 items:ys.map (·.1)=st.2
 good:∀y∈ys,GoodR w2 y.1 y.2.1 y.2.2
 goodx:GoodR w2 x q qc
 below:Below w0.heap.size w0 w2
 size:w0.heap.size<=w2.heap.size
 iters:ItersKept w w2
 apart:v.ownBlock≠some gx
theorem RSt.step {w0 w:World} {ga gx:Nat} {bs:List Int} {p:Option Addr} {n c:Nat} {st:Nat×List Itm} {v:Value} {ys:List Hdr} {at2:Nat} {x:Itm} {q:Option Addr} {qc:Nat} {w2:World}(h:RSt w0 ga bs p n c st v ys w)(hb:w0.heap.size<=ga)
 (ho:w.grownBy w2 (some ga)) (hk:Blk w2 ga [.slice p n c,.int .i64 (at2:Int),v] 160) (hi:Blk w2 gx (icells x q qc) 83) (hx:GoodR w2 x q qc) (hgx:w.heap.size<=gx):GStep w0 w ga gx bs p n c st v ys at2 x q qc w2:=
 ⟨hk,hi,h.own.kept ho (Or.inr (own_ne h.own h.blk ri_ne)),h.items,fun y hy=>(h.good y hy).carry fun g cs hg=>hg.grow ho (fun e=>blk_ne hg h.blk ur_ne (Option.some.inj e).symm),hx,
  below_only h.below ho hb h.below.size,Nat.le_trans h.below.size ho.size,iters_of (others_only ho 5) ⟨_,_,h.blk⟩,fun e=>by have:=(h.own.lt gx e).2;omega⟩
theorem RSt.err {w0 w:World} {ga:Nat} {bs:List Int} {p:Option Addr} {n c:Nat} {st:Nat×List Itm} {v:Value} {ys:List Hdr} {at2:Nat} {w2:World}(h:RSt w0 ga bs p n c st v ys w)(hb:w0.heap.size<=ga)
 (ho:w.grownBy w2 (some ga)) (hk:Blk w2 ga [.slice p n c,.int .i64 (at2:Int),v] 160) (ha:at2<=n) (hf:st.2.length<=at2):RAt w0 ga bs p n c (at2,st.2) w2:=
 ⟨v,ys,hk,h.own.kept ho (Or.inr (own_ne h.own h.blk ri_ne)),h.items,fun y hy=>(h.good y hy).carry fun g cs hg=>hg.grow ho (fun e=>blk_ne hg h.blk ur_ne (Option.some.inj e).symm),ha,hf,below_only h.below ho hb h.below.size⟩
theorem GStep.done {w0 w:World} {ga gx:Nat} {bs:List Int} {p:Option Addr} {n c:Nat} {st:Nat×List Itm} {v v':Value} {ys:List Hdr} {at2:Nat} {x:Itm} {q:Option Addr} {qc:Nat} {w2 w5:World}(h:GStep w0 w ga gx bs p n c st v ys at2 x q qc w2)(hb:w0.heap.size<=ga)(o:Obj)
 (hg:(w2.alloc o).grownBy w5 v.ownBlock) (hown:w5.ownsRow w0.heap.size 83 34 v' (st.2.length+1) (ys.flatMap cellsI++icells x q qc)) (ha:at2<=n) (hf:st.2.length+1<=at2):
 RAt w0 ga bs p n c (at2,st.2++[x]) (w5.setCell ⟨ga,2,none⟩ v')/\ItersKept w (w5.setCell ⟨ga,2,none⟩ v')/\Blk w5 ga [.slice p n c,.int .i64 (at2:Int),v] 160/\Blk w5 gx (icells x q qc) 83:=by
 have hoA:=h.own.alloc o
 have hkA:=h.blk.old o
 have hk5:=hkA.grow hg (own_ne hoA hkA ri_ne)
 have hu:∀g cs,Blk w2 g cs 5->Blk (w5.setCell ⟨ga,2,none⟩ v') g cs 5:=fun g cs hgb=>by
  have h1:=hgb.old o
  exact(h1.grow hg (own_ne hoA h1 (fun e=>iu_ne e.symm))).setOther _ _ (blk_ne hgb h.blk ur_ne)
 have hi5:Blk w5 gx (icells x q qc) 83:=(h.item.old o).grow hg h.apart
 have hO:Lib.OthersKept 83 (some ga) w2 w5:=((Lib.OthersKept.refl _ _ _).alloc o).grown hg (own_kind hoA)
 refine⟨⟨v',ys++[(x,q,qc)],hk5.set 2 v',?_,by simp[h.items],fun y hy=>?_,ha,by simpa using hf,?_⟩,?_,hk5,hi5⟩
 ·have:=own_set hown hk5 ri_ne 2 v'
  simpa[cellsI]using this
 ·rcases List.mem_append.1 hy with hy | hy
  ·exact(h.good y hy).carry hu
  ·simp at hy;subst hy;exact h.goodx.carry hu
 ·exact((h.below.alloc h.size o).grown hg (by simp;have:=h.size;omega) (fun k hk=>(hoA.lt k hk).1)).setCell hb _
 ·exact h.iters.trans (iters_of (others_set hO 2 v') ⟨_,_,h.blk⟩)
end
section
open Go.RowKit Sha
open Fld (Itm)
theorem item0_ok':Itm.ok ⟨0,[],Fld.zero32⟩:=⟨by simp,by simp,by simp,by unfold Fld.zero32;intro n hn;have:=List.eq_of_mem_replicate hn;omega,Fld.zero32_length⟩
theorem getS_n_err {bs:List Int} {at_:Nat} {acc:List Itm}(ha:at_<=bs.length) {r:Int×Int×Nat}(hr:r=Fld.rd 0 0 (bs.drop at_))(h:r.1≠0):Fld.getS bs 110 (at_,acc)=((at_+r.2.2,acc),0,r.1):=by
 subst hr
 unfold Fld.getS
 rw[if_neg (by omega),if_neg (by omega)]
 simp only[show¬((110:Int)=40) by omega,if_false]
 rw[if_neg h,rd_at _ at_ h,List.length_drop,show at_+(bs.length - at_)=bs.length by omega]
theorem getS_n_ok {bs:List Int} {at_:Nat} {acc:List Itm} {r:Int×Int×Nat}(hr:r=Fld.rd 0 0 (bs.drop at_))(h:r.1=0):Fld.getS bs 110 (at_,acc)=((at_+r.2.2,acc++[⟨r.2.1,[],Fld.zero32⟩]),r.2.1,0):=by
 subst hr
 unfold Fld.getS
 rw[if_neg (by omega),if_neg (by omega)]
 simp only[show¬((110:Int)=40) by omega,if_false]
 rw[if_pos h]
theorem getS_o_err {bs:List Int} {at_:Nat} {acc:List Itm}(ha:at_<=bs.length) {r:Int×Int×Nat}(hr:r=Fld.rdTop (bs.drop at_))(h:r.1≠0):Fld.getS bs 40 (at_,acc)=((at_+r.2.2,acc),0,r.1):=by
 subst hr
 unfold Fld.getS
 rw[if_neg (by omega),if_neg (by omega)]
 simp only[if_true]
 rw[if_neg h,rdTop_at _ at_ h,List.length_drop,show at_+(bs.length - at_)=bs.length by omega]
theorem getS_o_ok {bs:List Int} {at_:Nat} {acc:List Itm} {r:Int×Int×Nat}(hr:r=Fld.rdTop (bs.drop at_))(h:r.1=0):Fld.getS bs 40 (at_,acc)=((at_+r.2.2,acc++[⟨r.2.1,[],Fld.zero32⟩]),r.2.1,0):=by
 subst hr
 unfold Fld.getS
 rw[if_neg (by omega),if_neg (by omega)]
 simp only[if_true]
 rw[if_pos h]
attribute [local go_sem ↓] execOp_loadItem execOp_buildItems
theorem get_n (w0:World)(ga:Nat)(bs:List Int)(p:Option Addr)(n c:Nat)(hin:RIn w0 ga bs p n c)(hn:n<=1000000)(at_:Nat)(l:List Itm)(w:World)(h:RAt w0 ga bs p n c (at_,l) w):
 Calls Tryz.prog 113 #[.pointer (some ⟨ga,0,none⟩),.int .i32 110] w (GDone w0 ga bs p n c 110 (at_,l) w):=by
 obtain⟨v,ys,hs⟩:=h
 have HI:=Lib.hid hin
 have HS:=Lib.hid hs
 have hat:at_<=n:=hs.at_
 obtain⟨r,hr⟩:∃r,r=Fld.rd 0 0 (bs.drop at_):=⟨_,rfl⟩
 have HR:=Lib.hid hr
 clear hin hs
 by_cases h0:r.1=0
 ·have h0':(r.1 == 0)=true:=by simpa using h0
  obtain⟨m,e1,e2,e3,e4,e5⟩:=Fld.rd_back0 (bs.drop at_) r.2.1 r.2.2 (fun x hx=>HI.out.bd x (List.mem_of_mem_drop hx)) (by rw[<-hr,<-h0])
  have HG:=Lib.hid (getS_n_ok (bs:=bs) (at_:=at_) (acc:=l) hr h0)
  have hpos:=Fld.num_pos m
  rw[List.length_drop,HI.out.len]at e4
  have hk1:at_+r.2.2<=n:=by omega
  have hk2:at_+1<=at_+r.2.2:=by omega
  have HOKX:=Lib.hid (show Itm.ok ⟨r.2.1,[],Fld.zero32⟩from⟨by simp only[];omega,by simp only[];omega,by simp,item0_ok'.D,Fld.zero32_length⟩)
  clear e1 e2 e3 e4 e5 h0 hr hpos
  go_enter Tryz.func113,Tryz.ntmps113
  go_wp2_with (first
   | (refine wpList_alloc_arr rfl 83 rfl _ item_info ?_;have hkA:=HS.out.blk.old (Obj.cells (icells ⟨0,[],Fld.zero32⟩ none 0).toArray 83);have hiA:=Blk.new w (icells ⟨0,[],Fld.zero32⟩ none 0).toArray 83;have hoA:=only_alloc (only_refl w ga) (Obj.cells (icells ⟨0,[],Fld.zero32⟩ none 0).toArray 83);rw[List.toList_toArray]at hiA;have hBA:=below_only HS.out.below hoA HI.out.base HS.out.below.size;have hgx:w.heap.size<=w.heap.size:=Nat.le_refl _;have hlt:ga < w.heap.size:=HS.out.blk.lt;have hgne:w.heap.size≠ga:=(by omega);generalize w.alloc (Obj.cells (icells ⟨0,[],Fld.zero32⟩ none 0).toArray 83)=wA at *;generalize hgxe:w.heap.size=gx at *;have HGX:=Lib.hid hgxe.symm;clear hgxe;have HKA:=Lib.hid hkA;have HIA:=Lib.hid hiA;have HOA:=Lib.hid hoA;have HBA:=Lib.hid hBA;clear hkA hiA hoA hBA hgx)
   | (go_at_call 146;refine(rnum_any w0 ga bs p n c v at_ wA HI.out.len HI.out.bd HI.out.at_ HBA.out HI.out.base HI.out.le HI.out.max hat HKA.out).mono ?_;rw[<-HR.out];rintro e w1 ⟨rfl,hk1,ho1⟩;have hi1:=HIA.out.grow ho1 (fun e=>hgne (Option.some.inj e).symm);have d0:w1.cell? ⟨gx,0,none⟩=some (.int .i64 0):=(hi1.cell 0).trans (icells_0 _ _ _);have d1:w1.frozen? ⟨gx,0,none⟩=false:=hi1.free 0;have HK1:=Lib.hid hk1;have HO1:=Lib.hid (only_trans HOA.out ho1);have HI1:=Lib.hid hi1;clear hk1 ho1 hi1))
  have ho2:=only_setNew HO1.out (Nat.le_of_eq HGX.out.symm) 0 (.int .i64 r.2.1)
  have hk3:=HK1.out.setOther (⟨gx,0,none⟩:Addr) (.int .i64 r.2.1) (Ne.symm hgne)
  have hi2:Blk (w1.setCell ⟨gx,0,none⟩ (.int .i64 r.2.1)) gx (icells ⟨r.2.1,[],Fld.zero32⟩ none 0) 83:=by have:=HI1.out.set 0 (.int .i64 r.2.1);rwa [icells_set0]at this
  have hgs:=HS.out.step HI.out.base ho2 hk3 hi2 ⟨HOKX.out,rfl,by simp,Or.inl ⟨rfl,rfl⟩⟩ (Nat.le_of_eq HGX.out.symm)
  have HLL:=Lib.hid (show l.length+1<=at_+r.2.2 by have h2:=HS.out.few;simp only at h2;omega)
  obtain⟨x,hxx⟩:∃x:Itm,x=⟨r.2.1,[],Fld.zero32⟩:=⟨_,rfl⟩
  have HXN:=Lib.hid (show x.N=r.2.1 by rw[hxx])
  clear ho2 hk3 hi2 d0 d1
  generalize w1.setCell ⟨gx,0,none⟩ (.int .i64 r.2.1)=w2 at *
  have GS:=Lib.hid hgs
  clear hgs
  obtain⟨at2,hat2⟩:∃a,a=at_+r.2.2:=⟨_,rfl⟩
  rw[<-hat2]at GS HG HLL hk1 hk2
  clear hat2 HK1 HI1 HO1
  rw[<-hxx]at GS HG
  clear hxx HOKX
  obtain⟨q,hq⟩:∃q:Option Addr,q=none:=⟨_,rfl⟩
  obtain⟨qc,hqc⟩:∃qc:Nat,qc=0:=⟨_,rfl⟩
  rw[<-hq,<-hqc]at GS
  clear hq hqc
  have c2:w2.cell? ⟨ga,2,none⟩=some v:=GS.out.blk.cell 2
  have g0:w2.cell? ⟨gx,0,none⟩=some (.int .i64 x.N):=(GS.out.item.cell 0).trans (icells_0 _ _ _)
  have c2':(w2.alloc (Obj.cells (icells x q qc).toArray 83)).cell? ⟨ga,2,none⟩=some v:=(GS.out.blk.old _).cell 2
  have ld:=load_item GS.out.goodx.ok GS.out.item.drew
  have bd:=fun w=>build_item w (q:=q) (c:=qc) GS.out.goodx.ok
  have hll:=HLL.out
  obtain⟨i0,hi0,hz0,hz1,hz2⟩:=info_parts item_all3
  have HI0:=Lib.hid hi0
  have HZ0:=Lib.hid hz0
  have HZ1:=Lib.hid hz1
  have HZ2:=Lib.hid hz2
  clear hi0 hz0 hz1 hz2
  have HZS:=Lib.hid (show(Value.agg (icells ⟨0,[],Fld.zero32⟩ none 0).toArray).cells.size=34 by show(icells ⟨0,[],Fld.zero32⟩ none 0).toArray.size=34;rw[List.size_toArray,icells_length item0_ok'])
  go_region_law ((refine step_append_lies _ (by rfl) _ _ _ (by rfl) w0.heap.size 83 i0 _ 34 64 Tryz.underlying81 HI0.out HZ0.out HZ1.out HZ2.out HZS.out (by omega) v l.length _ (by rfl) ((GS.out.own.alloc _).drew) ⟨w2.heap.size,0,none⟩ 1 1 (icells x q qc) (by rfl) (by rw[icells_length GS.out.goodx.ok]) (World.news_of_block (cs:=(icells x q qc).toArray) (t:=83) (fr:=(0,0)) (heap_alloc_new w2 _)) (icells_one x q qc) (by omega) (by unfold maxLen;omega) (by omega) (by have:=GS.out.size;simp;omega) (w2.heap.size+1) (by simp) ?_;intro g5 cap5 w5 hown5 hgrow5 hat5 hlt5;obtain⟨ra5,it5,k5,i5⟩:=GS.out.done HI.out.base (Obj.cells (icells x q qc).toArray 83) ⟨hgrow5.os,hgrow5.tape,hgrow5.output,hgrow5.size,hgrow5.block⟩ hown5 hk1 hll;have s0:w5.cell? ⟨ga,2,none⟩=some v:=k5.cell 2;have s1:w5.frozen? ⟨ga,2,none⟩=false:=k5.free 2;have s2:w5.cell? ⟨gx,0,none⟩=some (.int .i64 x.N):=(i5.cell 0).trans (icells_0 _ _ _);have RA5:=Lib.hid ra5;have IT5:=Lib.hid it5;clear hown5 hgrow5 hat5 ra5 it5 k5 i5))
  all_goals
   go_wp2_with fail
   go_ret2
   exact⟨by rw[HG.out];show Ending.returned (.tuple #[.int .i64 x.N,.int .i64 0])=_;rw[HXN.out],by rw[HG.out];exact RA5.out,IT5.out⟩
 ·have h0':(r.1 == 0)=false:=by simpa using h0
  have HG:=Lib.hid (getS_n_err (bs:=bs) (at_:=at_) (acc:=l) (by rw[HI.out.len];exact hat) hr h0)
  have HAT:=Lib.hid (show at_+r.2.2<=n/\l.length<=at_+r.2.2 from by have h1:=rd_at (bs.drop at_) at_ (by rw[<-hr];exact h0);rw[<-hr,List.length_drop,HI.out.len]at h1;have h2:=HS.out.few;simp only at h2;split at h1<;>omega)
  clear h0 hr
  go_enter Tryz.func113,Tryz.ntmps113
  go_wp2_with (first
   | (refine wpList_alloc_arr rfl 83 rfl _ item_info ?_;have hkA:=HS.out.blk.old (Obj.cells (icells ⟨0,[],Fld.zero32⟩ none 0).toArray 83);have hiA:=Blk.new w (icells ⟨0,[],Fld.zero32⟩ none 0).toArray 83;have hoA:=only_alloc (only_refl w ga) (Obj.cells (icells ⟨0,[],Fld.zero32⟩ none 0).toArray 83);rw[List.toList_toArray]at hiA;have hBA:=below_only HS.out.below hoA HI.out.base HS.out.below.size;have hgx:w.heap.size<=w.heap.size:=Nat.le_refl _;have hlt:ga < w.heap.size:=HS.out.blk.lt;have hgne:w.heap.size≠ga:=(by omega);generalize w.alloc (Obj.cells (icells ⟨0,[],Fld.zero32⟩ none 0).toArray 83)=wA at *;generalize hgxe:w.heap.size=gx at *;have HGX:=Lib.hid hgxe.symm;clear hgxe;have HKA:=Lib.hid hkA;have HIA:=Lib.hid hiA;have HOA:=Lib.hid hoA;have HBA:=Lib.hid hBA;clear hkA hiA hoA hBA hgx)
   | (go_at_call 146;refine(rnum_any w0 ga bs p n c v at_ wA HI.out.len HI.out.bd HI.out.at_ HBA.out HI.out.base HI.out.le HI.out.max hat HKA.out).mono ?_;rw[<-HR.out];rintro e w1 ⟨rfl,hk1,ho1⟩;have hi1:=HIA.out.grow ho1 (fun e=>hgne (Option.some.inj e).symm);have d0:w1.cell? ⟨gx,0,none⟩=some (.int .i64 0):=(hi1.cell 0).trans (icells_0 _ _ _);have d1:w1.frozen? ⟨gx,0,none⟩=false:=hi1.free 0;have HK1:=Lib.hid hk1;have HO1:=Lib.hid (only_trans HOA.out ho1);have HI1:=Lib.hid hi1;clear hk1 ho1 hi1))
  go_ret2
  have ho2:=only_setNew HO1.out (Nat.le_of_eq HGX.out.symm) 0 (.int .i64 r.2.1)
  have hk2:=HK1.out.setOther (⟨gx,0,none⟩:Addr) (.int .i64 r.2.1) (Ne.symm hgne)
  exact⟨by rw[HG.out];rfl,by rw[HG.out];exact HS.out.err HI.out.base ho2 hk2 HAT.out.1 HAT.out.2,iters_of (others_only ho2 5) ⟨_,_,HS.out.blk⟩⟩
end
section
open Go.RowKit Sha
open Fld (Itm)
theorem ret_bool {a b:Bool}(h:a=b):Ending.returned (.bool a)= .returned (.bool b):=by rw[h]
theorem okFor_98 (x:Itm):Fld.okFor 98 x=(decide (x.N=0) && decide (x.D=Fld.zero32)):=by simp[Fld.okFor]
theorem okFor_100 (x:Itm):Fld.okFor 100 x=(decide (x.N=0) && decide (x.B= [])):=by simp[Fld.okFor]
theorem okFor_n' (c:Int)(x:Itm)(h1:c≠98)(h2:c≠100):Fld.okFor c x=(decide (x.B= []) && decide (x.D=Fld.zero32)):=by simp[Fld.okFor,h1,h2]
theorem named_98 (x:Itm)(q:Option Addr)(cap:Nat)(w:World)(hx:x.ok):
 Calls Tryz.prog 117 #[.int .i32 98,.agg (icells x q cap).toArray] w fun e w'=>e= .returned (.bool (Fld.okFor 98 x))/\Below w.heap.size w w':=by
 have hszd:(Tryz.prog.info? 25).map (fun i=>i.size)=some (x.D.map v8).length:=by rw[id_size];simp[hx.len]
 have hszz:(Tryz.prog.info? 25).map (fun i=>i.size)=some (Fld.zero32.map v8).length:=by rw[id_size];simp[Fld.zero32_length]
 have hszz':(Tryz.prog.info? 25).map (fun i=>i.size)=some (Fld.zero32.map v8).toArray.size:=by rw[id_size];simp[Fld.zero32_length]
 have Hx:=Lib.hid hx.len
 have Hl:=Lib.hid (icells_length hx q cap)
 have Hz:=Lib.hid Fld.zero32_length
 clear hx
 have HR:=Lib.hid (okFor_98 x)
 by_cases hN':x.N=0
 ·have hN:(x.N == 0)=true:=by simpa using hN'
  have HN:=Lib.hid hN'
  clear hN'
  go_enter Tryz.func117,Tryz.ntmps117
  go_wp2_with (first
   | (refine wpList_box_new rfl 83 _ rfl _ rfl ?_;intro w1 g K1 B1 G1;have c0:w1.cell? ⟨g,0,none⟩=some (.int .i64 x.N):=(K1.cell 0).trans (icells_0 _ _ _);have c1:w1.cell? ⟨g,1,none⟩=some (.slice q x.B.length cap):=(K1.cell 1).trans (icells_1 _ _ _);have f0:=K1.free 0;have f1:=K1.free 1;have K2:=Lib.hid (show Blk (w1.setCell ⟨g,1,none⟩ (.slice none 0 0)) g (icells ⟨x.N,[],x.D⟩ none 0) 83 by rw[<-icells_set1 x q cap [] none 0];exact K1.set 1 _);have B1:=Lib.hid B1;clear K1)
   | (refine BigFrame.wpList_want rfl (fun K hK=>wp_load_mid 25 (.tmp 24) rfl _ 2 rfl _ _ K2.out.rangeId Tryz.underlying25 rfl hszd (hK _ _ ?_)))
   | (refine BigFrame.wpList_want rfl (fun K hK=>wp_build' 25 #[] rfl _ id_zero (hK _ _ ?_)))
   | (refine BigFrame.wpList_want rfl (fun K hK=>wp_eql_arr 25 (.tmp 25) (.tmp 26) _ rfl 5 32 .u8 Tryz.underlying25 Tryz.underlying5 kslice1 x.D Fld.zero32 rfl rfl Hx.out Hz.out (hK _ _ ?_))))
  go_ret
  exact⟨ret_bool (by rw[HR.out,HN.out];simp),B1.out.setCell G1 _⟩
 ·have hN:(x.N == 0)=false:=by simpa using hN'
  have HN:=Lib.hid hN'
  clear hN'
  go_enter Tryz.func117,Tryz.ntmps117
  go_wp2_with (first
   | (refine wpList_box_new rfl 83 _ rfl _ rfl ?_;intro w1 g K1 B1 G1;have c0:w1.cell? ⟨g,0,none⟩=some (.int .i64 x.N):=(K1.cell 0).trans (icells_0 _ _ _);have c1:w1.cell? ⟨g,1,none⟩=some (.slice q x.B.length cap):=(K1.cell 1).trans (icells_1 _ _ _);have f0:=K1.free 0;have f1:=K1.free 1;have K2:=Lib.hid (show Blk (w1.setCell ⟨g,1,none⟩ (.slice none 0 0)) g (icells ⟨x.N,[],x.D⟩ none 0) 83 by rw[<-icells_set1 x q cap [] none 0];exact K1.set 1 _);have B1:=Lib.hid B1;clear K1)
   | (refine BigFrame.wpList_want rfl (fun K hK=>wp_load_mid 25 (.tmp 24) rfl _ 2 rfl _ _ K2.out.rangeId Tryz.underlying25 rfl hszd (hK _ _ ?_)))
   | (refine BigFrame.wpList_want rfl (fun K hK=>wp_build' 25 #[] rfl _ id_zero (hK _ _ ?_)))
   | (refine BigFrame.wpList_want rfl (fun K hK=>wp_eql_arr 25 (.tmp 25) (.tmp 26) _ rfl 5 32 .u8 Tryz.underlying25 Tryz.underlying5 kslice1 x.D Fld.zero32 rfl rfl Hx.out Hz.out (hK _ _ ?_))))
  go_ret
  exact⟨ret_bool (by rw[HR.out];simp[HN.out]),B1.out.setCell G1 _⟩
theorem named_100 (x:Itm)(q:Option Addr)(cap:Nat)(w:World)(hx:x.ok):
 Calls Tryz.prog 117 #[.int .i32 100,.agg (icells x q cap).toArray] w fun e w'=>e= .returned (.bool (Fld.okFor 100 x))/\Below w.heap.size w w':=by
 have hszd:(Tryz.prog.info? 25).map (fun i=>i.size)=some (x.D.map v8).length:=by rw[id_size];simp[hx.len]
 have hszz:(Tryz.prog.info? 25).map (fun i=>i.size)=some (Fld.zero32.map v8).length:=by rw[id_size];simp[Fld.zero32_length]
 have hszz':(Tryz.prog.info? 25).map (fun i=>i.size)=some (Fld.zero32.map v8).toArray.size:=by rw[id_size];simp[Fld.zero32_length]
 have Hx:=Lib.hid hx.len
 have Hl:=Lib.hid (icells_length hx q cap)
 have Hz:=Lib.hid Fld.zero32_length
 clear hx
 have HR:=Lib.hid (okFor_100 x)
 by_cases hN':x.N=0
 ·have hN:(x.N == 0)=true:=by simpa using hN'
  have HN:=Lib.hid hN'
  clear hN'
  by_cases hB':x.B= []
  ·have hB:((x.B.length:Int) == 0)=true:=by simp[hB']
   have HB:=Lib.hid hB'
   clear hB'
   go_enter Tryz.func117,Tryz.ntmps117
   go_wp2_with (first
    | (refine wpList_box_new rfl 83 _ rfl _ rfl ?_;intro w1 g K1 B1 G1;have c0:w1.cell? ⟨g,0,none⟩=some (.int .i64 x.N):=(K1.cell 0).trans (icells_0 _ _ _);have c1:w1.cell? ⟨g,1,none⟩=some (.slice q x.B.length cap):=(K1.cell 1).trans (icells_1 _ _ _);have f0:=K1.free 0;have f1:=K1.free 1;have TH:=Lib.hid (K1.there 2 32 (by rw[Hl.out];decide));have KK:=Lib.hid (icells_set2 q cap 83 K1 Fld.zero32 (by rw[Hx.out,Hz.out]));have B1:=Lib.hid B1;clear K1)
    | (refine wpList_store_mid rfl 25 _ _ rfl g 2 (Fld.zero32.map v8).toArray rfl rfl (by simpa[Hz.out]using TH.out) hszz' (v8_one _) ?_;rw[List.toList_toArray];have k2:=KK.out;have B2:=Lib.hid (setCells_below G1 (Fld.zero32.map v8) 2 _ B1.out);generalize w1.setCells g 2 (Fld.zero32.map v8)=w2 at *;have d0:w2.cell? ⟨g,0,none⟩=some (.int .i64 x.N):=(k2.cell 0).trans (icells_0 _ _ _);have d1:w2.cell? ⟨g,1,none⟩=some (.slice q x.B.length cap):=(k2.cell 1).trans (icells_1 _ _ _);have K2:=Lib.hid k2;clear k2)
    | (refine BigFrame.wpList_want rfl (fun K hK=>wp_load_mid 25 (.tmp 24) rfl _ 2 rfl _ _ K2.out.rangeId Tryz.underlying25 rfl hszz (hK _ _ ?_)))
    | (refine BigFrame.wpList_want rfl (fun K hK=>wp_build' 25 #[] rfl _ id_zero (hK _ _ ?_)))
    | (refine wpList_build' rfl 25 #[] rfl _ id_zero ?_)
    | (refine BigFrame.wpList_want rfl (fun K hK=>wp_eql_arr 25 (.tmp 25) (.tmp 26) _ rfl 5 32 .u8 Tryz.underlying25 Tryz.underlying5 kslice1 Fld.zero32 Fld.zero32 rfl rfl Hz.out Hz.out (hK _ _ ?_))))
   go_ret
   exact⟨ret_bool (by rw[HR.out,HN.out,HB.out];simp),B2.out⟩
  ·have hB:((x.B.length:Int) == 0)=false:=by simp;exact hB'
   have HB:=Lib.hid hB'
   clear hB'
   go_enter Tryz.func117,Tryz.ntmps117
   go_wp2_with (first
    | (refine wpList_box_new rfl 83 _ rfl _ rfl ?_;intro w1 g K1 B1 G1;have c0:w1.cell? ⟨g,0,none⟩=some (.int .i64 x.N):=(K1.cell 0).trans (icells_0 _ _ _);have c1:w1.cell? ⟨g,1,none⟩=some (.slice q x.B.length cap):=(K1.cell 1).trans (icells_1 _ _ _);have f0:=K1.free 0;have f1:=K1.free 1;have TH:=Lib.hid (K1.there 2 32 (by rw[Hl.out];decide));have KK:=Lib.hid (icells_set2 q cap 83 K1 Fld.zero32 (by rw[Hx.out,Hz.out]));have B1:=Lib.hid B1;clear K1)
    | (refine wpList_store_mid rfl 25 _ _ rfl g 2 (Fld.zero32.map v8).toArray rfl rfl (by simpa[Hz.out]using TH.out) hszz' (v8_one _) ?_;rw[List.toList_toArray];have k2:=KK.out;have B2:=Lib.hid (setCells_below G1 (Fld.zero32.map v8) 2 _ B1.out);generalize w1.setCells g 2 (Fld.zero32.map v8)=w2 at *;have d0:w2.cell? ⟨g,0,none⟩=some (.int .i64 x.N):=(k2.cell 0).trans (icells_0 _ _ _);have d1:w2.cell? ⟨g,1,none⟩=some (.slice q x.B.length cap):=(k2.cell 1).trans (icells_1 _ _ _);have K2:=Lib.hid k2;clear k2)
    | (refine BigFrame.wpList_want rfl (fun K hK=>wp_load_mid 25 (.tmp 24) rfl _ 2 rfl _ _ K2.out.rangeId Tryz.underlying25 rfl hszz (hK _ _ ?_)))
    | (refine BigFrame.wpList_want rfl (fun K hK=>wp_build' 25 #[] rfl _ id_zero (hK _ _ ?_)))
    | (refine wpList_build' rfl 25 #[] rfl _ id_zero ?_)
    | (refine BigFrame.wpList_want rfl (fun K hK=>wp_eql_arr 25 (.tmp 25) (.tmp 26) _ rfl 5 32 .u8 Tryz.underlying25 Tryz.underlying5 kslice1 Fld.zero32 Fld.zero32 rfl rfl Hz.out Hz.out (hK _ _ ?_))))
   go_ret
   exact⟨ret_bool (by rw[HR.out];simp[HB.out]),B2.out⟩
 ·have hN:(x.N == 0)=false:=by simpa using hN'
  have HN:=Lib.hid hN'
  clear hN'
  go_enter Tryz.func117,Tryz.ntmps117
  go_wp2_with (first
   | (refine wpList_box_new rfl 83 _ rfl _ rfl ?_;intro w1 g K1 B1 G1;have c0:w1.cell? ⟨g,0,none⟩=some (.int .i64 x.N):=(K1.cell 0).trans (icells_0 _ _ _);have c1:w1.cell? ⟨g,1,none⟩=some (.slice q x.B.length cap):=(K1.cell 1).trans (icells_1 _ _ _);have f0:=K1.free 0;have f1:=K1.free 1;have TH:=Lib.hid (K1.there 2 32 (by rw[Hl.out];decide));have KK:=Lib.hid (icells_set2 q cap 83 K1 Fld.zero32 (by rw[Hx.out,Hz.out]));have B1:=Lib.hid B1;clear K1)
   | (refine wpList_store_mid rfl 25 _ _ rfl g 2 (Fld.zero32.map v8).toArray rfl rfl (by simpa[Hz.out]using TH.out) hszz' (v8_one _) ?_;rw[List.toList_toArray];have k2:=KK.out;have B2:=Lib.hid (setCells_below G1 (Fld.zero32.map v8) 2 _ B1.out);generalize w1.setCells g 2 (Fld.zero32.map v8)=w2 at *;have d0:w2.cell? ⟨g,0,none⟩=some (.int .i64 x.N):=(k2.cell 0).trans (icells_0 _ _ _);have d1:w2.cell? ⟨g,1,none⟩=some (.slice q x.B.length cap):=(k2.cell 1).trans (icells_1 _ _ _);have K2:=Lib.hid k2;clear k2)
   | (refine BigFrame.wpList_want rfl (fun K hK=>wp_load_mid 25 (.tmp 24) rfl _ 2 rfl _ _ K2.out.rangeId Tryz.underlying25 rfl hszz (hK _ _ ?_)))
   | (refine BigFrame.wpList_want rfl (fun K hK=>wp_build' 25 #[] rfl _ id_zero (hK _ _ ?_)))
   | (refine wpList_build' rfl 25 #[] rfl _ id_zero ?_)
   | (refine BigFrame.wpList_want rfl (fun K hK=>wp_eql_arr 25 (.tmp 25) (.tmp 26) _ rfl 5 32 .u8 Tryz.underlying25 Tryz.underlying5 kslice1 Fld.zero32 Fld.zero32 rfl rfl Hz.out Hz.out (hK _ _ ?_))))
  go_ret
  exact⟨ret_bool (by rw[HR.out];simp[HN.out]),B2.out⟩
theorem named_n (c:Int)(x:Itm)(q:Option Addr)(cap:Nat)(w:World)(hx:x.ok)(h98:c≠98)(h100:c≠100):
 Calls Tryz.prog 117 #[.int .i32 c,.agg (icells x q cap).toArray] w fun e w'=>e= .returned (.bool (Fld.okFor c x))/\Below w.heap.size w w':=by
 have hszd:(Tryz.prog.info? 25).map (fun i=>i.size)=some (x.D.map v8).length:=by rw[id_size];simp[hx.len]
 have hszz:(Tryz.prog.info? 25).map (fun i=>i.size)=some (Fld.zero32.map v8).length:=by rw[id_size];simp[Fld.zero32_length]
 have hszz':(Tryz.prog.info? 25).map (fun i=>i.size)=some (Fld.zero32.map v8).toArray.size:=by rw[id_size];simp[Fld.zero32_length]
 have Hx:=Lib.hid hx.len
 have Hl:=Lib.hid (icells_length hx q cap)
 have Hz:=Lib.hid Fld.zero32_length
 clear hx
 have HR:=Lib.hid (okFor_n' c x h98 h100)
 have t98:(c == 98)=false:=by simpa using h98
 have t100:(c == 100)=false:=by simpa using h100
 clear h98 h100
 by_cases hB':x.B= []
 ·have hB:((x.B.length:Int) == 0)=true:=by simp[hB']
  have HB:=Lib.hid hB'
  clear hB'
  go_enter Tryz.func117,Tryz.ntmps117
  go_wp2_with (first
   | (refine wpList_box_new rfl 83 _ rfl _ rfl ?_;intro w1 g K1 B1 G1;have c0:w1.cell? ⟨g,0,none⟩=some (.int .i64 x.N):=(K1.cell 0).trans (icells_0 _ _ _);have c1:w1.cell? ⟨g,1,none⟩=some (.slice q x.B.length cap):=(K1.cell 1).trans (icells_1 _ _ _);have f0:=K1.free 0;have f1:=K1.free 1;have K2:=Lib.hid (show Blk (w1.setCell ⟨g,0,none⟩ (.int .i64 0)) g (icells ⟨0,x.B,x.D⟩ q cap) 83 by rw[<-icells_set0 x q cap 0];exact K1.set 0 _);have B1:=Lib.hid B1;clear K1)
   | (refine BigFrame.wpList_want rfl (fun K hK=>wp_load_mid 25 (.tmp 24) rfl _ 2 rfl _ _ K2.out.rangeId Tryz.underlying25 rfl hszd (hK _ _ ?_)))
   | (refine BigFrame.wpList_want rfl (fun K hK=>wp_build' 25 #[] rfl _ id_zero (hK _ _ ?_)))
   | (refine BigFrame.wpList_want rfl (fun K hK=>wp_eql_arr 25 (.tmp 25) (.tmp 26) _ rfl 5 32 .u8 Tryz.underlying25 Tryz.underlying5 kslice1 x.D Fld.zero32 rfl rfl Hx.out Hz.out (hK _ _ ?_))))
  go_ret
  exact⟨ret_bool (by rw[HR.out,HB.out];simp),B1.out.setCell G1 _⟩
 ·have hB:((x.B.length:Int) == 0)=false:=by simp;exact hB'
  have HB:=Lib.hid hB'
  clear hB'
  go_enter Tryz.func117,Tryz.ntmps117
  go_wp2_with (first
   | (refine wpList_box_new rfl 83 _ rfl _ rfl ?_;intro w1 g K1 B1 G1;have c0:w1.cell? ⟨g,0,none⟩=some (.int .i64 x.N):=(K1.cell 0).trans (icells_0 _ _ _);have c1:w1.cell? ⟨g,1,none⟩=some (.slice q x.B.length cap):=(K1.cell 1).trans (icells_1 _ _ _);have f0:=K1.free 0;have f1:=K1.free 1;have K2:=Lib.hid (show Blk (w1.setCell ⟨g,0,none⟩ (.int .i64 0)) g (icells ⟨0,x.B,x.D⟩ q cap) 83 by rw[<-icells_set0 x q cap 0];exact K1.set 0 _);have B1:=Lib.hid B1;clear K1)
   | (refine BigFrame.wpList_want rfl (fun K hK=>wp_load_mid 25 (.tmp 24) rfl _ 2 rfl _ _ K2.out.rangeId Tryz.underlying25 rfl hszd (hK _ _ ?_)))
   | (refine BigFrame.wpList_want rfl (fun K hK=>wp_build' 25 #[] rfl _ id_zero (hK _ _ ?_)))
   | (refine BigFrame.wpList_want rfl (fun K hK=>wp_eql_arr 25 (.tmp 25) (.tmp 26) _ rfl 5 32 .u8 Tryz.underlying25 Tryz.underlying5 kslice1 x.D Fld.zero32 rfl rfl Hx.out Hz.out (hK _ _ ?_))))
  go_ret
  exact⟨ret_bool (by rw[HR.out];simp[HB.out]),B1.out.setCell G1 _⟩
theorem named_any (c:Int)(x:Itm)(q:Option Addr)(cap:Nat)(w:World)(hx:x.ok):
 Calls Tryz.prog 117 #[.int .i32 c,.agg (icells x q cap).toArray] w fun e w'=>e= .returned (.bool (Fld.okFor c x))/\Below w.heap.size w w':=by
 by_cases h98:c=98
 ·subst h98;exact named_98 x q cap w hx
 ·by_cases h100:c=100
  ·subst h100;exact named_100 x q cap w hx
  ·exact named_n c x q cap w hx h98 h100
end
section
open Go.RowKit Sha
open Fld (Itm)
theorem bounded_any (c:Int)(x:Itm)(q:Option Addr)(cap:Nat)(w:World)(hx:x.ok)(hc:Fld.isC c):
 Calls Tryz.prog 118 #[.int .i32 c,.agg (icells x q cap).toArray] w fun e w'=>e= .returned (.int .i64 (Fld.bound c x))/\Below w.heap.size w w':=by
 have n0:=hx.N0
 have n1:=hx.N1
 obtain⟨m,hm⟩:∃m,m=x.B.length:=⟨_,rfl⟩
 have HM:=Lib.hid hm
 obtain⟨n,hn⟩:∃n,n=x.N:=⟨_,rfl⟩
 have HN:=Lib.hid hn
 rw[<-hn]at n0 n1
 have HB:=Lib.hid (show Fld.bound c x=if n < 0\/4611686018427387903 < n then 5 else if 4000 < m\/(c=40/\4000 < n)then 3 else 0 by rw[hn,hm];rfl)
 clear hx hm hn
 rcases hc with rfl | rfl | rfl | rfl
 all_goals by_cases h1:n < 0
 all_goals by_cases h3:4611686018427387903 < n
 all_goals by_cases h4:4000 < m
 all_goals by_cases h6:4000 < n
 all_goals try omega
 all_goals
  go_enter Tryz.func118,Tryz.ntmps118
  go_wp2_with (refine wpList_box_new rfl 83 _ rfl _ rfl ?_;intro w1 g K1 B1 G1;have c0:w1.cell? ⟨g,0,none⟩=some (.int .i64 n):=(by rw[HN.out];exact(K1.cell 0).trans (icells_0 _ _ _));have c1:w1.cell? ⟨g,1,none⟩=some (.slice q m cap):=(by rw[HM.out];exact(K1.cell 1).trans (icells_1 _ _ _));have B1:=Lib.hid B1;clear K1)
  go_ret
  exact⟨ret_int (by rw[HB.out];first | (simp[h1,h3,h4,h6];done) | (simp[h1,h3,h4,h6];rw[if_neg (by omega),if_neg (by omega)])),B1.out⟩
end
end Go.Proofs.YtokpabkcaofahaaGreat
