/-
  What stands under factPuts_holds: part 13.
-/
import Derived.Test.YtokpabkcaofahaaGreatPp12
import Derived.Test.YtokpabkcaofahaaGreatPp2
import Derived.Deep.LoopGhost
import Derived.Test.YtokpabkcaofahaaGreatPp7
import Derived.Test.YtokpabkcaofahaaGreatPp4
import Derived.Test.YtokpabkcaofahaaGreatPp11
import Derived.Deep.RegionHeld3
import Derived.Deep.DeepCutAuto
import Derived.Deep.CutBlock
namespace Go.Proofs.YtokpabkcaofahaaGreat
set_option linter.unusedSimpArgs false
set_option linter.unusedVariables false
set_option maxRecDepth 100000
set_option maxHeartbeats 20000000
section
open Go.RowKit Sha
def ItersKept (w w':World):Prop:=∀(k:Nat)(s:ByteArray)(p:Nat),w.heap[k]? = some (Obj.stringIter s p)->w'.heap[k]? = some (Obj.stringIter s p)
theorem ItersKept.refl (w:World):ItersKept w w:=fun _ _ _ h=>h
theorem ItersKept.trans {a b c:World}(h:ItersKept a b)(k:ItersKept b c):ItersKept a c:=fun i s p hi=>k i s p (h i s p hi)
def ItersBut (gi:Nat)(w w':World):Prop:=∀(k:Nat)(s:ByteArray)(p:Nat),w.heap[k]? = some (Obj.stringIter s p)->k≠gi/\w'.heap[k]? = some (Obj.stringIter s p)
theorem ItersBut.new {a w:World}(h:ItersKept a w)(o:Obj):ItersBut w.heap.size a (w.alloc o):=fun i s p hi=>by
 have h1:=h i s p hi
 have hlt:i < w.heap.size:=(Array.getElem?_eq_some_iff.1 h1).1
 exact⟨by omega,by rw[Below.heap_alloc _ _ _ hlt];exact h1⟩
theorem ItersBut.kept {gi:Nat} {a w:World}(h:ItersBut gi a w):ItersKept a w:=fun i s p hi=>(h i s p hi).2
theorem ItersBut.move {gi:Nat} {a w:World}(h:ItersBut gi a w)(s:ByteArray)(p:Nat):ItersBut gi a (w.iterAt gi s p):=fun i s' p' hi=>by
 obtain⟨h1,h2⟩:=h i s' p' hi
 exact⟨h1,by rw[Lib.iterAt_other _ _ _ _ _ h1];exact h2⟩
theorem ItersBut.on {gi:Nat} {a w w':World}(h:ItersBut gi a w)(k:ItersKept w w'):ItersBut gi a w':=fun i s p hi=>by
 obtain⟨h1,h2⟩:=h i s p hi
 exact⟨h1,k i s p h2⟩
def DDone {σ:Type}(f:Int->σ->σ×Int×Int)(R:σ->World->Prop)(c:Int)(st:σ)(w:World)(e:Ending)(w':World):Prop:=
 e= .returned (.tuple #[.int .i64 (f c st).2.1,.int .i64 (f c st).2.2])/\R (f c st).1 w'/\ItersKept w w'
structure Doer {σ:Type}(P:Program)(F ga B:Nat)(f:Int->σ->σ×Int×Int)(R:σ->World->Prop):Prop where
 step:∀c st w,Fld.isC c->R st w->Calls P F #[.pointer (some ⟨ga,0,none⟩),.int .i32 c] w (DDone f R c st w)
 keepA:∀st w o,R st w->R st (World.alloc w o)
 keepI:∀st (w:World) gi s p p',R st w->B<=gi->w.heap[gi]? = some (Obj.stringIter s p)->R st (w.iterAt gi s p')
 base:∀st (w:World),R st w->B<=w.heap.size
 lim:∀c st w,R st w->(f c st).2.1<=9223372036854775807/\-9223372036854775808<=(f c st).2.1
theorem cells_iterAt {w:World} {k:Nat} {s:ByteArray} {p:Nat}(hk:w.heap[k]? = some (.stringIter s p))(p':Nat):CellsKept w (w.iterAt k s p'):=
 ⟨by rw[Lib.iterAt_size];exact Nat.le_refl _,fun i c e fz hi=>by
  rw[Lib.iterAt_other _ _ _ _ _ (fun h=>by rw[h,hk]at hi;cases hi)];exact hi⟩
theorem cells_alloc (w:World)(o:Obj):CellsKept w (w.alloc o):=
 ⟨by simp,fun i c e fz hi=>by
  have hlt:i < w.heap.size:=(Array.getElem?_eq_some_iff.1 hi).1
  rw[Below.heap_alloc _ _ _ hlt];exact hi⟩
theorem iters_of {ety:TypeId} {ga:Nat} {w w':World}(h:Lib.OthersKept ety (some ga) w w')(hb:∃cs t,Blk w ga cs t):ItersKept w w':=fun k s p hk=>
 h k _ hk (fun e=>by
  obtain⟨cs,t,hb⟩:=hb
  unfold Blk at hb
  rw[<-Option.some.inj e,hk]at hb;cases hb) (fun c fz he=>by cases he)
theorem next_isL (P:Program)(s:ByteArray)(k:Nat)(h:k < s.size)(hl:∀c∈nums s,c < 128):∃c,NextL P s k (k+1) c/\(nums s).drop k=c::(nums s).drop (k+1):=by
 obtain⟨c,k',hn⟩:=next_of P s k h
 rcases hn.is with⟨h1,rfl,h2⟩ | ⟨h1,d,h2,h3⟩
 ·exact⟨c,hn,h2⟩
 ·have:d∈nums s:=List.mem_of_mem_drop (by rw[h3];exact List.mem_cons_self ..)
  have:=hl d this
  omega
theorem isC_lt {c:Int}(h:Fld.isC c):c < 128:=by unfold Fld.isC at h;omega
section
variable {σ:Type} {f:Int->σ->σ×Int×Int} {g:List Int} {st:σ}
theorem rep_ok {n:Nat} {st':σ}(h:Fld.once f g st=(st',0)):Fld.rep f g (n+1) st=Fld.rep f g n st':=by
 rw[Fld.rep,h,if_pos rfl]
theorem rep_err {n:Nat} {st':σ} {e:Int}(h:Fld.once f g st=(st',e))(he:e≠0):Fld.rep f g (n+1) st=(st',e):=by
 rw[Fld.rep,h,if_neg he]
theorem once_ok {c:Int} {r:List Int}(h:(f c st).2.2=0):Fld.once f (c::r) st=Fld.once f r (f c st).1:=by
 rw[Fld.once,if_pos h]
theorem once_err {c:Int} {r:List Int}(h:(f c st).2.2≠0):Fld.once f (c::r) st=((f c st).1,(f c st).2.2):=by
 rw[Fld.once,if_neg h]
end
def RDone {σ:Type}(R:σ->World->Prop)(r:σ×Int)(w:World)(e:Ending)(w':World):Prop:=
 e= .returned (.int .i64 r.2)/\R r.1 w'/\ItersKept w w'
theorem chk_len {s:List Int}(h:Fld.chk s=true):s.length<=40/\Fld.chkL s false false=true:=by unfold Fld.chk at h;simpa using h
theorem nums_extract (s:ByteArray)(i j:Nat):nums (s.extract i j)=((nums s).take j).drop i:=by
 unfold nums
 rw[<-List.map_take,<-List.map_drop]
 congr 1
 rw[ByteArray.data_extract,Array.toList_extract,List.extract_eq_take_drop,List.drop_take]
theorem chkL_lt:∀(l:List Int)(o k:Bool),Fld.chkL l o k=true->∀c∈l,c < 128
 | [],_,_,_=>by simp
 | d::r,o,k,h=>by
    intro c hc
    unfold Fld.chkL at h
    rcases List.mem_cons.1 hc with rfl | hc
    ·split at h
     ·omega
     ·split at h
      ·omega
      ·split at h
       ·omega
       ·simp at h
    ·split at h
     ·exact chkL_lt r _ _ h c hc
     ·split at h
      ·exact chkL_lt r _ _ h c hc
      ·split at h
       ·exact chkL_lt r _ _ h c hc
       ·simp at h
theorem chkL_none {c:Int} {r:List Int} {k:Bool}(h:Fld.chkL (c::r) false k=true):(Fld.isC c/\c≠40/\Fld.chkL r false true=true)\/(c=40/\Fld.chkL r true false=true):=by
 unfold Fld.chkL at h
 split at h
 ·rename_i h1
  exact Or.inl ⟨by unfold Fld.isC;omega,by omega,h⟩
 ·split at h
  ·rename_i h1 h2
   exact Or.inr ⟨h2.1,h⟩
  ·simp at h
theorem chkL_some {c:Int} {r:List Int} {k:Bool}(h:Fld.chkL (c::r) true k=true):(Fld.isC c/\c≠41/\c≠40/\Fld.chkL r true true=true)\/(c=41/\Fld.chkL r false k=true):=by
 unfold Fld.chkL at h
 split at h
 ·rename_i h1
  exact Or.inl ⟨by unfold Fld.isC;omega,by omega,by omega,h⟩
 ·split at h
  ·rename_i h1 h2
   simp at h2
  ·split at h
   ·rename_i h1 h2 h3
    exact Or.inr ⟨h3.1,h⟩
   ·simp at h
section
variable {σ:Type} {f:Int->σ->σ×Int×Int} {st:σ} {c t:Int} {r cs:List Int}
theorem walk_ok (h:(f c st).2.2=0):Fld.walkL f none t (c::r) st=Fld.walkL f (if c=40 then some []else none) (f c st).2.1 r (f c st).1:=by rw[Fld.walkL,if_pos h]
theorem walk_err (h:(f c st).2.2≠0):Fld.walkL f none t (c::r) st=((f c st).1,(f c st).2.2):=by rw[Fld.walkL,if_neg h]
theorem walk_in (h:c≠41):Fld.walkL f (some cs) t (c::r) st=Fld.walkL f (some (cs++[c])) t r st:=by rw[Fld.walkL,if_neg h]
theorem walk_shut {st':σ}(h:Fld.rep f cs t.toNat st=(st',0)):Fld.walkL f (some cs) t (41::r) st=Fld.walkL f none t r st':=by rw[Fld.walkL,if_pos rfl,h,if_pos rfl]
theorem walk_bad {st':σ} {e:Int}(h:Fld.rep f cs t.toNat st=(st',e))(he:e≠0):Fld.walkL f (some cs) t (41::r) st=(st',e):=by rw[Fld.walkL,if_pos rfl,h,if_neg he]
theorem walk_end {g:Option (List Int)}:Fld.walkL f g t [] st=(st,0):=by cases g<;>rfl
structure WRel (f:Int->σ->σ×Int×Int)(l:List Int)(st:σ)(k bg:Nat)(t:Int)(gO:Option (List Int))(kk:Bool)(sk:σ):Prop where
 grp:(gO=none/\bg=0)\/(∃cs,gO=some cs/\0 < bg/\bg<=k/\cs=(l.take k).drop bg)
 ok:∀cs,gO=some cs->∀c∈cs,Fld.isC c
 chk:Fld.chkL (l.drop k) gO.isSome kk=true
 walk:Fld.walkL f none 0 l st=Fld.walkL f gO t (l.drop k) sk
theorem WRel.open_ {l:List Int} {k bg:Nat} {t:Int} {kk:Bool} {sk st:σ}(h:WRel f l st k bg t none kk sk)(hd:l.drop k=c::l.drop (k+1))(hc:c=40)(h0:(f c sk).2.2=0):
 WRel f l st (k+1) (k+1) (f c sk).2.1 (some []) false (f c sk).1:=by
 have hk:=h.chk
 rw[hd]at hk
 rcases chkL_none hk with⟨_,h2,_⟩ | ⟨_,h2⟩
 ·exact absurd hc h2
 ·refine⟨Or.inr ⟨[],rfl,by omega,Nat.le_refl _,?_⟩,by simp,h2,?_⟩
  ·rw[List.drop_eq_nil_of_le (List.length_take_le _ _)]
  ·rw[h.walk,hd,walk_ok h0,if_pos hc]
theorem WRel.one {l:List Int} {k bg:Nat} {t:Int} {kk:Bool} {sk st:σ}(h:WRel f l st k bg t none kk sk)(hd:l.drop k=c::l.drop (k+1))(hc:c≠40)(h0:(f c sk).2.2=0):
 WRel f l st (k+1) 0 (f c sk).2.1 none true (f c sk).1:=by
 have hk:=h.chk
 rw[hd]at hk
 rcases chkL_none hk with⟨_,_,h2⟩ | ⟨h2,_⟩
 ·exact⟨Or.inl ⟨rfl,rfl⟩,by simp,h2,by rw[h.walk,hd,walk_ok h0,if_neg hc]⟩
 ·exact absurd h2 hc
theorem WRel.in_ {l:List Int} {k bg:Nat} {t:Int} {kk:Bool} {sk st:σ} {cs:List Int}(h:WRel f l st k bg t (some cs) kk sk)(hd:l.drop k=c::l.drop (k+1))(hc:c≠41):
 WRel f l st (k+1) bg t (some (cs++[c])) true sk:=by
 have hk:=h.chk
 rw[hd]at hk
 rcases chkL_some hk with⟨h1,_,_,h2⟩ | ⟨h2,_⟩
 ·rcases h.grp with⟨hn,_⟩ | ⟨cs',hn,h3,h4,h5⟩
  ·cases hn
  ·cases hn
   refine⟨Or.inr ⟨_,rfl,h3,by omega,?_⟩,?_,h2,by rw[h.walk,hd,walk_in hc]⟩
   ·have hlt:k < l.length:=by
     rcases Nat.lt_or_ge k l.length with h | h
     ·exact h
     ·rw[List.drop_eq_nil_of_le h]at hd;cases hd
    have hg:l[k]? = some c:=by
     have:=congrArg (·[0]?) hd
     simpa using this
    rw[List.take_add_one,hg,h5,List.drop_append_of_le_length (by rw[List.length_take];omega)]
    rfl
   ·intro cs' hn c' hc'
    cases hn
    rcases List.mem_append.1 hc' with h6 | h6
    ·exact h.ok cs rfl c' h6
    ·simp at h6;subst h6;exact h1
 ·exact absurd h2 hc
theorem WRel.shut {l:List Int} {k bg:Nat} {t:Int} {kk:Bool} {sk st sk':σ} {cs:List Int}(h:WRel f l st k bg t (some cs) kk sk)(hd:l.drop k=41::l.drop (k+1))(h0:Fld.rep f cs t.toNat sk=(sk',0)):
 WRel f l st (k+1) 0 t none kk sk':=by
 have hk:=h.chk
 rw[hd]at hk
 rcases chkL_some hk with⟨_,h2,_⟩ | ⟨_,h2⟩
 ·exact absurd rfl h2
 ·exact⟨Or.inl ⟨rfl,rfl⟩,by simp,h2,by rw[h.walk,hd,walk_shut h0]⟩
end
end
section
open Go.RowKit Sha Fct
def RShape (k:Int)(w:World)(e:Ending)(w':World):Prop:=∃s:ByteArray,e= .returned (.string s)/\nums s=Fct.shape k/\s.size<=4/\Below w.heap.size w w'
theorem rshape_any (k:Int)(h:0<=k/\k<=10)(w:World):Calls Tryz.prog 46 #[.int .i64 k] w (RShape k w):=by
 have hk:k=0\/k=1\/k=2\/k=3\/k=4\/k=5\/k=6\/k=7\/k=8\/k=9\/k=10:=by omega
 clear h
 rcases hk with rfl | rfl | rfl | rfl | rfl | rfl | rfl | rfl | rfl | rfl | rfl<;>
 ·go_enter Tryz.func46,Tryz.ntmps46
  go_wp2_with fail
  go_ret
  exact⟨_,rfl,by decide +kernel,by decide,(Below.refl _ w).alloc (Nat.le_refl _) _⟩
end
section
open Go.RowKit Sha Fct
open Fld (Itm)
structure FBox (w0:World)(g:Nat)(x:Fac)(q:Option Addr)(c:Nat)(w:World):Prop where
 blk:Blk w g (fcells x q c) 28
 x:sF.Good w x q c
 below:Below w0.heap.size w0 w
theorem FBox.on {w0 w w':World} {g:Nat} {x:Fac} {q:Option Addr} {c:Nat}(h:FBox w0 g x q c w)(hb:Below w.heap.size w w'):FBox w0 g x q c w':=
 ⟨h.blk.below hb h.blk.lt,h.x.below hb,h.below.trans (hb.mono h.below.size)⟩
theorem fbox_of {w:World} {x:Fac} {q:Option Addr} {c:Nat}(hx:sF.Good w x q c):FBox w w.heap.size x q c (w.alloc (.cells (fcells x q c).toArray 28)):=by
 have hb:=(Below.refl w.heap.size w).alloc (Nat.le_refl _) (.cells (fcells x q c).toArray 28)
 exact⟨Blk.new w (fcells x q c).toArray 28,hx.below hb,hb⟩
theorem below_alloc9 {a w:World}(h:Below a.heap.size a w)(o:Obj):Below a.heap.size a (w.alloc o):=h.alloc h.size o
theorem below_next9 {a w w':World}(h:Below a.heap.size a w)(hb:Below w.heap.size w w'):Below a.heap.size a w':=h.trans (hb.mono h.size)
attribute [local go_sem ↓] execOp_allocFact execOp_storeFact execOp_boxFact execOp_makeFact execOp_loadFact execOp_loadId execOp_loadItem execOp_buildItems execOp_makeItem execOp_loadBal
theorem rcheck9_any (x:Fac)(q:Option Addr)(c:Nat)(w:World)(hx:sF.Good w x q c)(hm:x.B.length<=100000):
 Calls Tryz.prog 16 #[.agg (fcells x q c).toArray] w fun e w'=>e= .returned (.int .i64 (Fct.check x))/\Below w.heap.size w w':=by
 have hF:=fbox_of hx
 have bx:=run_boxOp (P:=Tryz.prog) (t:=28) (cs:=(fcells x q c).toArray) w
 obtain⟨w1,hw1⟩:∃v,v=w.alloc (.cells (fcells x q c).toArray 28):=⟨_,rfl⟩
 rw[<-hw1]at hF bx
 obtain⟨g,hg⟩:∃g,g=w.heap.size:=⟨_,rfl⟩
 rw[<-hg]at hF bx
 have HF:=Lib.hid hF
 have HM:=Lib.hid hm
 clear hF hm hx hw1 hg
 have c0:w1.cell? ⟨g,0,none⟩=some (.int .i64 x.K):=(HF.out.blk.cell 0).trans (fcells_K x q c)
 by_cases h1:x.K < 1
 ·have e1:decide (x.K < 1)=true:=decide_eq_true h1
  rw[check_no (fun h=>by have:=h.kind;omega)]
  clear h1
  go_enter Tryz.func16,Tryz.ntmps16
  go_wp2_with fail
  go_quiet (fail)
  go_wp2_with fail
  go_ret
  exact⟨rfl,below_drewN HF.out.below _⟩
 ·have e1:decide (x.K < 1)=false:=decide_eq_false h1
  by_cases h2:x.K>=11
  ·have e2:decide (x.K>=11)=true:=decide_eq_true h2
   rw[check_no (fun h=>by have:=h.kind;omega)]
   clear h1 h2
   go_enter Tryz.func16,Tryz.ntmps16
   go_wp2_with fail
   go_quiet (fail)
   go_wp2_with fail
   go_ret
   exact⟨rfl,below_drewN HF.out.below _⟩
  ·have e2:decide (x.K>=11)=false:=decide_eq_false h2
   have hk:1<=x.K/\x.K < 11:=by omega
   have HK:=Lib.hid hk
   have E0:=Lib.hid (fun W (hb:Below w1.heap.size w1 W)=>(show W.cell? ⟨g,0,none⟩=some (.int .i64 x.K)from((HF.out.blk.below hb HF.out.blk.lt).cell 0).trans (fcells_K x q c)))
   have E1:=Lib.hid (fun W (hb:Below w1.heap.size w1 W)=>load_factB (HF.out.blk.below hb HF.out.blk.lt) HF.out.x.ok.len)
   have H1:=Lib.hid (fun W (hb:Below w1.heap.size w1 W)=>ritems_any x q c W (HF.out.x.below hb) hk)
   have H2:=Lib.hid (fun W (hb:Below w1.heap.size w1 W) (p:Option Addr) (n:Nat) (ht:Told W p n n (items x))=>rof_any x hk p n n W HF.out.x.ok ht HM.out)
   have H3:=Lib.hid (fun W (hb:Below w1.heap.size w1 W) r d (hy:sF.Good W (of x.K (items x)) r d)=>rsame_any (of x.K (items x)) x r q d c W hy (HF.out.x.below hb))
   obtain⟨y,hy⟩:∃y,y=of x.K (items x):=⟨_,rfl⟩
   rw[<-hy]at H2 H3
   obtain⟨bb,hbb⟩:∃b,b=decide (y=x):=⟨_,rfl⟩
   rw[<-hbb]at H3
   have HY:=Lib.hid hy
   have HBB:=Lib.hid hbb
   clear h1 h2 hk hy hbb
   go_enter Tryz.func16,Tryz.ntmps16
   go_wp2_with fail
   go_cut [24] (fun b wx=>b= .bool (!bb)/\Hid (Below w1.heap.size w1 wx))
   case first=>
    go_region_held3 (fun w'=>Below w1.heap.size w1 w'/\w'.cell? ⟨g,0,none⟩=some (.int .i64 x.K)/\(loadOp 28 (.pointer (some ⟨g,0,none⟩))).run Tryz.prog w'= .ok (.value (.agg (fcells x q c).toArray)) w')
     (exact⟨by(repeat(first | exact Below.refl _ _ | assumption | refine Below.drew ?_ | refine below_alloc9 ?_ _)),E0.out _ (by(repeat(first | exact Below.refl _ _ | assumption | refine Below.drew ?_ | refine below_alloc9 ?_ _))),E1.out _ (by(repeat(first | exact Below.refl _ _ | assumption | refine Below.drew ?_ | refine below_alloc9 ?_ _)))⟩)
     ((first
       | (go_at_call 47;refine(H1.out _ (by(repeat(first | exact Below.refl _ _ | assumption | refine Below.drew ?_ | refine below_alloc9 ?_ _)))).mono ?_;rintro e w2 ⟨p2,n2,rfl,ht,hb⟩;(have hbw:Below w1.heap.size w1 w2:=below_next9 (by(repeat(first | exact Below.refl _ _ | assumption | refine Below.drew ?_ | refine below_alloc9 ?_ _))) hb);(have c02:=E0.out _ hbw);(have ld2:=E1.out _ hbw);(have HT2:=Lib.hid ht);clear ht hb)
       | (go_at_call 49;refine(H2.out _ (by(repeat(first | exact Below.refl _ _ | assumption | refine Below.drew ?_ | refine below_alloc9 ?_ _))) p2 n2 HT2.out).mono ?_;rintro e w3 ⟨r3,d3,rfl,hg3,hb⟩;(have hbw3:Below w1.heap.size w1 w3:=below_next9 (by(repeat(first | exact Below.refl _ _ | assumption | refine Below.drew ?_ | refine below_alloc9 ?_ _))) hb);(have c03:=E0.out _ hbw3);(have ld3:=E1.out _ hbw3);(have HG3:=Lib.hid hg3);clear hg3 hb)
       | (go_at_call 48;refine(H3.out _ (by(repeat(first | exact Below.refl _ _ | assumption | refine Below.drew ?_ | refine below_alloc9 ?_ _))) r3 d3 HG3.out).mono ?_;rintro e w4 ⟨rfl,hb⟩;(have hbw4:Below w1.heap.size w1 w4:=below_next9 (by(repeat(first | exact Below.refl _ _ | assumption | refine Below.drew ?_ | refine below_alloc9 ?_ _))) hb);(have c04:=E0.out _ hbw4);(have ld4:=E1.out _ hbw4);clear hb)))
    all_goals(go_wp2_with fail;go_meet;exact⟨rfl,Lib.hid hbw4⟩)
   case rest=>
    obtain⟨rfl,HBC⟩:=hcut
    have HB:=Lib.hid (HF.out.below.trans (HBC.out.mono HF.out.below.size))
    have HFC:=Lib.hid (HF.out.on HBC.out)
    clear E0 E1 H1 H2 H3 bx c0
    cases bb with
    | false=>
       have HCH:=Lib.hid (check_no (f:=x) (fun h=>by have:=h.pure_;rw[<-HY.out]at this;rw[decide_eq_true this]at HBB;exact absurd HBB.out (by decide)))
       go_wp2_with fail
       go_ret
       exact⟨by rw[HCH.out];rfl,HB.out⟩
    | true=>
       have HP:=Lib.hid (show of x.K (items x)=x from by rw[<-HY.out];exact of_decide_eq_true HBB.out.symm)
       clear HBB HY
       have c0:=(HFC.out.blk.cell 0).trans (fcells_K x q c)
       have c1:=(HFC.out.blk.cell 1).trans (fcells_S x q c)
       have c2:=(HFC.out.blk.cell 2).trans (fcells_H x q c)
       have c3:=(HFC.out.blk.cell 3).trans (fcells_N x q c)
       have c4:=(HFC.out.blk.cell 4).trans (fcells_O x q c)
       obtain⟨m,hm⟩:∃m,m=x.B.length:=⟨_,rfl⟩
       have c5:wc.cell? ⟨g,37,none⟩=some (.slice q m c):=by rw[hm];exact(HFC.out.blk.cell 37).trans (fcells_B HFC.out.x.ok.len q c)
       have HML:=Lib.hid hm
       have HS:=Lib.hid (fun W=>rset_any x.S W)
       have HH:=Lib.hid (fun W=>rnode_any x.H W)
       have HN:=Lib.hid (fun W=>rset_any x.N W)
       have HO:=Lib.hid (fun W=>rnode_any x.O W)
       obtain⟨bS,hS⟩:∃b,b=decide (1<=x.S/\x.S<=2147483647):=⟨_,rfl⟩
       obtain⟨bH,hH⟩:∃b,b=decide (1<=x.H/\x.H<=64):=⟨_,rfl⟩
       obtain⟨bN,hN⟩:∃b,b=decide (1<=x.N/\x.N<=2147483647):=⟨_,rfl⟩
       obtain⟨bO,hO⟩:∃b,b=decide (1<=x.O/\x.O<=64):=⟨_,rfl⟩
       rw[<-hS]at HS
       rw[<-hH]at HH
       rw[<-hN]at HN
       rw[<-hO]at HO
       have VS:=Lib.hid hS
       have VH:=Lib.hid hH
       have VN:=Lib.hid hN
       have VO:=Lib.hid hO
       clear hS hH hN hO hm
       have HCAN:=Lib.hid (show∀(h1:x.K≠1->x.K≠3->setOk x.S) (h2:x.K=5\/x.K=6->nodeOk x.H) (h3:x.K=7\/x.K=8->setOk x.N/\nodeOk x.O) (h4:x.B.length<=if x.K=3 then 1024 else 4000),check x=0 from fun h1 h2 h3 h4=>check_ok ⟨HK.out,HP.out,h1,h2,h3,h4⟩)
       rcases kinds HK.out with e | e | e | e | e | e | e | e | e | e
       ·by_cases hL:(m:Int) > 4000
        ·have dL:decide ((m:Int) > 4000)=true:=decide_eq_true hL
         have hch:=check_no (f:=x) (fun h=>by have h1:=h.most;rw[if_neg (by omega)]at h1;have:=HML.out;omega)
         have HCH:=Lib.hid hch
         rw[e]at c0
         clear hch e HCAN HML HFC HP HK hL
         go_wp2_with fail
         go_ret
         exact⟨by rw[HCH.out];rfl,HB.out⟩
        ·have dL:decide ((m:Int) > 4000)=false:=decide_eq_false hL
         have hch:=HCAN.out (fun h _=>absurd e h) (fun h=>by omega) (fun h=>by omega) (by rw[if_neg (by omega)];have:=HML.out;omega)
         have HCH:=Lib.hid hch
         rw[e]at c0
         clear hch e HCAN HML HFC HP HK hL
         go_wp2_with fail
         go_ret
         exact⟨by rw[HCH.out];rfl,HB.out⟩
       ·cases bS with
        | false=>
           have hch:=check_no (f:=x) (fun h=>by have h1:=h.set_ (by omega) (by omega);unfold setOk at h1;rw[decide_eq_true h1]at VS;exact absurd VS.out (by decide))
           have HCH:=Lib.hid hch
           rw[e]at c0
           clear hch e HCAN HML HFC HP HK
           go_wp2_with fail
           refine(HS.out _).mono ?_
           rintro e1 w5 ⟨rfl,e5⟩
           subst e5
           go_wp2_with fail
           go_ret
           exact⟨by rw[HCH.out];rfl,HB.out⟩
        | true=>
           by_cases hL:(m:Int) > 4000
           ·have dL:decide ((m:Int) > 4000)=true:=decide_eq_true hL
            have hch:=check_no (f:=x) (fun h=>by have h1:=h.most;rw[if_neg (by omega)]at h1;have:=HML.out;omega)
            have HCH:=Lib.hid hch
            rw[e]at c0
            clear hch e HCAN HML HFC HP HK hL
            go_wp2_with fail
            refine(HS.out _).mono ?_
            rintro e1 w5 ⟨rfl,e5⟩
            subst e5
            go_wp2_with fail
            go_ret
            exact⟨by rw[HCH.out];rfl,HB.out⟩
           ·have dL:decide ((m:Int) > 4000)=false:=decide_eq_false hL
            have hch:=HCAN.out (fun _ _=>of_decide_eq_true VS.out.symm) (fun h=>by omega) (fun h=>by omega) (by rw[if_neg (by omega)];have:=HML.out;omega)
            have HCH:=Lib.hid hch
            rw[e]at c0
            clear hch e HCAN HML HFC HP HK hL
            go_wp2_with fail
            refine(HS.out _).mono ?_
            rintro e1 w5 ⟨rfl,e5⟩
            subst e5
            go_wp2_with fail
            go_ret
            exact⟨by rw[HCH.out];rfl,HB.out⟩
       ·by_cases hL:(m:Int) > 1024
        ·have dL:decide ((m:Int) > 1024)=true:=decide_eq_true hL
         have hch:=check_no (f:=x) (fun h=>by have h1:=h.most;rw[if_pos (by omega)]at h1;have:=HML.out;omega)
         have HCH:=Lib.hid hch
         rw[e]at c0
         clear hch e HCAN HML HFC HP HK hL
         go_wp2_with fail
         go_ret
         exact⟨by rw[HCH.out];rfl,HB.out⟩
        ·have dL:decide ((m:Int) > 1024)=false:=decide_eq_false hL
         have hch:=HCAN.out (fun _ h=>absurd e h) (fun h=>by omega) (fun h=>by omega) (by rw[if_pos (by omega)];have:=HML.out;omega)
         have HCH:=Lib.hid hch
         rw[e]at c0
         clear hch e HCAN HML HFC HP HK hL
         go_wp2_with fail
         go_ret
         exact⟨by rw[HCH.out];rfl,HB.out⟩
       ·cases bS with
        | false=>
           have hch:=check_no (f:=x) (fun h=>by have h1:=h.set_ (by omega) (by omega);unfold setOk at h1;rw[decide_eq_true h1]at VS;exact absurd VS.out (by decide))
           have HCH:=Lib.hid hch
           rw[e]at c0
           clear hch e HCAN HML HFC HP HK
           go_wp2_with fail
           refine(HS.out _).mono ?_
           rintro e1 w5 ⟨rfl,e5⟩
           subst e5
           go_wp2_with fail
           go_ret
           exact⟨by rw[HCH.out];rfl,HB.out⟩
        | true=>
           by_cases hL:(m:Int) > 4000
           ·have dL:decide ((m:Int) > 4000)=true:=decide_eq_true hL
            have hch:=check_no (f:=x) (fun h=>by have h1:=h.most;rw[if_neg (by omega)]at h1;have:=HML.out;omega)
            have HCH:=Lib.hid hch
            rw[e]at c0
            clear hch e HCAN HML HFC HP HK hL
            go_wp2_with fail
            refine(HS.out _).mono ?_
            rintro e1 w5 ⟨rfl,e5⟩
            subst e5
            go_wp2_with fail
            go_ret
            exact⟨by rw[HCH.out];rfl,HB.out⟩
           ·have dL:decide ((m:Int) > 4000)=false:=decide_eq_false hL
            have hch:=HCAN.out (fun _ _=>of_decide_eq_true VS.out.symm) (fun h=>by omega) (fun h=>by omega) (by rw[if_neg (by omega)];have:=HML.out;omega)
            have HCH:=Lib.hid hch
            rw[e]at c0
            clear hch e HCAN HML HFC HP HK hL
            go_wp2_with fail
            refine(HS.out _).mono ?_
            rintro e1 w5 ⟨rfl,e5⟩
            subst e5
            go_wp2_with fail
            go_ret
            exact⟨by rw[HCH.out];rfl,HB.out⟩
       ·cases bS with
        | false=>
           have hch:=check_no (f:=x) (fun h=>by have h1:=h.set_ (by omega) (by omega);unfold setOk at h1;rw[decide_eq_true h1]at VS;exact absurd VS.out (by decide))
           have HCH:=Lib.hid hch
           rw[e]at c0
           clear hch e HCAN HML HFC HP HK
           go_wp2_with fail
           refine(HS.out _).mono ?_
           rintro e1 w5 ⟨rfl,e5⟩
           subst e5
           go_wp2_with fail
           go_ret
           exact⟨by rw[HCH.out];rfl,HB.out⟩
        | true=>
           cases bH with
           | false=>
              have hch:=check_no (f:=x) (fun h=>by have h1:=h.home (by omega);unfold nodeOk at h1;rw[decide_eq_true h1]at VH;exact absurd VH.out (by decide))
              have HCH:=Lib.hid hch
              rw[e]at c0
              clear hch e HCAN HML HFC HP HK
              go_wp2_with fail
              refine(HS.out _).mono ?_
              rintro e1 w5 ⟨rfl,e5⟩
              subst e5
              go_wp2_with fail
              refine(HH.out _).mono ?_
              rintro e1 w5 ⟨rfl,e5⟩
              subst e5
              go_wp2_with fail
              go_ret
              exact⟨by rw[HCH.out];rfl,HB.out⟩
           | true=>
              by_cases hL:(m:Int) > 4000
              ·have dL:decide ((m:Int) > 4000)=true:=decide_eq_true hL
               have hch:=check_no (f:=x) (fun h=>by have h1:=h.most;rw[if_neg (by omega)]at h1;have:=HML.out;omega)
               have HCH:=Lib.hid hch
               rw[e]at c0
               clear hch e HCAN HML HFC HP HK hL
               go_wp2_with fail
               refine(HS.out _).mono ?_
               rintro e1 w5 ⟨rfl,e5⟩
               subst e5
               go_wp2_with fail
               refine(HH.out _).mono ?_
               rintro e1 w5 ⟨rfl,e5⟩
               subst e5
               go_wp2_with fail
               go_ret
               exact⟨by rw[HCH.out];rfl,HB.out⟩
              ·have dL:decide ((m:Int) > 4000)=false:=decide_eq_false hL
               have hch:=HCAN.out (fun _ _=>of_decide_eq_true VS.out.symm) (fun _=>of_decide_eq_true VH.out.symm) (fun h=>by omega) (by rw[if_neg (by omega)];have:=HML.out;omega)
               have HCH:=Lib.hid hch
               rw[e]at c0
               clear hch e HCAN HML HFC HP HK hL
               go_wp2_with fail
               refine(HS.out _).mono ?_
               rintro e1 w5 ⟨rfl,e5⟩
               subst e5
               go_wp2_with fail
               refine(HH.out _).mono ?_
               rintro e1 w5 ⟨rfl,e5⟩
               subst e5
               go_wp2_with fail
               go_ret
               exact⟨by rw[HCH.out];rfl,HB.out⟩
       ·cases bS with
        | false=>
           have hch:=check_no (f:=x) (fun h=>by have h1:=h.set_ (by omega) (by omega);unfold setOk at h1;rw[decide_eq_true h1]at VS;exact absurd VS.out (by decide))
           have HCH:=Lib.hid hch
           rw[e]at c0
           clear hch e HCAN HML HFC HP HK
           go_wp2_with fail
           refine(HS.out _).mono ?_
           rintro e1 w5 ⟨rfl,e5⟩
           subst e5
           go_wp2_with fail
           go_ret
           exact⟨by rw[HCH.out];rfl,HB.out⟩
        | true=>
           cases bH with
           | false=>
              have hch:=check_no (f:=x) (fun h=>by have h1:=h.home (by omega);unfold nodeOk at h1;rw[decide_eq_true h1]at VH;exact absurd VH.out (by decide))
              have HCH:=Lib.hid hch
              rw[e]at c0
              clear hch e HCAN HML HFC HP HK
              go_wp2_with fail
              refine(HS.out _).mono ?_
              rintro e1 w5 ⟨rfl,e5⟩
              subst e5
              go_wp2_with fail
              refine(HH.out _).mono ?_
              rintro e1 w5 ⟨rfl,e5⟩
              subst e5
              go_wp2_with fail
              go_ret
              exact⟨by rw[HCH.out];rfl,HB.out⟩
           | true=>
              by_cases hL:(m:Int) > 4000
              ·have dL:decide ((m:Int) > 4000)=true:=decide_eq_true hL
               have hch:=check_no (f:=x) (fun h=>by have h1:=h.most;rw[if_neg (by omega)]at h1;have:=HML.out;omega)
               have HCH:=Lib.hid hch
               rw[e]at c0
               clear hch e HCAN HML HFC HP HK hL
               go_wp2_with fail
               refine(HS.out _).mono ?_
               rintro e1 w5 ⟨rfl,e5⟩
               subst e5
               go_wp2_with fail
               refine(HH.out _).mono ?_
               rintro e1 w5 ⟨rfl,e5⟩
               subst e5
               go_wp2_with fail
               go_ret
               exact⟨by rw[HCH.out];rfl,HB.out⟩
              ·have dL:decide ((m:Int) > 4000)=false:=decide_eq_false hL
               have hch:=HCAN.out (fun _ _=>of_decide_eq_true VS.out.symm) (fun _=>of_decide_eq_true VH.out.symm) (fun h=>by omega) (by rw[if_neg (by omega)];have:=HML.out;omega)
               have HCH:=Lib.hid hch
               rw[e]at c0
               clear hch e HCAN HML HFC HP HK hL
               go_wp2_with fail
               refine(HS.out _).mono ?_
               rintro e1 w5 ⟨rfl,e5⟩
               subst e5
               go_wp2_with fail
               refine(HH.out _).mono ?_
               rintro e1 w5 ⟨rfl,e5⟩
               subst e5
               go_wp2_with fail
               go_ret
               exact⟨by rw[HCH.out];rfl,HB.out⟩
       ·cases bS with
        | false=>
           have hch:=check_no (f:=x) (fun h=>by have h1:=h.set_ (by omega) (by omega);unfold setOk at h1;rw[decide_eq_true h1]at VS;exact absurd VS.out (by decide))
           have HCH:=Lib.hid hch
           rw[e]at c0
           clear hch e HCAN HML HFC HP HK
           go_wp2_with fail
           refine(HS.out _).mono ?_
           rintro e1 w5 ⟨rfl,e5⟩
           subst e5
           go_wp2_with fail
           go_ret
           exact⟨by rw[HCH.out];rfl,HB.out⟩
        | true=>
           cases bN with
           | false=>
              have hch:=check_no (f:=x) (fun h=>by have h1:=(h.ballot (by omega)).1;unfold setOk at h1;rw[decide_eq_true h1]at VN;exact absurd VN.out (by decide))
              have HCH:=Lib.hid hch
              rw[e]at c0
              clear hch e HCAN HML HFC HP HK
              go_wp2_with fail
              refine(HS.out _).mono ?_
              rintro e1 w5 ⟨rfl,e5⟩
              subst e5
              go_wp2_with fail
              refine(HN.out _).mono ?_
              rintro e1 w5 ⟨rfl,e5⟩
              subst e5
              go_wp2_with fail
              go_ret
              exact⟨by rw[HCH.out];rfl,HB.out⟩
           | true=>
              cases bO with
              | false=>
                 have hch:=check_no (f:=x) (fun h=>by have h1:=(h.ballot (by omega)).2;unfold nodeOk at h1;rw[decide_eq_true h1]at VO;exact absurd VO.out (by decide))
                 have HCH:=Lib.hid hch
                 rw[e]at c0
                 clear hch e HCAN HML HFC HP HK
                 go_wp2_with fail
                 refine(HS.out _).mono ?_
                 rintro e1 w5 ⟨rfl,e5⟩
                 subst e5
                 go_wp2_with fail
                 refine(HN.out _).mono ?_
                 rintro e1 w5 ⟨rfl,e5⟩
                 subst e5
                 go_wp2_with fail
                 refine(HO.out _).mono ?_
                 rintro e1 w5 ⟨rfl,e5⟩
                 subst e5
                 go_wp2_with fail
                 go_ret
                 exact⟨by rw[HCH.out];rfl,HB.out⟩
              | true=>
                 by_cases hL:(m:Int) > 4000
                 ·have dL:decide ((m:Int) > 4000)=true:=decide_eq_true hL
                  have hch:=check_no (f:=x) (fun h=>by have h1:=h.most;rw[if_neg (by omega)]at h1;have:=HML.out;omega)
                  have HCH:=Lib.hid hch
                  rw[e]at c0
                  clear hch e HCAN HML HFC HP HK hL
                  go_wp2_with fail
                  refine(HS.out _).mono ?_
                  rintro e1 w5 ⟨rfl,e5⟩
                  subst e5
                  go_wp2_with fail
                  refine(HN.out _).mono ?_
                  rintro e1 w5 ⟨rfl,e5⟩
                  subst e5
                  go_wp2_with fail
                  refine(HO.out _).mono ?_
                  rintro e1 w5 ⟨rfl,e5⟩
                  subst e5
                  go_wp2_with fail
                  go_ret
                  exact⟨by rw[HCH.out];rfl,HB.out⟩
                 ·have dL:decide ((m:Int) > 4000)=false:=decide_eq_false hL
                  have hch:=HCAN.out (fun _ _=>of_decide_eq_true VS.out.symm) (fun h=>by omega) (fun _=>⟨of_decide_eq_true VN.out.symm,of_decide_eq_true VO.out.symm⟩) (by rw[if_neg (by omega)];have:=HML.out;omega)
                  have HCH:=Lib.hid hch
                  rw[e]at c0
                  clear hch e HCAN HML HFC HP HK hL
                  go_wp2_with fail
                  refine(HS.out _).mono ?_
                  rintro e1 w5 ⟨rfl,e5⟩
                  subst e5
                  go_wp2_with fail
                  refine(HN.out _).mono ?_
                  rintro e1 w5 ⟨rfl,e5⟩
                  subst e5
                  go_wp2_with fail
                  refine(HO.out _).mono ?_
                  rintro e1 w5 ⟨rfl,e5⟩
                  subst e5
                  go_wp2_with fail
                  go_ret
                  exact⟨by rw[HCH.out];rfl,HB.out⟩
       ·cases bS with
        | false=>
           have hch:=check_no (f:=x) (fun h=>by have h1:=h.set_ (by omega) (by omega);unfold setOk at h1;rw[decide_eq_true h1]at VS;exact absurd VS.out (by decide))
           have HCH:=Lib.hid hch
           rw[e]at c0
           clear hch e HCAN HML HFC HP HK
           go_wp2_with fail
           refine(HS.out _).mono ?_
           rintro e1 w5 ⟨rfl,e5⟩
           subst e5
           go_wp2_with fail
           go_ret
           exact⟨by rw[HCH.out];rfl,HB.out⟩
        | true=>
           cases bN with
           | false=>
              have hch:=check_no (f:=x) (fun h=>by have h1:=(h.ballot (by omega)).1;unfold setOk at h1;rw[decide_eq_true h1]at VN;exact absurd VN.out (by decide))
              have HCH:=Lib.hid hch
              rw[e]at c0
              clear hch e HCAN HML HFC HP HK
              go_wp2_with fail
              refine(HS.out _).mono ?_
              rintro e1 w5 ⟨rfl,e5⟩
              subst e5
              go_wp2_with fail
              refine(HN.out _).mono ?_
              rintro e1 w5 ⟨rfl,e5⟩
              subst e5
              go_wp2_with fail
              go_ret
              exact⟨by rw[HCH.out];rfl,HB.out⟩
           | true=>
              cases bO with
              | false=>
                 have hch:=check_no (f:=x) (fun h=>by have h1:=(h.ballot (by omega)).2;unfold nodeOk at h1;rw[decide_eq_true h1]at VO;exact absurd VO.out (by decide))
                 have HCH:=Lib.hid hch
                 rw[e]at c0
                 clear hch e HCAN HML HFC HP HK
                 go_wp2_with fail
                 refine(HS.out _).mono ?_
                 rintro e1 w5 ⟨rfl,e5⟩
                 subst e5
                 go_wp2_with fail
                 refine(HN.out _).mono ?_
                 rintro e1 w5 ⟨rfl,e5⟩
                 subst e5
                 go_wp2_with fail
                 refine(HO.out _).mono ?_
                 rintro e1 w5 ⟨rfl,e5⟩
                 subst e5
                 go_wp2_with fail
                 go_ret
                 exact⟨by rw[HCH.out];rfl,HB.out⟩
              | true=>
                 by_cases hL:(m:Int) > 4000
                 ·have dL:decide ((m:Int) > 4000)=true:=decide_eq_true hL
                  have hch:=check_no (f:=x) (fun h=>by have h1:=h.most;rw[if_neg (by omega)]at h1;have:=HML.out;omega)
                  have HCH:=Lib.hid hch
                  rw[e]at c0
                  clear hch e HCAN HML HFC HP HK hL
                  go_wp2_with fail
                  refine(HS.out _).mono ?_
                  rintro e1 w5 ⟨rfl,e5⟩
                  subst e5
                  go_wp2_with fail
                  refine(HN.out _).mono ?_
                  rintro e1 w5 ⟨rfl,e5⟩
                  subst e5
                  go_wp2_with fail
                  refine(HO.out _).mono ?_
                  rintro e1 w5 ⟨rfl,e5⟩
                  subst e5
                  go_wp2_with fail
                  go_ret
                  exact⟨by rw[HCH.out];rfl,HB.out⟩
                 ·have dL:decide ((m:Int) > 4000)=false:=decide_eq_false hL
                  have hch:=HCAN.out (fun _ _=>of_decide_eq_true VS.out.symm) (fun h=>by omega) (fun _=>⟨of_decide_eq_true VN.out.symm,of_decide_eq_true VO.out.symm⟩) (by rw[if_neg (by omega)];have:=HML.out;omega)
                  have HCH:=Lib.hid hch
                  rw[e]at c0
                  clear hch e HCAN HML HFC HP HK hL
                  go_wp2_with fail
                  refine(HS.out _).mono ?_
                  rintro e1 w5 ⟨rfl,e5⟩
                  subst e5
                  go_wp2_with fail
                  refine(HN.out _).mono ?_
                  rintro e1 w5 ⟨rfl,e5⟩
                  subst e5
                  go_wp2_with fail
                  refine(HO.out _).mono ?_
                  rintro e1 w5 ⟨rfl,e5⟩
                  subst e5
                  go_wp2_with fail
                  go_ret
                  exact⟨by rw[HCH.out];rfl,HB.out⟩
       ·cases bS with
        | false=>
           have hch:=check_no (f:=x) (fun h=>by have h1:=h.set_ (by omega) (by omega);unfold setOk at h1;rw[decide_eq_true h1]at VS;exact absurd VS.out (by decide))
           have HCH:=Lib.hid hch
           rw[e]at c0
           clear hch e HCAN HML HFC HP HK
           go_wp2_with fail
           refine(HS.out _).mono ?_
           rintro e1 w5 ⟨rfl,e5⟩
           subst e5
           go_wp2_with fail
           go_ret
           exact⟨by rw[HCH.out];rfl,HB.out⟩
        | true=>
           by_cases hL:(m:Int) > 4000
           ·have dL:decide ((m:Int) > 4000)=true:=decide_eq_true hL
            have hch:=check_no (f:=x) (fun h=>by have h1:=h.most;rw[if_neg (by omega)]at h1;have:=HML.out;omega)
            have HCH:=Lib.hid hch
            rw[e]at c0
            clear hch e HCAN HML HFC HP HK hL
            go_wp2_with fail
            refine(HS.out _).mono ?_
            rintro e1 w5 ⟨rfl,e5⟩
            subst e5
            go_wp2_with fail
            go_ret
            exact⟨by rw[HCH.out];rfl,HB.out⟩
           ·have dL:decide ((m:Int) > 4000)=false:=decide_eq_false hL
            have hch:=HCAN.out (fun _ _=>of_decide_eq_true VS.out.symm) (fun h=>by omega) (fun h=>by omega) (by rw[if_neg (by omega)];have:=HML.out;omega)
            have HCH:=Lib.hid hch
            rw[e]at c0
            clear hch e HCAN HML HFC HP HK hL
            go_wp2_with fail
            refine(HS.out _).mono ?_
            rintro e1 w5 ⟨rfl,e5⟩
            subst e5
            go_wp2_with fail
            go_ret
            exact⟨by rw[HCH.out];rfl,HB.out⟩
       ·cases bS with
        | false=>
           have hch:=check_no (f:=x) (fun h=>by have h1:=h.set_ (by omega) (by omega);unfold setOk at h1;rw[decide_eq_true h1]at VS;exact absurd VS.out (by decide))
           have HCH:=Lib.hid hch
           rw[e]at c0
           clear hch e HCAN HML HFC HP HK
           go_wp2_with fail
           refine(HS.out _).mono ?_
           rintro e1 w5 ⟨rfl,e5⟩
           subst e5
           go_wp2_with fail
           go_ret
           exact⟨by rw[HCH.out];rfl,HB.out⟩
        | true=>
           by_cases hL:(m:Int) > 4000
           ·have dL:decide ((m:Int) > 4000)=true:=decide_eq_true hL
            have hch:=check_no (f:=x) (fun h=>by have h1:=h.most;rw[if_neg (by omega)]at h1;have:=HML.out;omega)
            have HCH:=Lib.hid hch
            rw[e]at c0
            clear hch e HCAN HML HFC HP HK hL
            go_wp2_with fail
            refine(HS.out _).mono ?_
            rintro e1 w5 ⟨rfl,e5⟩
            subst e5
            go_wp2_with fail
            go_ret
            exact⟨by rw[HCH.out];rfl,HB.out⟩
           ·have dL:decide ((m:Int) > 4000)=false:=decide_eq_false hL
            have hch:=HCAN.out (fun _ _=>of_decide_eq_true VS.out.symm) (fun h=>by omega) (fun h=>by omega) (by rw[if_neg (by omega)];have:=HML.out;omega)
            have HCH:=Lib.hid hch
            rw[e]at c0
            clear hch e HCAN HML HFC HP HK hL
            go_wp2_with fail
            refine(HS.out _).mono ?_
            rintro e1 w5 ⟨rfl,e5⟩
            subst e5
            go_wp2_with fail
            go_ret
            exact⟨by rw[HCH.out];rfl,HB.out⟩
end
section
open Go.RowKit Sha
open Fld (Itm)
theorem letter_any (c:Int)(w:World):Calls Tryz.prog 120 #[.int .u8 c] w fun e w'=>e= .returned (.bool (decide (c=110\/c=98\/c=100)))/\w=w':=by
 go_enter Tryz.func120,Tryz.ntmps120
 by_cases h1:c=110
 ·subst h1
  go_wp2_with fail
  go_ret
  exact⟨rfl,rfl⟩
 ·have e1:(c == 110)=false:=by rw[beq_eq_false_iff_ne];exact h1
  by_cases h2:c=98
  ·subst h2
   go_wp2_with fail
   go_ret
   exact⟨rfl,rfl⟩
  ·have e2:(c == 98)=false:=by rw[beq_eq_false_iff_ne];exact h2
   by_cases h3:c=100
   ·subst h3
    go_wp2_with fail
    go_ret
    exact⟨rfl,rfl⟩
   ·have e3:(c == 100)=false:=by rw[beq_eq_false_iff_ne];exact h3
    have HD:=Lib.hid (show decide (c=110\/c=98\/c=100)=false by simp[h1,h2,h3])
    clear h1 h2 h3
    go_wp2_with fail
    go_ret
    exact⟨congrArg (fun b=>Ending.returned (Value.bool b)) HD.out.symm,rfl⟩
theorem rnumber_any (n:Nat)(w:World)(hn:n<=9223372036854775807):
 Calls Tryz.prog 122 #[.int .i64 n] w fun e w'=>∃v,e= .returned v/\w'.ownsRow w.heap.size 5 1 v (Fld.num n).length ((Fld.num n).map v8)/\Below w.heap.size w w':=by
 go_enter Tryz.func122,Tryz.ntmps122
 go_wp2_with fail
 go_loopw [0,3] (fun i vv wr=>∃(k:Nat) (cur:List Int) (v:Value),i= .int .i64 k/\v=vv/\k<=n/\Hid (cur++Fld.num k=Fld.num n)/\Hid (wr.ownsRow w.heap.size 5 1 v cur.length (cur.map v8))/\Hid (Below w.heap.size w wr)) (fun i _ _=>(intOf i).toNat)
 case atStart=>exact⟨n,[],_,rfl,rfl,Nat.le_refl _,rfl,World.ownsRow_nil _ _ _ _,Below.refl _ _⟩
 case round=>
  obtain⟨k,cur,v,rfl,rfl,hk,HE,HO,HB⟩:=hrel
  have hcl:cur.length<=1000000009:=by
   have h1:=congrArg List.length HE.out
   have h2:=Fld.num_len n (by rw[show(128:Nat) ^ 9=9223372036854775808 by decide];omega)
   simp at h1;omega
  have s1:=HB.out.size
  by_cases hge:128<=k
  ·have HN:=Lib.hid (num_next (out:=[]) HE.out hge)
   go_wp2_with (at_builtin;refine wpList_app rfl (.tmp 6) (.tmp 11) 26 rfl w.heap.size 5 Tryz.underlying26 kbyte_info rfl v _ _ rfl (HO.out.alloc _) _ 1 1 [v8 ((k:Int) % 128+128)] rfl ?_ rfl (fun h=>by cases h) (by omega) (by simp[Value.oneCell']) (by omega) (by unfold maxLen;omega) (by simp;omega) ?_;exact at_one _ _ _;intro v2 w2 hown2 hg2 hb2 hs2 _;have HO2:=Lib.hid hown2;have HB2:=Lib.hid ((HB.out.alloc s1 _).trans hb2);clear hown2 hg2 hb2)
   go_roundw
   case rel=>exact⟨k / 128,cur++[(k:Int) % 128+128],_,by go_num,rfl,by omega,Lib.hid (by have:=HN.out;simpa using this),Lib.hid (by have:=HO2.out;simpa using this),HB2⟩
   case measure=>simp[intOf];omega
  ·have HN:=Lib.hid (num_last (out:=[]) HE.out (by omega))
   go_wp2_with (at_builtin;refine wpList_app rfl (.tmp 15) (.tmp 18) 26 rfl w.heap.size 5 Tryz.underlying26 kbyte_info rfl v _ _ rfl (HO.out.alloc _) _ 1 1 [v8 ((k:Int))] rfl ?_ rfl (fun h=>by cases h) (by omega) (by simp[Value.oneCell']) (by omega) (by unfold maxLen;omega) (by simp;omega) ?_;exact at_one _ _ _;intro v2 w2 hown2 hg2 hb2 hs2 _;have HO2:=Lib.hid hown2;have HB2:=Lib.hid ((HB.out.alloc s1 _).trans hb2);clear hown2 hg2 hb2)
   go_ret
   exact⟨_,rfl,by have h:=HO2.out;have e:=HN.out;simp only[List.nil_append]at e;rw[<-e];simpa using h,HB2.out⟩
theorem run_letter (s:ByteArray)(k:Nat)(c:Int)(r:List Int)(h:(nums s).drop k=c::r)(w:World):(Instr.index 9 (.string s) (.int .i64 (k:Int))).run Tryz.prog w= .ok (.int .u8 c) w:=by
 have hk:k < s.size:=by
  rw[<-nums_length]
  rcases Nat.lt_or_ge k (nums s).length with h1 | h1
  ·exact h1
  ·rw[List.drop_eq_nil_of_le h1]at h;cases h
 rw[run_index_string w 9 s .i64 (k:Int) Tryz.underlying9,dif_pos ⟨by omega,by omega⟩]
 have h2:(nums s)[k]? = some c:=by
  have:=congrArg (·[0]?) h
  simpa using this
 unfold nums at h2
 rw[List.getElem?_map]at h2
 have h3:k < s.data.toList.length:=by simpa using hk
 rw[List.getElem?_eq_getElem h3]at h2
 simp at h2
 simp[<-h2]
 rfl
theorem drop_mid {xs g:List Int} {y:Int} {r:List Int}(h:xs=g++y::r)(k:Nat)(hk:k < g.length):xs.drop k=g[k]::(g.drop (k+1)++y::r):=by
 subst h
 rw[List.drop_append_of_le_length (by omega),List.drop_eq_getElem_cons hk]
 rfl
theorem drop_end {xs g:List Int} {y:Int} {r:List Int}(h:xs=g++y::r):xs.drop g.length=y::r:=by subst h;simp
theorem group_any (t:ByteArray)(ht:t.size<=maxLen)(g r:List Int)(h:nums t=g++41::r)(hg:∀c∈g,c≠41)(w:World):
 Calls Tryz.prog 88 #[.string t] w fun e w'=>e= .returned (.string (t.extract 0 g.length))/\w=w':=by
 have hl:g.length < t.size:=by rw[<-nums_length,h];simp
 unfold maxLen at ht
 have H:=Lib.hid h
 have HG:=Lib.hid hg
 obtain⟨n,hn⟩:∃n,n=g.length:=⟨_,rfl⟩
 rw[<-hn]at hl ⊢
 have HN:=Lib.hid hn
 clear h hg hn
 go_enter Tryz.func88,Tryz.ntmps88
 go_wp2_with fail
 go_loopw [3] (fun i wr=>∃(k:Nat),i= .int .i64 k/\k<=n/\w=wr) (fun i _=>n - (intOf i).toNat)
 case atStart=>exact⟨0,rfl,by omega,rfl⟩
 case round=>
  obtain⟨k,rfl,hk,rfl⟩:=hrel
  by_cases hlt:k < n
  ·have hkg:k < g.length:=by rw[<-HN.out];exact hlt
   obtain⟨c,hc⟩:∃c,c=g[k]:=⟨_,rfl⟩
   have hb:=run_letter t k c _ (by rw[hc];exact drop_mid H.out k hkg)
   have hne:(c == 41)=false:=by rw[beq_eq_false_iff_ne];exact HG.out c (by rw[hc];exact List.getElem_mem hkg)
   clear hc hkg
   go_wp2_with fail
   go_roundw
   case rel=>exact⟨k+1,by go_num,by omega,by first | rfl | trivial⟩
   case measure=>simp[intOf];omega
  ·obtain rfl:k=n:=by omega
   have hb:=run_letter t k 41 r (by have:=drop_end H.out;rwa [<-HN.out]at this)
   go_wp2_with fail
   go_ret
   exact⟨rfl,rfl⟩
theorem rfails_any (ga:Nat)(L K V:Value)(e er:Int)(w:World)(h:Blk w ga [L,K,V,.int .i64 e] 127):
 Calls Tryz.prog 90 #[.pointer (some ⟨ga,0,none⟩),.int .i64 er] w fun x w'=>x= .returned (.tuple #[])/\w'=if e=0 then w.setCell ⟨ga,3,none⟩ (.int .i64 er)else w:=by
 have c3:w.cell? ⟨ga,3,none⟩=some (.int .i64 e):=h.cell 3
 have f3:w.frozen? ⟨ga,3,none⟩=false:=h.free 3
 clear h
 by_cases he:e=0
 ·subst he
  go_enter Tryz.func90,Tryz.ntmps90
  go_wp2_with fail
  go_end0
  exact⟨rfl,rfl⟩
 ·have hne:(e == 0)=false:=by rw[beq_eq_false_iff_ne];exact he
  have HE:=Lib.hid he
  clear he
  go_enter Tryz.func90,Tryz.ntmps90
  go_wp2_with fail
  go_end0
  exact⟨rfl,by first | rfl | simp[HE.out]⟩
theorem letter_yes (c:Int)(hc:c=110\/c=98\/c=100)(w:World):Calls Tryz.prog 120 #[.int .u8 c] w fun e w'=>e= .returned (.bool true)/\w=w':=
 (letter_any c w).mono fun _ _ ⟨he,hw⟩=>⟨by rw[he,decide_eq_true hc],hw⟩
theorem letter_no (c:Int)(hc:¬(c=110\/c=98\/c=100))(w:World):Calls Tryz.prog 120 #[.int .u8 c] w fun e w'=>e= .returned (.bool false)/\w=w':=
 (letter_any c w).mono fun _ _ ⟨he,hw⟩=>⟨by rw[he,decide_eq_false hc],hw⟩
theorem drop_some (s:ByteArray)(k:Nat)(h:k < s.size):∃c,(nums s).drop k=c::(nums s).drop (k+1):=by
 have hl:k < (nums s).length:=by rw[nums_length];exact h
 exact⟨(nums s)[k],List.drop_eq_getElem_cons hl⟩
theorem rcheck_any (s:ByteArray)(w:World)(hs:s.size<=maxLen):
 Calls Tryz.prog 86 #[.string s] w fun e w'=>e= .returned (.int .i64 (Fld.chkE (nums s)))/\w=w':=by
 unfold maxLen at hs
 by_cases hlt:40 < s.size
 ·have HR:=Lib.hid (Fld.chkE_no (chk_gt s hlt))
  go_enter Tryz.func86,Tryz.ntmps86
  go_wp2_with fail
  go_ret
  exact⟨ret_int HR.out.symm,rfl⟩
 ·have HC:=Lib.hid (chk_le s (by omega))
  go_enter Tryz.func86,Tryz.ntmps86
  go_wp2_with fail
  go_loopw [3,4,5] (fun o n i wr=>∃(k m:Nat) (ob:Bool),k<=s.size/\i= .int .i64 k/\w=wr/\o= .bool ob/\n= .int .i64 m/\ChkRel s w ob m k) (fun _ _ i _=>s.size - (intOf i).toNat)
  case atStart=>exact⟨0,0,false,by omega,rfl,rfl,rfl,rfl,by omega,by simp⟩
  case round=>
   obtain⟨k,m,ob,hk,rfl,rfl,rfl,rfl,hr⟩:=hrel
   have hm:=hr.le
   have HR:=Lib.hid hr.chk
   clear hr
   by_cases hp:k < s.size
   ·obtain⟨c,hd⟩:=drop_some s k hp
    have hby:=run_letter s k c _ hd
    have HD:=Lib.hid hd
    clear hd
    by_cases hL:c=110\/c=98\/c=100
    ·have HN:=Lib.hid (HR.out.trans (by rw[HD.out];exact chkL_letter hL:_=Fld.chkL ((nums s).drop (k+1)) ob true))
     go_wp2_with (go_at_call 120;refine(letter_yes c hL w).mono ?_;rintro e w' ⟨rfl,rfl⟩)
     go_roundw
     case rel=>exact⟨k+1,m+1,ob,by omega,by go_num,by first | rfl | trivial,rfl,by go_num,by omega,by rw[HN.out];simp⟩
     case measure=>simp[intOf];omega
    ·by_cases h40:c=40
     ·subst h40
      cases ob with
      | false=>
         have HN:=Lib.hid (HR.out.trans (by rw[HD.out];exact chkL_open:_=Fld.chkL ((nums s).drop (k+1)) true false))
         go_wp2_with (go_at_call 120;refine(letter_no 40 hL w).mono ?_;rintro e w' ⟨rfl,rfl⟩)
         go_roundw
         case rel=>exact⟨k+1,0,true,by omega,by go_num,by first | rfl | trivial,rfl,rfl,by omega,by rw[HN.out];simp⟩
         case measure=>simp[intOf];omega
      | true=>
         have HE:=Lib.hid (Fld.chkE_no (HC.out.trans (HR.out.trans (by rw[HD.out];exact chkL_no (by omega) (by omega) (by omega) (by simp) (by simp)))))
         go_wp2_with (go_at_call 120;refine(letter_no 40 hL w).mono ?_;rintro e w' ⟨rfl,rfl⟩)
         go_ret
         exact⟨ret_int HE.out.symm,rfl⟩
     ·by_cases h41:c=41
      ·subst h41
       clear h40
       cases ob with
       | false=>
          have HE:=Lib.hid (Fld.chkE_no (HC.out.trans (HR.out.trans (by rw[HD.out];exact chkL_no (by omega) (by omega) (by omega) (by simp) (by simp)))))
          go_wp2_with (go_at_call 120;refine(letter_no 41 hL w).mono ?_;rintro e w' ⟨rfl,rfl⟩)
          go_ret
          exact⟨ret_int HE.out.symm,rfl⟩
       | true=>
          by_cases h0:0 < m
          ·have HN:=Lib.hid (HR.out.trans (by rw[HD.out,decide_eq_true h0];exact chkL_close:_=Fld.chkL ((nums s).drop (k+1)) false true))
           go_wp2_with (go_at_call 120;refine(letter_no 41 hL w).mono ?_;rintro e w' ⟨rfl,rfl⟩)
           go_roundw
           case rel=>exact⟨k+1,m,false,by omega,by go_num,by first | rfl | trivial,rfl,rfl,by omega,by rw[HN.out,decide_eq_true h0]⟩
           case measure=>simp[intOf];omega
          ·have HE:=Lib.hid (Fld.chkE_no (HC.out.trans (HR.out.trans (by rw[HD.out,decide_eq_false h0];exact chkL_no (by omega) (by omega) (by omega) (by simp) (by simp)))))
           go_wp2_with (go_at_call 120;refine(letter_no 41 hL w).mono ?_;rintro e w' ⟨rfl,rfl⟩)
           go_ret
           exact⟨ret_int HE.out.symm,rfl⟩
      ·have HE:=Lib.hid (Fld.chkE_no (HC.out.trans (HR.out.trans (by rw[HD.out];exact chkL_no (by omega) (by omega) (by omega) (by omega) (by omega)))))
       have t4:(c == 40)=false:=by rw[beq_eq_false_iff_ne];omega
       have t5:(c == 41)=false:=by rw[beq_eq_false_iff_ne];omega
       go_wp2_with (go_at_call 120;refine(letter_no c hL w).mono ?_;rintro e w' ⟨rfl,rfl⟩)
       go_ret
       exact⟨ret_int HE.out.symm,rfl⟩
   ·obtain rfl:k=s.size:=by omega
    have HD:=Lib.hid (show(nums s).drop s.size= [] by rw[<-nums_length,List.drop_length])
    cases ob with
    | false=>
       have HE:=Lib.hid (Fld.chkE_ok (HC.out.trans (HR.out.trans (by rw[HD.out];rfl))))
       go_wp2_with fail
       go_ret
       exact⟨ret_int HE.out.symm,rfl⟩
    | true=>
       have HE:=Lib.hid (Fld.chkE_no (HC.out.trans (HR.out.trans (by rw[HD.out];rfl))))
       go_wp2_with fail
       go_ret
       exact⟨ret_int HE.out.symm,rfl⟩
end
end Go.Proofs.YtokpabkcaofahaaGreat
