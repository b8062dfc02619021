/-
  What stands under factGrows_holds: part 12.
-/
import Derived.Test.YtokpabkcaofahaaGreatPg11
import Derived.ChangeAlike
import Derived.Test.YtokpabkcaofahaaGreatPg9
import Derived.Test.YtokpabkcaofahaaGreatPg8
import Derived.Test.YtokpabkcaofahaaGreatPg3
import Derived.Test.YtokpabkcaofahaaGreatPg10
import Derived.Test.YtokpabkcaofahaaGreatPg1
import Derived.Test.YtokpabkcaofahaaGreatPg4
import Derived.Deep.RegionLaw
import Derived.WalkSpells
import Derived.IntWalk
import Derived.WalkLawsBesides
import Derived.Laws.StructEq
import Derived.Test.YtokpabkcaofahaaGreatPg2
import Derived.Laws.MakeOwn
import Derived.WideKeyArr
import Derived.MapKept
namespace Go.Proofs.YtokpabkcaofahaaGreat
set_option linter.unusedSimpArgs false
set_option linter.unusedVariables false
set_option maxRecDepth 100000
set_option maxHeartbeats 20000000
section
open Go.RowKit Sha
open Fld (Itm)
theorem get_one (w0:World)(ga:Nat)(bs:List Int)(p:Option Addr)(n c:Nat)(hin:RIn w0 ga bs p n c)(hn:n<=1000000)(l:Int)(hl:Fld.isC l)(st:Nat×List Itm)(w:World)(h:RAt w0 ga bs p n c st w):
 Calls Tryz.prog 113 #[.pointer (some ⟨ga,0,none⟩),.int .i32 l] w (GDone w0 ga bs p n c l st w):=by
 obtain⟨at_,xs⟩:=st
 rcases hl with rfl | rfl | rfl | rfl
 ·exact get_n w0 ga bs p n c hin hn at_ xs w h
 ·exact get_b w0 ga bs p n c hin hn at_ xs w h
 ·exact get_d w0 ga bs p n c hin hn at_ xs w h
 ·exact get_o w0 ga bs p n c hin hn at_ xs w h
theorem RSt.keepA {w0 w:World} {ga:Nat} {bs:List Int} {p:Option Addr} {n c:Nat} {st:Nat×List Itm} {v:Value} {ys:List Hdr}(h:RSt w0 ga bs p n c st v ys w)(o:Obj):RSt w0 ga bs p n c st v ys (w.alloc o):=
 ⟨h.blk.old o,h.own.alloc o,h.items,fun y hy=>(h.good y hy).carry fun _ _ hb=>hb.old o,h.at_,h.few,h.below.alloc h.below.size o⟩
theorem RSt.keepI {w0 w:World} {ga:Nat} {bs:List Int} {p:Option Addr} {n c:Nat} {st:Nat×List Itm} {v:Value} {ys:List Hdr}(h:RSt w0 ga bs p n c st v ys w) {gi:Nat} {s:ByteArray} {k:Nat}(hg:w0.heap.size<=gi)(hi:w.heap[gi]? = some (.stringIter s k))(k':Nat):RSt w0 ga bs p n c st v ys (w.iterAt gi s k'):=by
 have hc:=cells_iterAt hi k'
 exact⟨hc.2 _ _ _ _ h.blk,own_carry h.own fun k c fz _ hh=>hc.2 _ _ _ _ hh,h.items,fun y hy=>(h.good y hy).carry fun _ _ hb=>hc.2 _ _ _ _ hb,h.at_,h.few,Lib.below_iterAt h.below hg s k'⟩
theorem rd_lim (bs:List Int)(hb:∀n∈bs,0<=n/\n<=255):0<=(Fld.rd 0 0 bs).2.1/\(Fld.rd 0 0 bs).2.1<=9223372036854775807:=by
 rcases Fld.rd_err bs 0 0 with h | ⟨_,h⟩
 ·obtain⟨m,h1,h2,_⟩:=Fld.rd_back0 bs (Fld.rd 0 0 bs).2.1 (Fld.rd 0 0 bs).2.2 hb (by rw[<-h])
  omega
 ·omega
theorem getS_lim (bs:List Int)(hb:∀n∈bs,0<=n/\n<=255)(c:Int)(st:Nat×List Itm):(Fld.getS bs c st).2.1<=9223372036854775807/\-9223372036854775808<=(Fld.getS bs c st).2.1:=by
 have h1:=rd_lim (bs.drop st.1) (fun n hn=>hb n (List.mem_of_mem_drop hn))
 have h2:0<=(Fld.rdTop (bs.drop st.1)).2.1/\(Fld.rdTop (bs.drop st.1)).2.1<=9223372036854775807:=by
  unfold Fld.rdTop;split
  ·simp
  ·exact h1
 unfold Fld.getS
 dsimp only
 repeat' split
 all_goals(dsimp only;omega)
theorem doer_r (w0:World)(ga:Nat)(bs:List Int)(p:Option Addr)(n c:Nat)(hin:RIn w0 ga bs p n c)(hn:n<=1000000):Doer Tryz.prog 113 ga w0.heap.size (Fld.getS bs) (RAt w0 ga bs p n c) where
 step l st w hl hR:=get_one w0 ga bs p n c hin hn l hl st w hR
 keepA st w o h:=by obtain⟨v,ys,h⟩:=h;exact⟨v,ys,h.keepA o⟩
 keepI st w gi s q q' h hg hi:=by obtain⟨v,ys,h⟩:=h;exact⟨v,ys,h.keepI hg hi q'⟩
 base st w h:=by obtain⟨v,ys,h⟩:=h;exact h.below.size
 lim l st w _:=getS_lim bs hin.bd l st
theorem told_of {w:World} {B:Nat} {v:Value} {ys:List Hdr} {l:List Itm}(ho:w.ownsRow B 83 34 v l.length (ys.flatMap cellsI))(hi:ys.map (·.1)=l)(hg:∀y∈ys,GoodR w y.1 y.2.1 y.2.2):∃q c',v= .slice q l.length c'/\Told w q l.length c' l:=by
 have hi:∀q,At w q (ys.flatMap cellsI)->ItemsAt w q l:=fun q hA=>⟨ys,hi,hA,fun y hy=>(hg y hy).good⟩
 rcases ho.2 with⟨hv,h0⟩ | ⟨g,cap,cur,hv,hg,hh,h1,h2,h3,h4⟩
 ·refine⟨none,0,by rw[hv,h0],rfl,by omega,by omega,fun _=>rfl,hi none (Or.inl ?_)⟩
  have:=ho.1
  rw[h0]at this
  exact List.eq_nil_of_length_eq_zero (by simpa using this)
 ·refine⟨_,cap,hv,rfl,h1,by unfold maxLen at h2;omega,(fun h=>by cases h),hi _ (Or.inr ⟨g,0,rfl,fun i u hu=>?_⟩)⟩
  have:=ho.cells (g:=g) (by rw[hv];rfl) i u hu
  rwa [Addr.add_mid]at this
theorem RSt.told {w0 w:World} {ga:Nat} {bs:List Int} {p:Option Addr} {n c:Nat} {st:Nat×List Itm} {v:Value} {ys:List Hdr}(h:RSt w0 ga bs p n c st v ys w):∃q c',v= .slice q st.2.length c'/\Told w q st.2.length c' st.2:=
 told_of h.own h.items h.good
structure ToldR (w:World)(p:Option Addr)(n c:Nat)(l:List Itm):Prop where
 told:Told w p n c l
 rows:∃ys:List Hdr,ys.map (·.1)=l/\At w p (ys.flatMap cellsI)/\∀y∈ys,GoodR w y.1 y.2.1 y.2.2
theorem ToldR.none_ (w:World):ToldR w none 0 0 []:=⟨Told.none_ w,[],rfl,At.nil _ _,by simp⟩
theorem told_ofR {w:World} {B:Nat} {v:Value} {ys:List Hdr} {l:List Itm}(ho:w.ownsRow B 83 34 v l.length (ys.flatMap cellsI))(hi:ys.map (·.1)=l)(hg:∀y∈ys,GoodR w y.1 y.2.1 y.2.2):∃q c',v= .slice q l.length c'/\ToldR w q l.length c' l:=by
 obtain⟨q,c',hv,ht⟩:=told_of ho hi hg
 refine⟨q,c',hv,ht,ys,hi,?_,hg⟩
 rcases ho.2 with⟨hv2,h0⟩ | ⟨g,cap,cur,hv2,hgg,hh,h1,h2,h3,h4⟩
 ·left
  have:=ho.1
  rw[h0]at this
  exact List.eq_nil_of_length_eq_zero (by simpa using this)
 ·rw[hv]at hv2
  simp only[Value.slice.injEq]at hv2
  refine Or.inr ⟨g,0,hv2.1,fun i u hu=>?_⟩
  have:=ho.cells (g:=g) (by rw[hv,hv2.1];rfl) i u hu
  rwa [Addr.add_mid]at this
theorem if_ne:(83:TypeId)≠64:=by decide
theorem uf_ne:(5:TypeId)≠64:=by decide
theorem RSt.toldFR {w0 w:World} {ga gf:Nat} {bs:List Int} {p:Option Addr} {n c:Nat} {at_:Nat} {l:List Itm} {q:Option Addr} {c':Nat} {ys:List Hdr} {cs:List Value}(h:RSt w0 ga bs p n c (at_,l) (.slice q l.length c') ys w)(hk:Blk w gf cs 64)(u0 u1:Value):
 ToldR ((w.setCell ⟨gf,0,none⟩ u0).setCell ⟨gf,1,none⟩ u1) q l.length c' l:=by
 obtain⟨q2,c2,hv,ht⟩:=told_ofR (own_set (own_set h.own hk if_ne 0 u0) (hk.set 0 u0) if_ne 1 u1) h.items (fun y hy=>(h.good y hy).carry fun g cs hb=>(hb.setOther _ _ (blk_ne hb hk uf_ne)).setOther _ _ (blk_ne hb hk uf_ne))
 simp only[Value.slice.injEq]at hv
 obtain⟨rfl,_,rfl⟩:=hv
 exact ht
def GetDoneR (w0:World)(r:List Itm×Int×Nat)(e:Ending)(w:World):Prop:=
 ∃q n c,e= .returned (.tuple #[.slice q n c,.agg #[.int .i64 r.2.1,.int .i64 (r.2.2:Int)]])/\ToldR w q n c r.1/\Below w0.heap.size w0 w
def GetDone (w0:World)(r:List Itm×Int×Nat)(e:Ending)(w:World):Prop:=
 ∃q n c,e= .returned (.tuple #[.slice q n c,.agg #[.int .i64 r.2.1,.int .i64 (r.2.2:Int)]])/\Told w q n c r.1/\Below w0.heap.size w0 w
theorem get_bad {s b:List Int}(h:Fld.chk s=false):Fld.get s b=([],2,0):=by simp[Fld.get,h]
theorem get_walked {s b:List Int}(h:Fld.chk s=true) {st:Nat×List Itm} {e:Int}(hw:Fld.walkL (Fld.getS b) none 0 s (0,[])=(st,e)):
 Fld.get s b=if e=0 then(if st.1 < b.length then([],4,st.1)else(st.2,0,0))else([],e,st.1):=by simp[Fld.get,h,hw]
theorem getF_bad (s:ByteArray)(hs:s.size<=maxLen)(b:List Int)(p:Option Addr)(n c:Nat)(w:World)(hc:Fld.chk (nums s)=false):
 Calls Tryz.prog 76 #[.string s,.slice p n c] w (GetDoneR w (Fld.get (nums s) b)):=by
 have HP:=Lib.hid (get_bad (b:=b) hc)
 have HE:=Lib.hid (Fld.chkE_no hc)
 clear hc
 go_enter Tryz.func76,Tryz.ntmps76
 go_wp2_with (go_at_call 82;refine(check_any s _ hs).mono ?_;rw[HE.out];rintro e w1 ⟨rfl,hb1⟩;have kf:=Blk.new w #[Value.int IntKind.i64 0,Value.int IntKind.i64 0] 64;have hbw:=((Below.refl w.heap.size w).alloc (Nat.le_refl _) (Obj.cells #[Value.int IntKind.i64 0,Value.int IntKind.i64 0] 64)).trans (hb1.mono (by simp));have kf1:=kf.below hb1 kf.lt;clear kf hb1;generalize hgfe:w.heap.size=gf at *;have HGF:=Lib.hid hgfe.symm;clear hgfe;have c0:w1.cell? ⟨gf,0,none⟩=some (.int .i64 0):=kf1.cell 0;have c1:w1.cell? ⟨gf,1,none⟩=some (.int .i64 0):=kf1.cell 1;have f0:=kf1.free 0;have f1:=kf1.free 1;have KF1:=Lib.hid kf1;have HBW:=Lib.hid (show Below w.heap.size w w1 by rw[<-HGF.out];exact hbw);clear kf1 hbw)
 refine bodyPost_ret (v:=.tuple #[.slice none 0 0,.agg #[.int .i64 2,.int .i64 0]]) (by simp[results,Tryz.results76,go_sem,c0,c1]) rfl ⟨none,0,0,by rw[HP.out];rfl,by rw[HP.out];exact ToldR.none_ _,(HBW.out.setCell ?_ _).setCell ?_ _⟩
 ·exact Nat.le_of_eq HGF.out.symm
 ·exact Nat.le_of_eq HGF.out.symm
theorem getF_anyR (s:ByteArray)(hs:s.size<=maxLen)(b:List Int)(p:Option Addr)(n c:Nat)(w:World)(hn:b.length=n)(hb:∀x∈b,0<=x/\x<=255)(hA:At w p (b.map v8))(hle:n<=c)(hm:c<=9223372036854775807)(hp:p=none->c=0)(hsm:n<=1000000):
 Calls Tryz.prog 76 #[.string s,.slice p n c] w (GetDoneR w (Fld.get (nums s) b)):=by
 by_cases hc:Fld.chk (nums s)=true
 ·have HE:=Lib.hid (Fld.chkE_ok hc)
  have HC:=Lib.hid (chk_len hc)
  have hsl:s.size<=40:=by have:=HC.out.1;rwa [nums_length]at this
  obtain⟨⟨st,er⟩,hr⟩:∃r,r=Fld.walkL (Fld.getS b) none 0 (nums s) (0,[]):=⟨_,rfl⟩
  have HP:=Lib.hid (get_walked hc hr.symm)
  have HR:=Lib.hid hr
  have HA:=Lib.hid hA
  have HN:=Lib.hid hn
  have HB:=Lib.hid hb
  have HPN:=Lib.hid hp
  clear hc hr hA hn hb hp
  go_enter Tryz.func76,Tryz.ntmps76
  go_wp2_with (go_at_call 82;refine(check_any s _ hs).mono ?_;rw[HE.out];rintro e w1 ⟨rfl,hb1⟩;have kf:=Blk.new w #[Value.int IntKind.i64 0,Value.int IntKind.i64 0] 64;have hbw:=((Below.refl w.heap.size w).alloc (Nat.le_refl _) (Obj.cells #[Value.int IntKind.i64 0,Value.int IntKind.i64 0] 64)).trans (hb1.mono (by simp));have kf1:=kf.below hb1 kf.lt;clear kf hb1;generalize hgfe:w.heap.size=gf at *;have HGF:=Lib.hid hgfe.symm;clear hgfe;have c0:w1.cell? ⟨gf,0,none⟩=some (.int .i64 0):=kf1.cell 0;have c1:w1.cell? ⟨gf,1,none⟩=some (.int .i64 0):=kf1.cell 1;have f0:=kf1.free 0;have f1:=kf1.free 1;have KF1:=Lib.hid kf1;have HBW:=Lib.hid (show Below w.heap.size w w1 by rw[<-HGF.out];exact hbw);clear kf1 hbw)
  have hin:RIn w1 w1.heap.size b p n c:=⟨HN.out,HB.out,HA.out.below HBW.out,Nat.le_refl _,hle,hm,HPN.out⟩
  have hst:RAt w1 w1.heap.size b p n c (0,[]) (w1.alloc (Obj.cells #[Value.slice p n c,Value.int IntKind.i64 0,Value.slice none 0 0] 160)):=
   ⟨.slice none 0 0,[],by simpa using Blk.new w1 #[Value.slice p n c,Value.int IntKind.i64 0,Value.slice none 0 0] 160,World.ownsRow_nil _ _ _ _,rfl,by simp,by simp,by simp,(Below.refl _ _).alloc (Nat.le_refl _) _⟩
  refine(walk_r (doer_r w1 w1.heap.size b p n c hin hsm) s hsl HC.out.2 (0,[]) _ hst).mono ?_
  rw[<-HR.out]
  rintro e w2 ⟨rfl,hs2,_⟩
  clear hst hin
  have hgf:gf < w1.heap.size:=KF1.out.lt
  generalize hgae:w1.heap.size=ga at *
  have HGA:=Lib.hid hgae
  clear hgae
  obtain⟨at_,l2⟩:=st
  obtain⟨v2,ys,hs2⟩:=hs2
  have a1:w2.cell? ⟨ga,1,none⟩=some (.int .i64 at_):=hs2.blk.cell 1
  have a2:w2.cell? ⟨ga,2,none⟩=some v2:=hs2.blk.cell 2
  have hbb:=hs2.below
  have k2:=KF1.out.below hbb (by rw[HGA.out];exact hgf)
  have c0':w2.cell? ⟨gf,0,none⟩=some (.int .i64 0):=k2.cell 0
  have c1':w2.cell? ⟨gf,1,none⟩=some (.int .i64 0):=k2.cell 1
  have f0':=k2.free 0
  have f1':=k2.free 1
  have HS2:=Lib.hid hs2
  have HK2:=Lib.hid k2
  have hgf2:w.heap.size<=gf:=Nat.le_of_eq HGF.out.symm
  have HBB:=Lib.hid (HBW.out.trans (hbb.mono (show w.heap.size<=w1.heap.size by rw[HGA.out,<-HGF.out];omega)))
  have han:=HS2.out.at_
  obtain⟨q2,c2,rfl,htold⟩:=hs2.told
  have HT:=Lib.hid htold
  clear hs2 hbb k2 htold c0 c1 f0 f1
  simp only at han a2 ⊢
  by_cases he:er=0
  ·subst he
   by_cases hlt:at_ < n
   ·have HP2:=Lib.hid (HP.out.trans (by simp[HN.out,hlt]:_=(([]:List Itm),(4:Int),at_)))
    go_wp2_with fail
    go_region
    all_goals
     go_wp2_with fail
     refine bodyPost_ret (v:=.tuple #[.slice none 0 0,.agg #[.int .i64 4,.int .i64 (at_:Int)]]) (by simp[results,Tryz.results76,go_sem,c0',c1']) rfl ⟨none,0,0,by rw[HP2.out],by rw[HP2.out];exact ToldR.none_ _,?_⟩
     first
      | exact(HBB.out.drew.setCell (p:=⟨gf,0,none⟩) hgf2 _).setCell (p:=⟨gf,1,none⟩) hgf2 _
      | exact((HBB.out.setCell (p:=⟨gf,0,none⟩) hgf2 _).setCell (p:=⟨gf,1,none⟩) hgf2 _).drew
   ·have HP2:=Lib.hid (HP.out.trans (by simp[HN.out,hlt]:_=(l2,(0:Int),0)))
    go_wp2_with fail
    refine bodyPost_ret (v:=.tuple #[.slice q2 l2.length c2,.agg #[.int .i64 0,.int .i64 0]]) (by simp[results,Tryz.results76,go_sem,c0',c1']) rfl ⟨q2,l2.length,c2,by rw[HP2.out];rfl,by rw[HP2.out];exact HS2.out.toldFR HK2.out _ _,?_⟩
    exact(HBB.out.setCell (p:=⟨gf,0,none⟩) hgf2 _).setCell (p:=⟨gf,1,none⟩) hgf2 _
  ·have he':(er == 0)=false:=by simpa using he
   have HP2:=Lib.hid (HP.out.trans (by simp[he]:_=(([]:List Itm),er,at_)))
   clear he
   go_wp2_with fail
   go_region
   all_goals
    go_wp2_with fail
    refine bodyPost_ret (v:=.tuple #[.slice none 0 0,.agg #[.int .i64 er,.int .i64 (at_:Int)]]) (by simp[results,Tryz.results76,go_sem,c0',c1']) rfl ⟨none,0,0,by rw[HP2.out],by rw[HP2.out];exact ToldR.none_ _,?_⟩
    first
     | exact(HBB.out.drew.setCell (p:=⟨gf,0,none⟩) hgf2 _).setCell (p:=⟨gf,1,none⟩) hgf2 _
     | exact((HBB.out.setCell (p:=⟨gf,0,none⟩) hgf2 _).setCell (p:=⟨gf,1,none⟩) hgf2 _).drew
 ·exact getF_bad s hs b p n c w (by simpa using hc)
theorem getF_any (s:ByteArray)(hs:s.size<=maxLen)(b:List Int)(p:Option Addr)(n c:Nat)(w:World)(hn:b.length=n)(hb:∀x∈b,0<=x/\x<=255)(hA:At w p (b.map v8))(hle:n<=c)(hm:c<=9223372036854775807)(hp:p=none->c=0)(hsm:n<=1000000):
 Calls Tryz.prog 76 #[.string s,.slice p n c] w (GetDone w (Fld.get (nums s) b)):=
 (getF_anyR s hs b p n c w hn hb hA hle hm hp hsm).mono fun e w' ⟨q,n',c',he,ht,hb'⟩=>⟨q,n',c',he,ht.told,hb'⟩
end
section
open Go.RowKit Sha Fct
open Fld (Itm)
theorem itemsH_few (x:Fac)(q:Option Addr)(c:Nat):(itemsH x q c).length<=4:=by
 unfold itemsH
 (repeat' split)<;>simp
theorem row_weak9 {w:World} {B B' n size:Nat} {e:TypeId} {v:Value} {xs:List Value}(h:w.ownsRow B e size v n xs)(hb:B'<=B):w.ownsRow B' e size v n xs:=by
 refine⟨h.1,?_⟩
 rcases h.2 with h | ⟨g,cap,cur,hv,hg,hh⟩
 ·exact Or.inl h
 ·exact Or.inr ⟨g,cap,cur,hv,Nat.le_trans hb hg,hh⟩
theorem item_zsize:(Value.agg (icells ⟨0,[],Fld.zero32⟩ none 0).toArray).cells.size=34:=by
 have h:=icells_length (x:=⟨0,[],Fld.zero32⟩) ⟨by simp,by simp,by simp,z32_ok.1,z32_ok.2⟩ none 0
 simp[Value.cells,h]
theorem own_full_s (w:World)(cs:Array Value)(e:TypeId)(size B:Nat)(hB:B<=w.heap.size)(hs:cs.size=size):(w.alloc (.cells cs e)).ownsRow B e size (.slice (some ⟨w.heap.size,0,none⟩) 1 1) 1 cs.toList:=by
 refine⟨by simp[hs],.inr ⟨w.heap.size,1,cs,rfl,hB,heap_alloc_new w _,Nat.le_refl _,by unfold maxLen;omega,by omega,?_⟩⟩
 rw[List.take_of_length_le (by simp[hs])]
theorem row_below_s {w w':World} {B n size:Nat} {e:TypeId} {v:Value} {xs:List Value}(h:w.ownsRow B e size v n xs)(hb:Below w.heap.size w w'):w'.ownsRow B e size v n xs:=
 row_carry h fun k c fz _ hh=>(hb.block k (Array.getElem?_eq_some_iff.1 hh).1).trans hh
theorem told_cons {w:World} {B:Nat} {v:Value} {y:Hdr} {ys:List Hdr} {n:Nat}(h:w.ownsRow B 83 34 v (1+n) (cellsI y++ys.flatMap cellsI))(hn:n=ys.length)(hy:∀z∈y::ys,GoodI w z.1 z.2.1 z.2.2):
 ∃p c,v= .slice p (1+n) c/\Told w p (1+n) c (y.1::ys.map (·.1)):=by
 obtain⟨p,cap,rfl,h1,h2,hA,_,h3⟩:=own_at_s h
 unfold maxLen at h2
 exact⟨p,cap,rfl,⟨by simp[hn];omega,h1,by omega,h3,⟨y::ys,rfl,by simpa using hA,hy⟩⟩⟩
@[irreducible] def catOp (x y:Operand) (u v:Value):Sem Next:=do pure (.value (<-(do eqGuard .add 9 x y u v;binOp .add 9 u v)))
theorem execOp_cat (ρ:Operand->Value)(dst:Option Tmp)(x y:Operand)(r:TypeId)(ty:TypeId)(pos:String)(after:Array Edge)(guard:Option (Nat×Bool)):
 execOp ρ {dst:=dst,op:=.binOp .add 9 x y r,type:=ty,pos:=pos,after:=after,guard:=guard}= catOp x y (ρ x) (ρ y):=by unfold catOp;rfl
theorem run_cat9 (x y:Operand)(s t:ByteArray)(hs:s.size+t.size<=1000000)(w:World):(catOp x y (.string s) (.string t)).run Tryz.prog w= .ok (.value (.string (s++t))) w:=by
 have h:¬(((s.size+t.size:Nat):Int) > IntKind.i64.max):=by have h1:IntKind.i64.max=9223372036854775807:=rfl;rw[h1];omega
 unfold catOp
 simp only[binOp]
 simp only[eqGuard,Op.stringOp,run_underlying Tryz.underlying9,h]
 simp
theorem nums_cat (s t:ByteArray):nums (s++t)=nums s++nums t:=by
 unfold nums
 simp
attribute [local go_sem ↓] execOp_cat execOp_allocFact execOp_storeFact execOp_boxFact execOp_makeFact execOp_loadFact execOp_loadId execOp_loadItem execOp_buildItems execOp_makeItem execOp_loadBal
end
section
open Go.RowKit Sha Fct
open Fld (Itm)
theorem execOp_boxForm (ρ:Operand->Value)(dst:Option Tmp)(x:Operand)(ty:TypeId)(pos:String)(after:Array Edge)(guard:Option (Nat×Bool)):
 execOp ρ {dst:=dst,op:=.box 79 x,type:=ty,pos:=pos,after:=after,guard:=guard}= boxOp 79 (ρ x):=by unfold boxOp;rfl
theorem has_next (t:ByteArray)(l:List Int)(hl:nums t=l)(j:Nat)(hj:j < t.size)(h128:∀c∈l,c < 128):∃c,NextL Tryz.prog t j (j+1) c/\l[j]? = some c:=by
 obtain⟨c,hn,hd⟩:=next_isL Tryz.prog t j hj (by rw[hl];exact h128)
 refine⟨c,hn,?_⟩
 rw[hl]at hd
 rw[<-List.head?_drop,hd];rfl
theorem hasL_128 (k:Int):∀c∈hasL k,c < 128:=fun c hc=>by have:=hasL_is k c hc;unfold isHas at this;omega
theorem rowOwn_told {w:World} {B:Nat} {v:Value} {ys:List Hdr} {n:Nat}(h:w.ownsRow B 83 34 v n (ys.flatMap cellsI))(hn:n=ys.length)(hy:∀z∈ys,GoodI w z.1 z.2.1 z.2.2):
 ∃p c,v= .slice p n c/\At w p (ys.flatMap cellsI)/\Told w p n c (ys.map (·.1)):=by
 obtain⟨p,cap,rfl,h1,h2,hA,_,h3⟩:=own_at_s h
 unfold maxLen at h2
 exact⟨p,cap,rfl,hA,⟨by simp[hn],h1,by omega,h3,⟨ys,rfl,hA,hy⟩⟩⟩
def PItems (ys:List Hdr)(w:World)(e:Ending)(w':World):Prop:=
 ∃p n cp,e= .returned (.slice p n cp)/\n=ys.length/\At w' p (ys.flatMap cellsI)/\Told w' p n cp (ys.map (·.1))/\Below w.heap.size w w'
attribute [local go_sem ↓] execOp_boxFact execOp_boxForm execOp_loadFact execOp_buildItems
theorem pitems_any (k:Int)(x:Fac)(q:Option Addr)(c:Nat)(w:World)(h:sF.Good w x q c):
 Calls Tryz.prog 44 #[form k,.agg (fcells x q c).toArray] w (PItems ((hasL k).map (hdrOf x q c)) w):=by
 have hsz:=kHas_size k
 have hnm:=kHas_nums k
 have HIS:=Lib.hid (hasL_is k)
 have H128:=Lib.hid (hasL_128 k)
 show Calls Tryz.prog 44 #[.agg #[.string (kSh k),.string (kHas k)],.agg (fcells x q c).toArray] w _
 generalize kSh k=s at *
 generalize kHas k=t at *
 generalize hasL k=l at *
 have HL:=Lib.hid (show l.length=t.size by rw[<-hnm,nums_length])
 have HNM:=Lib.hid hnm
 clear hnm
 have bx1:=run_boxOp (P:=Tryz.prog) (t:=79) (cs:=#[.string s,.string t]) w
 have hb1:=(Below.refl w.heap.size w).alloc (Nat.le_refl _) (.cells #[.string s,.string t] 79)
 have hk1:Blk (w.alloc (.cells #[.string s,.string t] 79)) w.heap.size [.string s,.string t] 79:=Blk.new w #[.string s,.string t] 79
 obtain⟨w1,hw1⟩:∃v,v=w.alloc (.cells #[.string s,.string t] 79):=⟨_,rfl⟩
 rw[<-hw1]at bx1 hb1 hk1
 have bx2:=run_boxOp (P:=Tryz.prog) (t:=28) (cs:=(fcells x q c).toArray) w1
 have hb2:=hb1.alloc hb1.size (.cells (fcells x q c).toArray 28)
 have hk2:Blk (w1.alloc (.cells (fcells x q c).toArray 28)) w1.heap.size (fcells x q c) 28:=Blk.new w1 (fcells x q c).toArray 28
 have hk12:=hk1.old (.cells (fcells x q c).toArray 28)
 obtain⟨w2,hw2⟩:∃v,v=w1.alloc (.cells (fcells x q c).toArray 28):=⟨_,rfl⟩
 rw[<-hw2]at bx2 hb2 hk2 hk12
 obtain⟨i0,hi,hz0,hz1,hz2⟩:=info_parts item_all3
 obtain⟨w3,hmk,hown,hgr⟩:=run_make_own (P:=Tryz.prog) (w:=w2) w.heap.size 81 83 i0 _ 34 Tryz.underlying81 hi hz0 hz1 .i64 .i64 t.size (by rw[hz2];omega) (by unfold maxLen;omega) hb2.size
 have hb3:Below w.heap.size w w3:=hb2.grown hgr hb2.size (fun k e=>by cases e)
 have hb23:Below w2.heap.size w2 w3:=(Below.refl _ _).grown hgr (Nat.le_refl _) (fun k e=>by cases e)
 have c1:w2.cell? ⟨w.heap.size,1,none⟩=some (.string t):=hk12.cell 1
 have c1':w3.cell? ⟨w.heap.size,1,none⟩=some (.string t):=(hk12.below hb23 hk12.lt).cell 1
 have K3:=Lib.hid (hk2.below hb23 hk2.lt)
 have HO:=Lib.hid hown
 have HB3:=Lib.hid hb3
 have HX:=Lib.hid h
 obtain⟨gf,hgf⟩:∃gf,gf=w1.heap.size:=⟨_,rfl⟩
 rw[<-hgf]at bx2 K3
 have HGF:=Lib.hid (show w.heap.size<=gf/\gf < w3.heap.size from⟨by rw[hgf];exact hb1.size,K3.out.lt⟩)
 clear hb1 hk1 hw1 hb2 hk2 hk12 hw2 hi hz0 hz1 hz2 hown hgr hb3 hb23 h hgf
 go_enter Tryz.func44,Tryz.ntmps44
 go_wp2_with fail
 have HI0:=Lib.hid (World.iter_heap w3 t 0)
 have hal:(w3.iter t 0)=w3.alloc (.stringIter t 0):=rfl
 have K4:=Lib.hid (show Blk (w3.iter t 0) gf (fcells x q c) 28 from by rw[hal];exact K3.out.old _)
 have HO4:=Lib.hid (show(w3.iter t 0).ownsRow w.heap.size 83 34 (.slice (some ⟨w2.heap.size,0,none⟩) 0 t.size) 0 []from by rw[hal];exact HO.out.alloc _)
 have HB4:=Lib.hid (show Below w.heap.size w (w3.iter t 0)from by rw[hal];exact HB3.out.alloc HB3.out.size _)
 obtain⟨gi,hgi⟩:∃gi,gi=w3.heap.size:=⟨_,rfl⟩
 rw[<-hgi]at HI0 ⊢
 have HG:=Lib.hid (show w.heap.size<=gi by rw[hgi];exact HB3.out.size)
 clear hal hgi HB3 HO K3 HGF
 generalize w3.iter t 0=w4 at *
 go_loopg [5] t.size (fun gh vv wr=>∃(j:Nat) (v:Value),v=vv/\j<=t.size/\gh=t.size - j/\Hid (wr.heap[gi]? = some (.stringIter t j))/\Hid (Blk wr gf (fcells x q c) 28)/\Hid (wr.ownsRow w.heap.size 83 34 v j (((l.take j).map (hdrOf x q c)).flatMap cellsI))/\Hid (Below w.heap.size w wr))
 case atStart=>exact⟨0,_,rfl,by omega,rfl,HI0,K4,HO4,HB4⟩
 case round=>
  obtain⟨j,v,rfl,hj,rfl,HI,K,HO,HB⟩:=hrel
  clear HI0 K4 HO4 HB4
  by_cases hp:j < t.size
  ·obtain⟨ch,hn,hch⟩:=has_next t l HNM.out j hp H128.out
   have hnx:=fun ty=>hn.run wr gi ty HI.out
   have hcm:ch∈l:=List.mem_of_getElem? hch
   have HC:=Lib.hid (HIS.out ch hcm)
   have HTK:=Lib.hid (show(l.take (j+1)).map (hdrOf x q c)=(l.take j).map (hdrOf x q c)++[hdrOf x q c ch]from by
    rw[List.take_add_one,hch];simp)
   have HI2:=Lib.hid (Lib.iterAt_heap _ _ _ _ (j+1) HI.out)
   have hck:=cells_iterAt HI.out (j+1)
   have K2:=Lib.hid (show Blk (wr.iterAt gi t (j+1)) gf (fcells x q c) 28 from hck.2 _ _ _ _ K.out)
   have HO2:=Lib.hid (row_carry HO.out (fun k c fz _ hk=>hck.2 _ _ _ _ hk))
   have HB2:=Lib.hid (show Below w.heap.size w (wr.iterAt gi t (j+1))from Lib.below_iterAt HB.out HG.out t (j+1))
   clear hn hch hcm hck HI K HO HB
   obtain⟨w5,hw5⟩:∃w5,w5=wr.iterAt gi t (j+1):=⟨_,rfl⟩
   rw[<-hw5]at hnx HI2 K2 HO2 HB2
   clear hw5
   have lf:=load_factB K2.out HX.out.ok.len
   have HX5:=Lib.hid (HX.out.below HB2.out)
   have IO:=Lib.hid (itemOf_any x q c ch HC.out w5 HX5.out)
   have HY:=Lib.hid (fun w' (hb:Below w5.heap.size w5 w')=>hdrOf_good (HX5.out.below hb) ch)
   obtain⟨y,hy⟩:∃y,y=hdrOf x q c ch:=⟨_,rfl⟩
   rw[<-hy]at IO HTK HY
   clear hy
   obtain⟨yi,yq,yc⟩:=y
   have IO2:=Lib.hid (show Calls Tryz.prog 85 #[.agg (fcells x q c).toArray,.int .i32 ch] w5 (fun e w'=>e= .returned (.agg (icells yi yq yc).toArray)/\Below w5.heap.size w5 w')from IO.out)
   clear IO
   go_wp2_with fail
   refine IO2.out.mono ?_
   rintro e w6 ⟨rfl,hb6⟩
   have HB6:=Lib.hid hb6
   have yok:=(HY.out w6 hb6).ok
   have bi:=build_item w6 (q:=yq) (c:=yc) yok
   have HYO:=Lib.hid yok
   have K6:=Lib.hid ((K2.out.below hb6 K2.out.lt).old (.cells (icells yi yq yc).toArray 83))
   have HO6:=Lib.hid ((row_below_s HO2.out hb6).alloc (.cells (icells yi yq yc).toArray 83))
   have HB7:=Lib.hid ((HB2.out.trans (hb6.mono HB2.out.size)).alloc (HB2.out.trans (hb6.mono HB2.out.size)).size (.cells (icells yi yq yc).toArray 83))
   have HI6:=Lib.hid (show(w6.alloc (.cells (icells yi yq yc).toArray 83)).heap[gi]? = some (.stringIter t (j+1))from by
    have h1:gi < w5.heap.size:=(Array.getElem?_eq_some_iff.1 HI2.out).1
    rw[heap_alloc_old w6 _ (Nat.lt_of_lt_of_le h1 hb6.size),hb6.block gi h1];exact HI2.out)
   have HA6:=Lib.hid (at_cells w6 (icells yi yq yc) 83 (0,0))
   have HL6:=Lib.hid (icells_length yok yq yc)
   clear hb6 yok lf IO2 HI2 K2 HO2 HB2 HX5 HY
   go_wp2_with (at_builtin;refine wpList_app_s rfl (.tmp 18) (.tmp 22) 81 rfl w.heap.size 83 (size:=34) (by omega) Tryz.underlying81 item_all3 item_zsize v j _ rfl HO6.out (some ⟨w6.heap.size,0,none⟩) 1 1 (icells yi yq yc) rfl HA6.out (by rw[HL6.out]) (fun h=>by cases h) (Nat.le_refl _) (icells_one _ _ _) (by omega) (by unfold maxLen;omega) HB7.out.size ?_;intro v8' w8 hown8 hgr8 hat8)
   have HK8:=Lib.hid (show Blk w8 gf (fcells x q c) 28 from(hgr8.block gf K6.out.lt (fun e=>by
    obtain⟨cc,fz,hh⟩:=row_kind HO6.out gf e.symm
    have h2:=K6.out
    unfold Blk at h2
    rw[hh]at h2;cases h2)).trans K6.out)
   have HI8:=Lib.hid (show w8.heap[gi]? = some (.stringIter t (j+1))from(hgr8.block gi (Array.getElem?_eq_some_iff.1 HI6.out).1 (fun e=>by
    obtain⟨cc,fz,hh⟩:=row_kind HO6.out gi e.symm
    rw[HI6.out]at hh;cases hh)).trans HI6.out)
   have HB8:=Lib.hid (HB7.out.grown hgr8 HB7.out.size (fun k e=>row_base HO6.out k e))
   have HO8:=Lib.hid (show w8.ownsRow w.heap.size 83 34 v8' (j+1) (((l.take (j+1)).map (hdrOf x q c)).flatMap cellsI)from by
    rw[HTK.out,List.flatMap_append,List.flatMap_singleton];exact hown8)
   clear hown8 hgr8 hat8 K6 HI6 HB7 HO6 HA6 HL6 HTK
   go_wp2_with fail
   go_roundg (t.size - (j+1))
   case measure=>omega
   case rel=>exact⟨j+1,_,rfl,by omega,rfl,HI8,HK8,HO8,HB8⟩
  ·obtain rfl:j=t.size:=by omega
   have hnx:=fun ty=>Lib.run_next_end_at (P:=Tryz.prog) wr gi t t.size ty HI.out (by omega)
   have HTL:=Lib.hid (show l.take t.size=l from List.take_of_length_le (by rw[HL.out];exact Nat.le_refl _))
   obtain⟨p,cp,rfl,hA,hT⟩:=rowOwn_told (ys:=(l.take t.size).map (hdrOf x q c)) HO.out (by rw[List.length_map,HTL.out,HL.out]) (fun z hz=>by
    obtain⟨lt,_,rfl⟩:=List.mem_map.1 hz
    exact hdrOf_good (HX.out.below HB.out) lt)
   rw[HTL.out]at hA hT
   have HA:=Lib.hid hA
   have HT:=Lib.hid hT
   clear hA hT HO HI K
   go_wp2_with fail
   go_ret
   exact⟨p,t.size,cp,rfl,by rw[List.length_map,HL.out],HA.out,HT.out,HB.out⟩
end
section
open Go.RowKit Sha Fct
open Fld (Itm)
def bndL:List Int->List Itm->Bool
 | a::s,y::ys=>inB a y && bndL s ys
 | _,_=>true
theorem bndL_at {l:List Int} {ys:List Itm}(j:Nat)(hj:j < l.length)(hy:j < ys.length):bndL (l.drop j) (ys.drop j)=(inB l[j] ys[j] && bndL (l.drop (j+1)) (ys.drop (j+1))):=by
 rw[List.drop_eq_getElem_cons hj,List.drop_eq_getElem_cons hy];rfl
attribute [local go_sem ↓] execOp_boxForm execOp_loadItem
theorem pbounded_any (k:Int)(ys:List Itm)(p:Option Addr)(n cp:Nat)(w:World)(h:Told w p n cp ys)(hn:n=(hasL k).length):
 Calls Tryz.prog 77 #[form k,.slice p n cp] w fun e w'=>e= .returned (.bool (bndL (hasL k) ys))/\Below w.heap.size w w':=by
 have hsz:=kHas_size k
 have hnm:=kHas_nums k
 have HIS:=Lib.hid (hasL_is k)
 have H128:=Lib.hid (hasL_128 k)
 show Calls Tryz.prog 77 #[.agg #[.string (kSh k),.string (kHas k)],.slice p n cp] w _
 generalize kSh k=s at *
 generalize kHas k=t at *
 generalize hasL k=l at *
 have HL:=Lib.hid (show l.length=t.size by rw[<-hnm,nums_length])
 obtain rfl:n=t.size:=by rw[hn,HL.out]
 have HNM:=Lib.hid hnm
 have HYL:=Lib.hid (show ys.length=t.size from h.len.symm)
 clear hnm hn
 have bx1:=run_boxOp (P:=Tryz.prog) (t:=79) (cs:=#[.string s,.string t]) w
 have hb1:=(Below.refl w.heap.size w).alloc (Nat.le_refl _) (.cells #[.string s,.string t] 79)
 have hk1:Blk (w.alloc (.cells #[.string s,.string t] 79)) w.heap.size [.string s,.string t] 79:=Blk.new w #[.string s,.string t] 79
 obtain⟨w1,hw1⟩:∃v,v=w.alloc (.cells #[.string s,.string t] 79):=⟨_,rfl⟩
 rw[<-hw1]at bx1 hb1 hk1
 have c1:w1.cell? ⟨w.heap.size,1,none⟩=some (.string t):=hk1.cell 1
 have HB1:=Lib.hid hb1
 have HT:=Lib.hid h
 clear hw1 hk1 hb1 h
 go_enter Tryz.func77,Tryz.ntmps77
 go_wp2_with fail
 have HI0:=Lib.hid (World.iter_heap w1 t 0)
 have hal:(w1.iter t 0)=w1.alloc (.stringIter t 0):=rfl
 have HB2:=Lib.hid (show Below w.heap.size w (w1.iter t 0)from by rw[hal];exact HB1.out.alloc HB1.out.size _)
 obtain⟨gi,hgi⟩:∃gi,gi=w1.heap.size:=⟨_,rfl⟩
 rw[<-hgi]at HI0 ⊢
 have HG:=Lib.hid (show w.heap.size<=gi by rw[hgi];exact HB1.out.size)
 have HA0:=Lib.hid (show bndL l ys=bndL (l.drop 0) (ys.drop 0)from rfl)
 clear hal hgi HB1
 generalize w1.iter t 0=w2 at *
 go_loopg [5] t.size (fun gh vv wr=>∃(j:Nat) (v:Value),v=vv/\j<=t.size/\gh=t.size - j/\Hid (wr.heap[gi]? = some (.stringIter t j))/\Hid (bndL l ys=bndL (l.drop j) (ys.drop j))/\Hid (Below w.heap.size w wr))
 case atStart=>exact⟨0,_,rfl,by omega,rfl,HI0,HA0,HB2⟩
 case round=>
  obtain⟨j,v,rfl,hj,rfl,HI,HA,HB⟩:=hrel
  clear HI0 HA0 HB2
  by_cases hp:j < t.size
  ·obtain⟨ch,hn,hch⟩:=has_next t l HNM.out j hp H128.out
   have hnx:=fun ty=>hn.run wr gi ty HI.out
   have HC:=Lib.hid (HIS.out ch (List.mem_of_getElem? hch))
   have hjy:j < ys.length:=by rw[HYL.out];exact hp
   have hjl:j < l.length:=by rw[HL.out];exact hp
   obtain⟨b,off,rfl,hit⟩:=items_at HT.out (by rw[HYL.out];omega)
   obtain⟨q,d,hI⟩:=hit j hjy
   have HST:=Lib.hid (show bndL l ys=(inB ch ys[j] && bndL (l.drop (j+1)) (ys.drop (j+1)))from by
    rw[HA.out,bndL_at j hjl hjy]
    have:l[j] = ch:=Option.some.inj ((List.getElem?_eq_getElem hjl).symm.trans hch)
    rw[this])
   have HI2:=Lib.hid (Lib.iterAt_heap _ _ _ _ (j+1) HI.out)
   have HB2:=Lib.hid (show Below w.heap.size w (wr.iterAt gi t (j+1))from Lib.below_iterAt HB.out HG.out t (j+1))
   clear hn hch HI HB HA hit
   obtain⟨w5,hw5⟩:∃w5,w5=wr.iterAt gi t (j+1):=⟨_,rfl⟩
   rw[<-hw5]at hnx HI2 HB2
   clear hw5
   have ld:(loadOp 83 (.pointer (some ⟨b,off+j*34,none⟩))).run Tryz.prog w5= .ok (.value (.agg (icells ys[j] q d).toArray)) w5:=load_at (hI.on HB2.out).g.ok (hI.on HB2.out).r
   generalize hyj:ys[j] = y at *
   have WI:=Lib.hid (within_any ch HC.out y q d w5)
   have hjn:(0:Int)<=(j:Int)/\(j:Int) < (t.size:Int):=by omega
   have HTR:=Lib.hid (HT.out.le)
   clear hyj hI
   cases hin:inB ch y with
   | true=>
      rw[hin]at WI HST
      have HS2:=Lib.hid (show bndL l ys=bndL (l.drop (j+1)) (ys.drop (j+1))from by rw[HST.out];rfl)
      clear hin HST hjy hjl
      go_wp2_with fail
      refine WI.out.mono ?_
      rintro e w6 ⟨rfl,hb6⟩
      have HI6:=Lib.hid ((hb6.block gi (Array.getElem?_eq_some_iff.1 HI2.out).1).trans HI2.out)
      have HB6:=Lib.hid (HB2.out.trans (hb6.mono HB2.out.size))
      clear hb6
      go_wp2_with fail
      go_roundg (t.size - (j+1))
      case measure=>omega
      case rel=>exact⟨j+1,_,rfl,by omega,rfl,HI6,HS2,HB6⟩
   | false=>
      rw[hin]at WI HST
      have HS2:=Lib.hid (show bndL l ys=false from by rw[HST.out];rfl)
      clear hin HST hjy hjl
      go_wp2_with fail
      refine WI.out.mono ?_
      rintro e w6 ⟨rfl,hb6⟩
      have HB6:=Lib.hid (HB2.out.trans (hb6.mono HB2.out.size))
      clear hb6
      go_wp2_with fail
      try rw[Exit.noGoto_ret]
      go_ret
      exact⟨by rw[HS2.out];rfl,HB6.out⟩
  ·obtain rfl:j=t.size:=by omega
   have hnx:=fun ty=>Lib.run_next_end_at (P:=Tryz.prog) wr gi t t.size ty HI.out (by omega)
   have HS2:=Lib.hid (show bndL l ys=true from by
    rw[HA.out,List.drop_eq_nil_of_le (by rw[HL.out];exact Nat.le_refl _)];rfl)
   go_wp2_with fail
   go_ret
   exact⟨by rw[HS2.out];rfl,HB.out⟩
end
section
open Go.RowKit Sha Fct
open Fld (Itm)
def facL:List Int->List Itm->Fac->Fac
 | a::s,y::ys,z=>facL s ys (layF z a y)
 | _,_,z=>z
theorem facL_at {l:List Int} {ys:List Itm}(z:Fac)(j:Nat)(hj:j < l.length)(hy:j < ys.length):facL (l.drop j) (ys.drop j) z=facL (l.drop (j+1)) (ys.drop (j+1)) (layF z l[j] ys[j]):=by
 rw[List.drop_eq_getElem_cons hj,List.drop_eq_getElem_cons hy];rfl
theorem layQ_good {w:World} {z:Fac} {q:Option Addr} {c:Nat} {y:Itm} {p:Option Addr} {d:Nat}(h:sF.Good w z q c)(hy:GoodI w y p d)(l:Int)(hl:isHas l):sF.Good w (layF z l y) (layQ l q p) (layQ l c d):=by
 have hok:=layF_ok h.ok hy.ok l
 rcases hl with rfl | rfl | rfl | rfl | rfl | rfl | rfl
 ·exact⟨hok,h.at_,h.le,h.max,h.nil⟩
 ·exact⟨hok,h.at_,h.le,h.max,h.nil⟩
 ·exact⟨hok,h.at_,h.le,h.max,h.nil⟩
 ·exact⟨hok,h.at_,h.le,h.max,h.nil⟩
 ·exact⟨hok,h.at_,h.le,h.max,h.nil⟩
 ·exact⟨hok,hy.at_,hy.le,hy.max,hy.nil⟩
 ·exact⟨hok,hy.at_,hy.le,hy.max,hy.nil⟩
theorem good_out {w w':World} {x:Fac} {q:Option Addr} {c g:Nat}(h:sF.Good w x q c)(ho:OutOf g x.B q)(ht:Touch [g] w w'):sF.Good w' x q c:=by
 refine⟨h.ok,?_,h.le,h.max,h.nil⟩
 by_cases e:x.B= []
 ·have h2:(sF.byt x).map v8= []:=by show x.B.map v8= [];rw[e];rfl
  rw[h2];exact At.nil _ _
 ·rcases h.at_ with h0 | ⟨b,off,rfl,hc⟩
  ·exact .inl h0
  ·refine .inr ⟨b,off,rfl,fun i v hi=>?_⟩
   have h1:=hc i v hi
   have hlt:b < w.heap.size:=World.block_lt_of_cell? w _ h1
   exact(World.cell?_of_block (w:=w) (a:=⟨b,off+i,none⟩) (ht.block b hlt (by have:=ho e _ rfl;simpa using this))).trans h1
theorem out_none (g:Nat)(b:List Int):OutOf g b none:=fun _ a ha=>nomatch ha
theorem layQ_out {g r:Nat} {z:Fac} {zq:Option Addr} {y:Itm} {yq:Option Addr} {l:Int}(h:OutOf g z.B zq/\OutOf r z.B zq)(hy:OutOf g y.B yq/\OutOf r y.B yq)(hl:isHas l):OutOf g (layF z l y).B (layQ l zq yq)/\OutOf r (layF z l y).B (layQ l zq yq):=by
 rcases hl with rfl | rfl | rfl | rfl | rfl | rfl | rfl
 ·exact h
 ·exact h
 ·exact h
 ·exact h
 ·exact h
 ·exact hy
 ·exact hy
theorem flat_getC:∀(ys:List Hdr),(∀y∈ys,y.1.ok)->∀(i:Nat)(hi:i < ys.length)(j:Nat)(v:Value),(icells ys[i].1 ys[i].2.1 ys[i].2.2)[j]? = some v->(ys.flatMap cellsI)[i*34+j]? = some v
 | [],_,i,hi,_,_,_=>by simp at hi
 | y::ys,h,0,_,j,v,hv=>by
    have hlt:=(List.getElem?_eq_some_iff.1 hv).1
    rw[List.flatMap_cons,Nat.zero_mul,Nat.zero_add,List.getElem?_append_left (by simpa[cellsI]using hlt)]
    exact hv
 | y::ys,h,i+1,hi,j,v,hv=>by
    have hl:(cellsI y).length=34:=icells_length (h y (List.mem_cons_self ..)) _ _
    rw[List.flatMap_cons,List.getElem?_append_right (by rw[hl];omega),hl,show(i+1)*34+j - 34=i*34+j by omega]
    exact flat_getC ys (fun y hy=>h y (List.mem_cons_of_mem _ hy)) i (by simpa using hi) j v (by simpa using hv)
def U8 (w:World)(q:Option Addr)(B:List Int):Prop:=B= []\/∃g cs,q=some ⟨g,0,none⟩/\Blk w g cs 5
theorem U8.on {w w':World} {q:Option Addr} {B:List Int}(h:U8 w q B)(hk:∀g cs,Blk w g cs 5->Blk w' g cs 5):U8 w' q B:=h.imp id fun⟨g,cs,e,hb⟩=>⟨g,cs,e,hk g cs hb⟩
theorem U8.below {w w':World} {q:Option Addr} {B:List Int}(h:U8 w q B)(hb:Below w.heap.size w w'):U8 w' q B:=h.on fun _ _ hk=>hk.below hb hk.lt
theorem U8.out {w:World} {q:Option Addr} {B:List Int}(h:U8 w q B) {r:Nat} {cs:List Value} {t:TypeId}(hr:Blk w r cs t)(ht:5≠t):OutOf r B q:=fun hne a ha e=>by
 rcases h with h | ⟨g,ds,hq,hk⟩
 ·exact hne h
 ·rw[hq]at ha;cases ha
  have e':g=r:=e
  subst e'
  exact blk_ne hk hr ht rfl
structure ToldC (u:Prop)(w:World)(p:Option Addr)(n c:Nat)(l:List Itm):Prop where
 told:Told w p n c l
 rows:∃ys:List Hdr,ys.map (·.1)=l/\At w p (ys.flatMap cellsI)/\∀y∈ys,GoodI w y.1 y.2.1 y.2.2/\(u->U8 w y.2.1 y.1.B)
theorem Told.c {w:World} {p:Option Addr} {n c:Nat} {l:List Itm}(h:Told w p n c l):ToldC False w p n c l:=by
 obtain⟨ys,h1,h2,h3⟩:=h.items
 exact⟨h,ys,h1,h2,fun y hy=>⟨h3 y hy,fun e=>e.elim⟩⟩
theorem ToldC.below {u:Prop} {w w':World} {p:Option Addr} {n c:Nat} {l:List Itm}(h:ToldC u w p n c l)(hb:Below w.heap.size w w'):ToldC u w' p n c l:=by
 obtain⟨ys,h1,h2,h3⟩:=h.rows
 exact⟨h.told.below hb,ys,h1,h2.below hb,fun y hy=>⟨(h3 y hy).1.below hb,fun hu=>((h3 y hy).2 hu).below hb⟩⟩
theorem items_atC {u:Prop} {w:World} {p:Option Addr} {n c:Nat} {l:List Itm}(h:ToldC u w p n c l)(h0:0 < l.length):∃b off,p=some ⟨b,off,none⟩/\∀i (hi:i < l.length),∃q d,ItmAt w b (off+i*34) l[i] q d/\(u->U8 w q l[i].B):=by
 obtain⟨ys,rfl,h2,h3⟩:=h.rows
 rw[List.length_map]at h0
 obtain⟨b,off,rfl,hc⟩:=h2.addr (by rw[flat_length _ (fun y hy=>(h3 y hy).1.ok)];omega)
 refine⟨b,off,rfl,fun i hi=>?_⟩
 rw[List.length_map]at hi
 obtain⟨b2,off2,hp,hit⟩:=items_at h.told (by rw[List.length_map];exact h0)
 cases hp
 have hyi:=h3 ys[i] (List.getElem_mem hi)
 refine⟨ys[i].2.1,ys[i].2.2,?_,by simpa using hyi.2⟩
 obtain⟨q,d,hI⟩:=hit i (by rw[List.length_map];exact hi)
 have hr:w.rangeAt b (off+i*34) (icells ys[i].1 ys[i].2.1 ys[i].2.2):=fun j v hv=>by
  rw[Nat.add_assoc]
  exact hc _ v (flat_getC ys (fun y hy=>(h3 y hy).1.ok) i hi j v hv)
 exact⟨by simpa using hr,by simpa using hyi.1,hI.lt⟩
def kindF (k:Int):Fac:=⟨k,0,0,0,0,Fld.zero32,[]⟩
theorem kindF_ok {k:Int}(h:fit k):(kindF k).ok:=fact_ok0 h (fit_small (by omega)) (fit_small (by omega)) (fit_small (by omega)) (fit_small (by omega)) zlen z32_ok.1 (by simp)
theorem fcells_q {x:Fac}(h:x.D.length=32) {q q':Option Addr} {c c':Nat}(he:(fcells x q c).toArray=(fcells x q' c').toArray):q=q'/\c=c':=by
 have h1:=congrArg (fun a:Array Value=>a.toList[37]?) he
 simp only[fcells_B h]at h1
 simp only[Option.some.injEq,Value.slice.injEq]at h1
 exact⟨h1.1,h1.2.2⟩
def FToldC (u:Prop)(x:Fac)(w:World)(e:Ending)(w':World):Prop:=∃q c,e= .returned (.agg (fcells x q c).toArray)/\sF.Good w' x q c/\(u->U8 w' q x.B)/\Below w.heap.size w w'
theorem layQ_u8 {u:Prop} {w:World} {z:Fac} {zq:Option Addr} {y:Itm} {yq:Option Addr} {l:Int}(h:u->U8 w zq z.B)(hy:u->U8 w yq y.B)(hl:isHas l):u->U8 w (layQ l zq yq) (layF z l y).B:=by
 rcases hl with rfl | rfl | rfl | rfl | rfl | rfl | rfl
 ·exact h
 ·exact h
 ·exact h
 ·exact h
 ·exact h
 ·exact hy
 ·exact hy
theorem u8f_ne:(5:TypeId)≠28:=by decide
attribute [local go_sem ↓] execOp_boxForm execOp_loadItem execOp_allocFact execOp_makeFact execOp_storeFact execOp_loadFact
theorem pfactC_any (u:Prop)(k:Int)(hk:fit k)(ys:List Itm)(p:Option Addr)(n cp:Nat)(w:World)(h:ToldC u w p n cp ys)(hn:n=(hasL k).length):
 Calls Tryz.prog 78 #[form k,.int .i64 k,.slice p n cp] w (FToldC u (facL (hasL k) ys (kindF k)) w):=by
 have hsz:=kHas_size k
 have hnm:=kHas_nums k
 have HIS:=Lib.hid (hasL_is k)
 have H128:=Lib.hid (hasL_128 k)
 show Calls Tryz.prog 78 #[.agg #[.string (kSh k),.string (kHas k)],.int .i64 k,.slice p n cp] w _
 generalize kSh k=s at *
 generalize kHas k=t at *
 generalize hasL k=l at *
 have HL:=Lib.hid (show l.length=t.size by rw[<-hnm,nums_length])
 obtain rfl:n=t.size:=by rw[hn,HL.out]
 have HNM:=Lib.hid hnm
 have HYL:=Lib.hid (show ys.length=t.size from h.told.len.symm)
 clear hnm hn
 have bx1:=run_boxOp (P:=Tryz.prog) (t:=79) (cs:=#[.string s,.string t]) w
 have hb1:=(Below.refl w.heap.size w).alloc (Nat.le_refl _) (.cells #[.string s,.string t] 79)
 have hk1:Blk (w.alloc (.cells #[.string s,.string t] 79)) w.heap.size [.string s,.string t] 79:=Blk.new w #[.string s,.string t] 79
 have hz1:(w.alloc (.cells #[.string s,.string t] 79)).heap.size=w.heap.size+1:=World.size_alloc ..
 obtain⟨w1,hw1⟩:∃v,v=w.alloc (.cells #[.string s,.string t] 79):=⟨_,rfl⟩
 rw[<-hw1]at bx1 hb1 hk1 hz1
 have al1:=alloc_fact w1
 have hb2:=hb1.alloc hb1.size (.cells (fcells fz none 0).toArray 28)
 have hr2:Blk (w1.alloc (.cells (fcells fz none 0).toArray 28)) w1.heap.size (fcells fz none 0) 28:=Blk.new w1 (fcells fz none 0).toArray 28
 have hk2:=hk1.old (.cells (fcells fz none 0).toArray 28)
 have hz2:(w1.alloc (.cells (fcells fz none 0).toArray 28)).heap.size=w1.heap.size+1:=World.size_alloc ..
 obtain⟨w2,hw2⟩:∃v,v=w1.alloc (.cells (fcells fz none 0).toArray 28):=⟨_,rfl⟩
 rw[<-hw2]at al1 hb2 hr2 hk2 hz2
 have al2:=alloc_fact w2
 have mk:∀w,(makeOp 28 #[(0,.int .i64 k)]).run Tryz.prog w= .ok (.value (.agg (fcells (kindF k) none 0).toArray)) w:=fun w=>run_makeOp w (kind_built k)
 have st:=store_fact1 w2 (x:=kindF k) (q:=none) (c:=0) zlen
 have hb3:=hb2.alloc hb2.size (.cells (fcells (kindF k) none 0).toArray 28)
 have hg3:Blk (w2.alloc (.cells (fcells (kindF k) none 0).toArray 28)) w2.heap.size (fcells (kindF k) none 0) 28:=Blk.new w2 (fcells (kindF k) none 0).toArray 28
 have hr3:=hr2.old (.cells (fcells (kindF k) none 0).toArray 28)
 have hk3:=hk2.old (.cells (fcells (kindF k) none 0).toArray 28)
 have hz3:(w2.alloc (.cells (fcells (kindF k) none 0).toArray 28)).heap.size=w2.heap.size+1:=World.size_alloc ..
 obtain⟨w3,hw3⟩:∃v,v=w2.alloc (.cells (fcells (kindF k) none 0).toArray 28):=⟨_,rfl⟩
 rw[<-hw3]at st hb3 hg3 hr3 hk3 hz3
 generalize hwq:w2.alloc (.cells (fcells fz none 0).toArray 28)=wq at *
 have c3:w3.cell? ⟨w.heap.size,1,none⟩=some (.string t):=hk3.cell 1
 obtain⟨r,hr⟩:∃r,r=w1.heap.size:=⟨_,rfl⟩
 obtain⟨g,hg⟩:∃g,g=w2.heap.size:=⟨_,rfl⟩
 rw[<-hr]at al1 hr3
 rw[<-hg]at al2 st hg3
 have HRG:=Lib.hid (show w.heap.size<=r/\r < g/\g < w3.heap.size by omega)
 have HB3:=Lib.hid hb3
 have HR3:=Lib.hid hr3
 have HG3:=Lib.hid hg3
 have HT:=Lib.hid h
 have HK:=Lib.hid hk
 clear hw1 hw2 hw3 hwq hr hg hz1 hz2 hz3 hb1 hb2 hb3 hk1 hk2 hk3 hr2 hr3 hg3 h hk
 go_enter Tryz.func78,Tryz.ntmps78
 go_wp2_with fail
 have HI0:=Lib.hid (World.iter_heap w3 t 0)
 have hal:(w3.iter t 0)=w3.alloc (.stringIter t 0):=rfl
 have HB4:=Lib.hid (show Below w.heap.size w (w3.iter t 0)from by rw[hal];exact HB3.out.alloc HB3.out.size _)
 have HR4:=Lib.hid (show Blk (w3.iter t 0) r (fcells fz none 0) 28 from by rw[hal];exact HR3.out.old _)
 have HG4:=Lib.hid (show Blk (w3.iter t 0) g (fcells (kindF k) none 0) 28 from by rw[hal];exact HG3.out.old _)
 obtain⟨gi,hgi⟩:∃gi,gi=w3.heap.size:=⟨_,rfl⟩
 rw[<-hgi]at HI0 ⊢
 have HGI:=Lib.hid (show w.heap.size<=gi/\g < gi by rw[hgi];exact⟨HB3.out.size,HRG.out.2.2⟩)
 have HZ0:=Lib.hid (show facL l ys (kindF k)=facL (l.drop 0) (ys.drop 0) (kindF k)from rfl)
 have HS0:=Lib.hid (show sF.Good (w3.iter t 0) (kindF k) none 0 from⟨kindF_ok HK.out,At.nil _ _,by simp[sF,kindF],by omega,fun _=>rfl⟩)
 have HU0:=Lib.hid (show u->U8 (w3.iter t 0) none (kindF k).B from fun _=>Or.inl rfl)
 clear hal hgi HB3 HR3 HG3
 generalize w3.iter t 0=w4 at *
 generalize hkf:kindF k=zk at *
 clear hkf c3 st al1 al2 mk bx1
 go_loopg [8] t.size (fun gh vv wr=>∃(j:Nat) (v:Value) (z:Fac) (zq:Option Addr) (zc:Nat),v=vv/\j<=t.size/\gh=t.size - j/\Hid (wr.heap[gi]? = some (.stringIter t j))/\Hid (facL l ys zk=facL (l.drop j) (ys.drop j) z)/\Hid (Blk wr g (fcells z zq zc) 28)/\Hid (Blk wr r (fcells fz none 0) 28)/\Hid (sF.Good wr z zq zc)/\Hid (OutOf g z.B zq/\OutOf r z.B zq)/\Hid (u->U8 wr zq z.B)/\Hid (Below w.heap.size w wr))
 case atStart=>exact⟨0,_,zk,none,0,rfl,by omega,rfl,HI0,HZ0,HG4,HR4,HS0,Lib.hid (show OutOf g zk.B none/\OutOf r zk.B none from⟨out_none _ _,out_none _ _⟩),HU0,HB4⟩
 case round=>
  obtain⟨j,v,z,zq,zc,rfl,hj,rfl,HI,HZ,HG,HR,HS,HOO,HU,HB⟩:=hrel
  clear HI0 HZ0 HG4 HR4 HS0 HU0 HB4
  by_cases hp:j < t.size
  ·obtain⟨ch,hn,hch⟩:=has_next t l HNM.out j hp H128.out
   have hnx:=fun ty=>hn.run wr gi ty HI.out
   have HC:=Lib.hid (HIS.out ch (List.mem_of_getElem? hch))
   have hjy:j < ys.length:=by rw[HYL.out];exact hp
   have hjl:j < l.length:=by rw[HL.out];exact hp
   obtain⟨b,off,rfl,hit⟩:=items_atC HT.out (by rw[HYL.out];omega)
   obtain⟨yq,yc,hI,hu⟩:=hit j hjy
   have HST:=Lib.hid (show facL l ys zk=facL (l.drop (j+1)) (ys.drop (j+1)) (layF z ch ys[j])from by
    rw[HZ.out,facL_at z j hjl hjy]
    have:l[j] = ch:=Option.some.inj ((List.getElem?_eq_getElem hjl).symm.trans hch)
    rw[this])
   have HI2:=Lib.hid (Lib.iterAt_heap _ _ _ _ (j+1) HI.out)
   have HB2:=Lib.hid (show Below w.heap.size w (wr.iterAt gi t (j+1))from Lib.below_iterAt HB.out HGI.out.1 t (j+1))
   have hck:=cells_iterAt HI.out (j+1)
   have HG2:=Lib.hid (show Blk (wr.iterAt gi t (j+1)) g (fcells z zq zc) 28 from hck.2 _ _ _ _ HG.out)
   have HR2:=Lib.hid (show Blk (wr.iterAt gi t (j+1)) r (fcells fz none 0) 28 from hck.2 _ _ _ _ HR.out)
   have HS2:=Lib.hid (show sF.Good (wr.iterAt gi t (j+1)) z zq zc from HS.out.carry fun a v hv=>by
    have hne:a.block≠gi:=fun e=>by
     have h2:=hv
     simp only[World.cell?]at h2
     rw[e,HI.out]at h2;simp at h2
    exact(World.cell?_of_block (w:=wr) (a:=a) (Lib.iterAt_other wr gi a.block t (j+1) hne)).trans hv)
   have HU2:=Lib.hid (show u->U8 (wr.iterAt gi t (j+1)) zq z.B from fun e=>(HU.out e).on fun g cs hk=>hck.2 _ _ _ _ hk)
   have HUY:=Lib.hid hu
   clear hn hch HI HB HZ HG HR HS HU hu hck hit
   obtain⟨w5,hw5⟩:∃w5,w5=wr.iterAt gi t (j+1):=⟨_,rfl⟩
   rw[<-hw5]at hnx HI2 HB2 HG2 HR2 HS2 HU2
   clear hw5
   have ld:(loadOp 83 (.pointer (some ⟨b,off+j*34,none⟩))).run Tryz.prog w5= .ok (.value (.agg (icells ys[j] yq yc).toArray)) w5:=load_at (hI.on HB2.out).g.ok (hI.on HB2.out).r
   have HY0:=Lib.hid hI.g
   generalize hyj:ys[j] = y at *
   have HY:=Lib.hid (HY0.out.below HB2.out)
   have HYO:=Lib.hid (show OutOf g y.B yq/\OutOf r y.B yq from⟨outOf_low HY0.out.at_ (by have:=HRG.out;omega),outOf_low HY0.out.at_ HRG.out.1⟩)
   have LY:=Lib.hid (lay_any ch HC.out g z zq zc y yq yc w5 HG2.out HS2.out.ok.len HY.out HYO.out.1)
   have hjn:(0:Int)<=(j:Int)/\(j:Int) < (t.size:Int):=by omega
   clear hyj hI hjy hjl
   go_wp2_with fail
   refine LY.out.mono ?_
   rintro e w6 ⟨rfl,hk6,ht6⟩
   have HI6:=Lib.hid ((ht6.block gi (Array.getElem?_eq_some_iff.1 HI2.out).1 (by have:=HGI.out;simp;omega)).trans HI2.out)
   have HR6:=Lib.hid (show Blk w6 r (fcells fz none 0) 28 from(ht6.block r HR2.out.lt (by have:=HRG.out;simp;omega)).trans HR2.out)
   have HB6:=Lib.hid (HB2.out.trans (ht6.below (B:=w.heap.size) (by have:=HRG.out;simp;omega) HB2.out.size))
   have HG6:=Lib.hid hk6
   have HS6:=Lib.hid (show sF.Good w6 (layF z ch y) (layQ ch zq yq) (layQ ch zc yc)from layQ_good (good_out HS2.out HOO.out.1 ht6) (HY0.out.below HB6.out) ch HC.out)
   have HO6:=Lib.hid (layQ_out HOO.out HYO.out HC.out)
   have HU6:=Lib.hid (show u->U8 w6 (layQ ch zq yq) (layF z ch y).B from layQ_u8 (fun e=>(HU2.out e).on fun k cs hk=>(ht6.block k hk.lt (by simp;exact blk_ne hk HG2.out u8f_ne)).trans hk) (fun e=>(HUY.out e).below HB6.out) HC.out)
   clear hk6 ht6 HI2 HR2 HG2 HS2 HB2 LY HY HYO HOO HU2 HUY
   go_wp2_with fail
   go_roundg (t.size - (j+1))
   case measure=>omega
   case rel=>exact⟨j+1,_,_,_,_,rfl,by omega,rfl,HI6,HST,HG6,HR6,HS6,HO6,HU6,HB6⟩
  ·obtain rfl:j=t.size:=by omega
   have hnx:=fun ty=>Lib.run_next_end_at (P:=Tryz.prog) wr gi t t.size ty HI.out (by omega)
   have HS2:=Lib.hid (show facL l ys zk=z from by
    rw[HZ.out,List.drop_eq_nil_of_le (by rw[HL.out];exact Nat.le_refl _)];rfl)
   have lf:=load_factB HG.out HS.out.ok.len
   have sf:=store_fact (q:=zq) (c:=zc) (x:=z) HR.out zlen HS.out.ok.len
   go_wp2_with fail
   have hend:=ftold_end HB.out HRG.out.1 HS.out HOO.out.2 HR.out
   rw[HS2.out]
   have hu2:u->U8 (wr.setRow r (fcells z zq zc).toArray) zq z.B:=fun e=>(HU.out e).on fun k cs hk=>hk.rowOther _ (blk_ne hk HR.out u8f_ne)
   obtain⟨q9,c9,he9,hg9,hb9⟩:=hend.2
   simp only[Ending.returned.injEq,Value.agg.injEq]at he9
   obtain⟨e1,e2⟩:=fcells_q HS.out.ok.len he9
   subst e1
   subst e2
   exact bodyPost_ret (v:=.agg (fcells z zq zc).toArray) (results_cell_row rfl _ _ _ _ _ _ _ rfl hend.1 (Tryz.underlying28) rfl (fact_sizeA HS.out.ok.len _ _)) rfl ⟨zq,zc,rfl,hg9,hu2,hb9⟩
theorem pfact_any (k:Int)(hk:fit k)(ys:List Itm)(p:Option Addr)(n cp:Nat)(w:World)(h:Told w p n cp ys)(hn:n=(hasL k).length):
 Calls Tryz.prog 78 #[form k,.int .i64 k,.slice p n cp] w (FTold (facL (hasL k) ys (kindF k)) w):=
 (pfactC_any False k hk ys p n cp w h.c hn).mono fun e w' ⟨q,c,he,hg,_,hb⟩=>⟨q,c,he,hg,hb⟩
end
section
open Go.RowKit Sha Fct
section
variable {V:Type} {S:Shp V} {w w':World}
def RowTy (w:World)(row:Option Nat)(t:TypeId):Prop:=∀k,row=some k->∃cs fz,w.heap[k]? = some (.cells cs t fz)
theorem RowTy.of {B n s:Nat} {t:TypeId} {v:Value} {xs:List Value}(h:w.ownsRow B t s v n xs):RowTy w v.ownBlock t:=fun k hk=>row_kind h k hk
theorem u8_grown {q:Option Addr} {b:List Int} {row:Option Nat} {t:TypeId}(hu:U8 w q b)(hg:w.grownBy w' row)(hr:RowTy w row t)(ht:5≠t):U8 w' q b:=hu.on fun g cs hk=>by
 have hne:some g≠row:=fun e=>by
  obtain⟨c2,fz,h2⟩:=hr g e.symm
  unfold Blk at hk
  rw[hk]at h2
  simp at h2
  exact ht h2.2.1
 unfold Blk
 rw[hg.block g hk.lt hne];exact hk
theorem good_grown {x:V} {q:Option Addr} {c:Nat} {row:Option Nat} {t:TypeId}(h:S.Good w x q c)(hu:U8 w q (S.byt x))(hg:w.grownBy w' row)(hr:RowTy w row t)(ht:5≠t):S.Good w' x q c:=by
 refine⟨h.ok,?_,h.le,h.max,h.nil⟩
 rcases hu with h0 | ⟨g,cs,rfl,hk⟩
 ·left;rw[h0];rfl
 ·rcases h.at_ with h1 | ⟨b,off,ha,hc⟩
  ·exact Or.inl h1
  ·cases ha
   refine Or.inr ⟨g,0,rfl,fun i u hi=>?_⟩
   have hne:some g≠row:=fun e=>by
    obtain⟨c2,fz,h2⟩:=hr g e.symm
    unfold Blk at hk
    rw[hk]at h2
    simp at h2
    exact ht h2.2.1
   exact hg.cell (hc i u hi) hne
structure Rws (S:Shp V)(t:TypeId)(w:World)(B:Nat)(v:Value)(ys:List (Hd V)):Prop where
 own:w.ownsRow B t S.n v ys.length (ys.flatMap S.row)
 good:∀y∈ys,S.Good w y.1 y.2.1 y.2.2/\U8 w y.2.1 (S.byt y.1)
theorem Rws.ok {t:TypeId} {B:Nat} {v:Value} {ys:List (Hd V)}(h:Rws S t w B v ys):∀y∈ys,S.ok y.1:=fun y hy=>(h.good y hy).1.ok
theorem Rws.below {t:TypeId} {B:Nat} {v:Value} {ys:List (Hd V)}(h:Rws S t w B v ys)(hb:Below w.heap.size w w'):Rws S t w' B v ys:=
 ⟨row_below_s h.own hb,fun y hy=>⟨(h.good y hy).1.below hb,(h.good y hy).2.below hb⟩⟩
theorem Rws.told {t:TypeId} {B:Nat} {v:Value} {ys:List (Hd V)}(h:Rws S t w B v ys):∃q c,v= .slice q ys.length c/\S.Told w q ys.length c (ys.map (·.1)):=by
 have h2:S.Own w B t v ys:=⟨h.own,fun y hy=>(h.good y hy).1⟩
 obtain⟨q,c,hv,ht⟩:=h2.told rfl
 rw[List.length_map]at hv ht
 exact⟨q,c,hv,ht⟩
theorem flat_takeS:∀(ys:List (Hd V)),(∀y∈ys,S.ok y.1)->∀i,(ys.flatMap S.row).take (i*S.n)=(ys.take i).flatMap S.row
 | [],_,i=>by simp
 | y::ys,h,0=>by simp
 | y::ys,h,i+1=>by
    have hl:(S.row y).length=S.n:=S.len _ _ (h y (List.mem_cons_self ..))
    rw[List.flatMap_cons,List.take_succ_cons,List.flatMap_cons,Nat.succ_mul,Nat.add_comm,<-flat_takeS ys (fun y hy=>h y (List.mem_cons_of_mem _ hy)) i,<-hl,List.take_length_add_append]
theorem flat_dropS:∀(ys:List (Hd V)),(∀y∈ys,S.ok y.1)->∀i,(ys.flatMap S.row).drop (i*S.n)=(ys.drop i).flatMap S.row
 | [],_,i=>by simp
 | y::ys,h,0=>by simp
 | y::ys,h,i+1=>by
    have hl:(S.row y).length=S.n:=S.len _ _ (h y (List.mem_cons_self ..))
    rw[List.flatMap_cons,List.drop_succ_cons,Nat.succ_mul,Nat.add_comm,<-flat_dropS ys (fun y hy=>h y (List.mem_cons_of_mem _ hy)) i,<-hl,List.drop_length_add_append]
end
end
section
open Go.RowKit Sha Fct
abbrev idc (d:Fct.Id):Value:=.agg (d.map v8).toArray
theorem idArr:Go.WideMaps.ArrKey Tryz.prog 25 5 32:=⟨Tryz.underlying25,by unfold Program.plainKey;rw[Tryz.underlying5],by kernel_rfl,by kernel_rfl⟩
theorem idLaw:Go.WideMaps.KeyLaw Tryz.prog 25:=idArr.law
theorem mapM_some {α β:Type}(f:α->Option β):∀l:List α,(∀x∈l,∃y,f x=some y)->∃ys,l.mapM f=some ys
 | [],_=>⟨[],by simp⟩
 | x::l,h=>by
    obtain⟨y,hy⟩:=h x (by simp)
    obtain⟨ys,hys⟩:=mapM_some f l (fun z hz=>h z (by simp[hz]))
    exact⟨y::ys,by simp[hy,hys]⟩
theorem types_size:∃m,Tryz.prog.types.size=m+1:=⟨Tryz.prog.types.size - 1,by decide +kernel⟩
theorem cells_id:Tryz.prog.cellsOf 25=32:=by kernel_rfl
theorem cells_u8:Tryz.prog.cellsOf 5=1:=by kernel_rfl
theorem idc_lits {d:Fct.Id}(h:idOk d)(m:Nat):∃ls,Tryz.prog.keyLits (m+2) 25 (d.map v8)=some ls:=by
 unfold Program.keyLits
 simp only[Tryz.underlying25]
 rw[if_pos (by rw[List.length_map,h.1,cells_id])]
 have h2:=mapM_some (fun i=>Tryz.prog.keyLits (m+1) 5 (((d.map v8).drop (i*Tryz.prog.cellsOf 5)).take (Tryz.prog.cellsOf 5))) (List.range 32) (fun i hi=>by
  have hi:=List.mem_range.1 hi
  rw[cells_u8,Nat.mul_one]
  have hd:i < d.length:=by rw[h.1];exact hi
  have e:((d.map v8).drop i).take 1= [v8 d[i]]:=by
   rw[List.drop_eq_getElem_cons (by simpa using hd)];simp
  rw[e]
  unfold Program.keyLits
  simp only[Tryz.underlying5]
  have hb:=h.2 _ (List.getElem_mem hd)
  refine⟨[.int .u8 d[i]],?_⟩
  rw[if_pos]
  refine⟨trivial,?_⟩
  have e1:IntKind.u8.min=0:=rfl
  have e2:IntKind.u8.max=255:=rfl
  simp only[Lit.wf,e1,e2,Bool.and_eq_true,decide_eq_true_eq]
  exact hb)
 obtain⟨ys,hy⟩:=h2
 exact⟨ys.flatten,by rw[hy];rfl⟩
theorem idc_key {d:Fct.Id}(h:idOk d):∃l,keyOf Tryz.prog 25 (idc d)=some l:=by
 unfold keyOf
 simp only[Tryz.underlying25]
 have h1:=idArr.keyType types_size
 have h2:(idc d).formed Tryz.prog 25=true:=by
  unfold Value.formed
  simp only[Tryz.underlying25]
  simp[h.1,cells_id]
 rw[if_pos (by rw[h1,h2];rfl)]
 obtain⟨m,hm⟩:=types_size
 obtain⟨ls,hl⟩:=idc_lits h m
 have e:(idc d).cells.toList=d.map v8:=by simp[Value.cells]
 rw[hm,e,hl]
 exact⟨_,rfl⟩
theorem idc_inj {a b:Fct.Id}(h:idc a=idc b):a=b:=by
 have h2:(a.map v8).toArray=(b.map v8).toArray:=by injection h
 have h3:a.map v8=b.map v8:=by simpa using h2
 exact(List.map_inj_right (fun x y e=>by simpa using e)).1 h3
structure Takn (w:World)(b:Nat)(S:List Fct.Id):Prop where
 ok:∀d∈S,idOk d
 nd:S.Nodup
 at_:∃es c,w.heap[b]? = some (.map es c)/\es.toList.map (·.key)=S.map idc/\∀e∈es.toList,e.val=i64c 1
theorem Takn.new (w:World):Takn (w.alloc (.map #[] 0)) w.heap.size []:=⟨by simp,by simp,#[],0,heap_alloc_new _ _,by simp,by simp⟩
theorem Takn.lt {w:World} {b:Nat} {S:List Fct.Id}(h:Takn w b S):b < w.heap.size:=by
 obtain⟨es,c,h1,_⟩:=h.at_
 exact(Array.getElem?_eq_some_iff.1 h1).1
theorem Takn.on {w w':World} {b:Nat} {S:List Fct.Id}(h:Takn w b S)(hb:w'.heap[b]? = w.heap[b]?):Takn w' b S:=by
 obtain⟨es,c,h1,h2⟩:=h.at_
 exact⟨h.ok,h.nd,es,c,hb.trans h1,h2⟩
theorem Takn.below {w w':World} {b:Nat} {S:List Fct.Id}(h:Takn w b S)(hb:Below w.heap.size w w'):Takn w' b S:=h.on (hb.block b h.lt)
theorem Takn.grown {w w':World} {b:Nat} {S:List Fct.Id} {row:Option Nat} {t:TypeId}(h:Takn w b S)(hg:w.grownBy w' row)(hr:RowTy w row t):Takn w' b S:=by
 refine h.on (hg.block b h.lt fun e=>?_)
 obtain⟨es,c,h1,_⟩:=h.at_
 obtain⟨cs,fz,h2⟩:=hr b e.symm
 rw[h1]at h2
 simp at h2
theorem Takn.find {w:World} {es:Array MapEntry} {S:List Fct.Id}(hk:es.toList.map (·.key)=S.map idc)(hok:∀d∈S,idOk d) {d:Fct.Id}(hd:idOk d):
 ((Instr.findKey 25 (idc d) es.toList).run Tryz.prog w= .ok none w/\d∉S)\/
 ∃j e,(Instr.findKey 25 (idc d) es.toList).run Tryz.prog w= .ok (some (j,e.val)) w/\es[j]? = some e/\e.key=idc d/\S[j]? = some d:=by
 obtain⟨l,hl⟩:=idc_key hd
 have hall:∀e∈es.toList,∃l,keyOf Tryz.prog 25 e.key=some l:=fun e he=>by
  have:e.key∈S.map idc:=by rw[<-hk];exact List.mem_map_of_mem he
  obtain⟨x,hx,e2⟩:=List.mem_map.1 this
  rw[<-e2];exact idc_key (hok x hx)
 rcases idLaw.find w hl es.toList hall with⟨h1,h2⟩ | ⟨j,e,h1,h2,h3⟩
 ·refine Or.inl ⟨h1,fun hm=>?_⟩
  have:idc d∈es.toList.map (·.key):=by rw[hk];exact List.mem_map_of_mem hm
  obtain⟨e,he,e2⟩:=List.mem_map.1 this
  exact h2 e he e2
 ·refine Or.inr ⟨j,e,h1,by simpa using h2,h3,?_⟩
  have e4:(es.toList.map (·.key))[j]? = some (idc d):=by rw[List.getElem?_map,h2,<-h3];rfl
  rw[hk,List.getElem?_map]at e4
  cases hs:S[j]? with
  | none=>rw[hs]at e4;simp at e4
  | some x=>rw[hs]at e4;simp only[Option.map_some,Option.some.injEq]at e4;rw[idc_inj e4]
theorem idc_check (w:World)(em:Bool) {d:Fct.Id}(hd:idOk d):(Instr.checkKey em 10000 25 (idc d)).run Tryz.prog w= .ok () w:=by
 obtain⟨l,hl⟩:=idc_key hd
 exact idLaw.check w em hl
theorem int_zero (w:World):(zeroValue 3).run Tryz.prog w= .ok (i64c 0) w:=by kernel_rfl
theorem Takn.look {w:World} {b:Nat} {S:List Fct.Id}(h:Takn w b S) {d:Fct.Id}(hd:idOk d):
 (Instr.lookup 215 (.map (some b)) (idc d) false).run Tryz.prog w= .ok (i64c (if d∈S then 1 else 0)) w:=by
 obtain⟨es,c,h1,h2,h3⟩:=h.at_
 rcases Takn.find (w:=w) h2 h.ok hd with⟨f1,f2⟩ | ⟨j,e,f1,f2,f3,f4⟩
 ·rw[if_neg f2]
  simp[Instr.lookup,run_underlying Tryz.underlying215,MapKept.run_getObj_map h1,idc_check w _ hd,f1,Result.andThen,int_zero w]
 ·rw[if_pos (List.mem_of_getElem? f4)]
  have hv:=h3 e (by rw[Array.mem_toList_iff];exact Array.mem_of_getElem? f2)
  simp[Instr.lookup,run_underlying Tryz.underlying215,MapKept.run_getObj_map h1,idc_check w _ hd,f1,Result.andThen,hv]
theorem Takn.set_ {w:World} {b:Nat} {S S':List Fct.Id}(h:Takn w b S) {es:Array MapEntry} {c:Nat}(hk:es.toList.map (·.key)=S'.map idc)(hv:∀e∈es.toList,e.val=i64c 1)(hok:∀d∈S',idOk d)(hn:S'.Nodup):
 Takn {w with heap:=w.heap.setIfInBounds b (.map es c)} b S'/\w.grownBy {w with heap:=w.heap.setIfInBounds b (.map es c)} (some b):=by
 refine⟨⟨hok,hn,es,c,?_,hk,hv⟩,⟨rfl,rfl,rfl,by simp,fun k hkk hne=>?_⟩⟩
 ·show(w.heap.setIfInBounds b _)[b]? = _
  have:=h.lt
  simp[this]
 ·show(w.heap.setIfInBounds b _)[k]? = _
  have:b≠k:=fun e=>hne (by rw[e])
  rw[Array.getElem?_setIfInBounds_ne this]
theorem Takn.put {w:World} {b:Nat} {S:List Fct.Id}(h:Takn w b S) {d:Fct.Id}(hd:idOk d):
 ∃w',(Instr.mapUpdate 215 (.map (some b)) (idc d) (i64c 1)).run Tryz.prog w= .ok () w'/\Takn w' b (if d∈S then S else S++[d])/\w.grownBy w' (some b):=by
 obtain⟨es,c,h1,h2,h3⟩:=h.at_
 obtain⟨l,hl⟩:=idc_key hd
 rcases Takn.find (w:=w) h2 h.ok hd with⟨f1,f2⟩ | ⟨j,e,f1,f2,f3,f4⟩
 ·rw[if_neg f2]
  have hs:=h.set_ (S':=S++[d]) (es:=es.push ⟨idc d,i64c 1,c⟩) (c:=c+1) (by simp[h2]) (by
   intro e he
   rw[Array.toList_push]at he
   rcases List.mem_append.1 he with he | he
   ·exact h3 e he
   ·rw[List.mem_singleton.1 he])
   (by
     intro x hx
     rcases List.mem_append.1 hx with hx | hx
     ·exact h.ok x hx
     ·rw[List.mem_singleton.1 hx];exact hd)
   (by rw[List.nodup_append];exact⟨h.nd,by simp,by intro x hx y hy e;rw[List.mem_singleton.1 hy]at e;exact f2 (e ▸ hx)⟩)
  exact⟨_,by simp[Instr.mapUpdate,run_underlying Tryz.underlying215,MapKept.run_getObj_map h1,idc_check w _ hd,f1,MapKept.run_setObj_map _ h1,Result.andThen],hs⟩
 ·rw[if_pos (List.mem_of_getElem? f4)]
  have hv:=h3 e (by rw[Array.mem_toList_iff];exact Array.mem_of_getElem? f2)
  have hst:=idLaw.stays w hl
  have hm:(es.modify j fun e=>{e with key:=idc d,val:=i64c 1}).toList.map (·.key)=S.map idc:=by
   rw[<-h2]
   refine MapKept.modify_keys j (fun e=>{e with key:=idc d,val:=i64c 1}) ?_
   intro e' he'
   have h5:e'=e:=Option.some.inj (he'.symm.trans f2)
   show idc d=e'.key
   rw[h5,f3]
  have hm2:∀x∈(es.modify j fun e=>{e with key:=idc d,val:=i64c 1}).toList,x.val=i64c 1:=by
   intro x hx
   rw[Array.mem_toList_iff]at hx
   obtain⟨i,hi,rfl⟩:=Array.getElem_of_mem hx
   rw[Array.getElem_modify]
   split
   ·rfl
   ·exact h3 _ (by simp)
  have hs:=h.set_ (c:=c) hm hm2 h.ok h.nd
  exact⟨_,by simp[Instr.mapUpdate,run_underlying Tryz.underlying215,MapKept.run_getObj_map h1,idc_check w _ hd,f1,f2,f3,hst,MapKept.run_setObj_map _ h1,Result.andThen],hs⟩
theorem toList_erase {α:Type}(a:Array α)(j:Nat):(a.eraseIdxIfInBounds j).toList=a.toList.eraseIdx j:=by
 rw[Array.eraseIdxIfInBounds_eq]
 split
 ·rw[Array.toList_eraseIdx]
 ·rename_i h
  rw[List.eraseIdx_of_length_le (by simpa using h)]
theorem Takn.drop {w:World} {b:Nat} {S:List Fct.Id}(h:Takn w b S) {d:Fct.Id}(hd:idOk d):
 ∃w',(∀ty,(Builtin.delete_ #[215,25] ty #[.map (some b),idc d]).run Tryz.prog w= .ok (.tuple #[]) w')/\Takn w' b (S.filter fun x=>!decide (x=d))/\w.grownBy w' (some b):=by
 obtain⟨es,c,h1,h2,h3⟩:=h.at_
 rcases Takn.find (w:=w) h2 h.ok hd with⟨f1,f2⟩ | ⟨j,e,f1,f2,f3,f4⟩
 ·have hS:(S.filter fun x=>!decide (x=d))=S:=List.filter_eq_self.2 (fun x hx=>by simp;rintro rfl;exact f2 hx)
  rw[hS]
  have hs:=h.set_ (c:=c) h2 h3 h.ok h.nd
  exact⟨_,fun ty=>by simp[Builtin.delete_,run_underlying Tryz.underlying215,MapKept.run_getObj_map h1,idc_check w _ hd,f1,MapKept.run_setObj_map _ h1,Result.andThen],hs⟩
 ·have hS:(S.filter fun x=>!decide (x=d))=S.eraseIdx j:=by
   exact ChangeMaps.filter_eq_eraseIdx (fun x:Fct.Id=>decide (x=d)) S j d f4 (by simp) (h.nd.imp fun {a b} hab h2=>hab (by have h3:=of_decide_eq_true h2.1;have h4:=of_decide_eq_true h2.2;rw[h3,h4]))
  rw[hS]
  have hs:=h.set_ (S':=S.eraseIdx j) (es:=es.eraseIdxIfInBounds j) (c:=c) (by rw[toList_erase,ChangeMaps.map_eraseIdx,h2,<-ChangeMaps.map_eraseIdx]) (by intro e he;rw[toList_erase]at he;exact h3 e (List.mem_of_mem_eraseIdx he))
   (fun x hx=>h.ok x (List.mem_of_mem_eraseIdx hx)) (h.nd.sublist (List.eraseIdx_sublist ..))
  exact⟨_,fun ty=>by simp[Builtin.delete_,run_underlying Tryz.underlying215,MapKept.run_getObj_map h1,idc_check w _ hd,f1,MapKept.run_setObj_map _ h1,Result.andThen],hs⟩
end
end Go.Proofs.YtokpabkcaofahaaGreat
