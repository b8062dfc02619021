/-
  What stands under factGrows_holds: part 15.
-/
import Derived.Test.YtokpabkcaofahaaGreatPg13
import Derived.Test.YtokpabkcaofahaaGreatPg14
import Derived.Test.YtokpabkcaofahaaGreatPg6
namespace Go.Proofs.YtokpabkcaofahaaGreat
set_option linter.unusedSimpArgs false
set_option linter.unusedVariables false
set_option maxRecDepth 100000
set_option maxHeartbeats 20000000
section
open Go.RowKit Sha Fct
attribute [local go_sem ↓] execOp_boxId execOp_loadId execOp_boxOB execOp_boxOK execOp_boxOH
def more1 (S:List Fct.Id)(d:Fct.Id):List Fct.Id:=if d∈S then S else S++[d]
def tk1 (f:Fac)(s:Int)(d:Fct.Id)(S:List Fct.Id):List Fct.Id:=if s=f.S then more1 S d else S
theorem mem_more1 {S:List Fct.Id} {d x:Fct.Id}:x∈more1 S d↔x∈S\/x=d:=by
 unfold more1
 split
 ·rename_i h
  constructor
  ·exact Or.inl
  ·rintro(h2 | rfl)
   ·exact h2
   ·exact h
 ·simp
theorem take_any (f:Fac)(q:Option Addr)(c:Nat)(s:Int)(d:Fct.Id)(gf gm mb:Nat)(S:List Fct.Id)(w:World)(hd:idOk d)(hF:Blk w gf (fcells f q c) 28)(hM:Blk w gm [.map (some mb)] 215)(hT:Takn w mb S):
 Calls Tryz.prog 163 #[.int .i64 s,.agg (d.map v8).toArray,.pointer (some ⟨gf,0,none⟩),.pointer (some ⟨gm,0,none⟩)] w fun e w'=>
  e= .returned (.bool (decide (s=f.S)))/\Takn w' mb (tk1 f s d S)/\w.grownBy w' (some mb):=by
 have bx:=run_boxOp (P:=Tryz.prog) (t:=25) (cs:=(d.map v8).toArray) w
 have hb1:=(Below.refl w.heap.size w).alloc (Nat.le_refl _) (.cells (d.map v8).toArray 25)
 have hk1:Blk (w.alloc (.cells (d.map v8).toArray 25)) w.heap.size (d.map v8) 25:=Blk.new w _ 25
 obtain⟨g0,hg0⟩:∃g,g=w.heap.size:=⟨_,rfl⟩
 rw[<-hg0]at bx hk1
 generalize w.alloc (.cells (d.map v8).toArray 25)=w1 at *
 have c1:w1.cell? ⟨gf,1,none⟩=some (i64c f.S):=((hF.below hb1 hF.lt).cell 1).trans (fcells_S f q c)
 have c2:w1.cell? ⟨gm,0,none⟩=some (.map (some mb)):=(hM.below hb1 hM.lt).cell 0
 have l1:=load_idr (g:=g0) (o:=0) hd.1 hk1.range
 have hT1:=hT.below hb1
 have HG1:=Lib.hid (below_grown hb1 (some mb))
 have HT1:=Lib.hid hT1
 obtain⟨w2,pu,hT2,hg2⟩:=hT1.put hd
 have HT2:=Lib.hid hT2
 have HG2:=Lib.hid hg2
 clear hT1 hT2 hg2 hb1 hk1 hF hM hT hg0
 by_cases hs:s=f.S
 ·have h1:(s != f.S)=false:=by simp[hs]
  have HS:=Lib.hid hs
  clear hs
  go_enter Tryz.func163,Tryz.ntmps163
  go_wp2_with fail
  go_ret
  exact⟨by rw[decide_eq_true HS.out];rfl,by unfold tk1;rw[if_pos HS.out];exact HT2.out,grown_trans HG1.out HG2.out⟩
 ·have h1:(s != f.S)=true:=by simpa using hs
  have HS:=Lib.hid hs
  clear hs
  go_enter Tryz.func163,Tryz.ntmps163
  go_wp2_with fail
  go_ret
  exact⟨by rw[decide_eq_false HS.out];rfl,by unfold tk1;rw[if_neg HS.out];exact HT1.out,HG1.out⟩
theorem kcells_id (x:Int×Fct.Id)(q:Option Addr)(c:Nat):kcells x q c= [i64c x.1]++x.2.map v8++[]:=by unfold kcells;simp
theorem hcells_id (x:Int×Int×Fct.Id)(q:Option Addr)(c:Nat):hcells x q c= [i64c x.1,i64c x.2.1]++x.2.2.map v8++[]:=by unfold hcells;simp
theorem bcells_id (x:Fct.Id×List Int)(q:Option Addr)(c:Nat):bcells x q c= []++x.1.map v8++[.slice q x.2.length c]:=by unfold bcells;simp
theorem range_mid {w:World} {g o:Nat} {pre cs post:List Value} {t:TypeId}(h:Blk w g (pre++cs++post) t)(ho:pre.length=o):w.rangeAt g o cs:=fun j u hj=>by
 have:=cells_in (o:=o) h ho j u hj
 rw[Addr.add_mid]at this;exact this
structure TkB (w:World)(f:Fac)(q:Option Addr)(c:Nat)(gt gf gm mb:Nat):Prop where
 t:Blk w gt [.func (.func 163) #[] #[.pointer (some ⟨gf,0,none⟩),.pointer (some ⟨gm,0,none⟩)]] 221
 f:Blk w gf (fcells f q c) 28
 m:Blk w gm [.map (some mb)] 215
theorem TkB.grown {w w':World} {f:Fac} {q:Option Addr} {c gt gf gm mb:Nat} {row:Option Nat}(h:TkB w f q c gt gf gm mb)(hg:w.grownBy w' row)(hr:∀k cs t,row=some k->Blk w k cs t->t≠221/\t≠28/\t≠215):TkB w' f q c gt gf gm mb:=
 ⟨blk_grown h.t hg fun e=>(hr _ _ _ e h.t).1 rfl,blk_grown h.f hg fun e=>(hr _ _ _ e h.f).2.1 rfl,blk_grown h.m hg fun e=>(hr _ _ _ e h.m).2.2 rfl⟩
theorem tk2_any (x:Int×Fct.Id)(xq:Option Addr)(xc:Nat)(hx:sK.ok x)(f:Fac)(q:Option Addr)(c gt gf gm mb:Nat)(S:List Fct.Id)(w:World)(hB:TkB w f q c gt gf gm mb)(hT:Takn w mb S):
 Calls Tryz.prog 165 #[.agg (kcells x xq xc).toArray,.pointer (some ⟨gt,0,none⟩)] w fun e w'=>
  e= .returned (.bool (decide (x.1=f.S)))/\Takn w' mb (tk1 f x.1 x.2 S)/\w.grownBy w' (some mb):=by
 have bx:=run_boxOp (P:=Tryz.prog) (t:=95) (cs:=(kcells x xq xc).toArray) w
 have hb1:=(Below.refl w.heap.size w).alloc (Nat.le_refl _) (.cells (kcells x xq xc).toArray 95)
 have hk1:Blk (w.alloc (.cells (kcells x xq xc).toArray 95)) w.heap.size (kcells x xq xc) 95:=Blk.new w _ 95
 obtain⟨g0,hg0⟩:∃g,g=w.heap.size:=⟨_,rfl⟩
 rw[<-hg0]at bx hk1
 generalize w.alloc (.cells (kcells x xq xc).toArray 95)=w1 at *
 have c1:w1.cell? ⟨gt,0,none⟩=some (.func (.func 163) #[] #[.pointer (some ⟨gf,0,none⟩),.pointer (some ⟨gm,0,none⟩)]):=(hB.t.below hb1 hB.t.lt).cell 0
 have c2:w1.cell? ⟨g0,0,none⟩=some (i64c x.1):=hk1.cell 0
 rw[kcells_id]at hk1
 have l1:=load_idr (g:=g0) (o:=1) hx.2.1 (range_mid hk1 rfl)
 have HT:=Lib.hid (take_any f q c x.1 x.2 gf gm mb S w1 hx.2 (hB.f.below hb1 hB.f.lt) (hB.m.below hb1 hB.m.lt) (hT.below hb1))
 have HG1:=Lib.hid (below_grown hb1 (some mb))
 clear hb1 hk1 hB hT hg0
 go_enter Tryz.func165,Tryz.ntmps165
 go_wp2_with fail
 refine HT.out.mono ?_
 rintro e w2 ⟨rfl,hT2,hg2⟩
 have HT2:=Lib.hid hT2
 have HG2:=Lib.hid (grown_trans HG1.out hg2)
 clear hT2 hg2
 go_wp2_with fail
 go_ret
 exact⟨rfl,HT2.out,HG2.out⟩
theorem tk3_any (x:Int×Int×Fct.Id)(xq:Option Addr)(xc:Nat)(hx:sH.ok x)(f:Fac)(q:Option Addr)(c gt gf gm mb:Nat)(S:List Fct.Id)(w:World)(hB:TkB w f q c gt gf gm mb)(hT:Takn w mb S):
 Calls Tryz.prog 167 #[.agg (hcells x xq xc).toArray,.pointer (some ⟨gt,0,none⟩)] w fun e w'=>
  e= .returned (.bool (decide (x.2.1=f.S)))/\Takn w' mb (tk1 f x.2.1 x.2.2 S)/\w.grownBy w' (some mb):=by
 have bx:=run_boxOp (P:=Tryz.prog) (t:=97) (cs:=(hcells x xq xc).toArray) w
 have hb1:=(Below.refl w.heap.size w).alloc (Nat.le_refl _) (.cells (hcells x xq xc).toArray 97)
 have hk1:Blk (w.alloc (.cells (hcells x xq xc).toArray 97)) w.heap.size (hcells x xq xc) 97:=Blk.new w _ 97
 obtain⟨g0,hg0⟩:∃g,g=w.heap.size:=⟨_,rfl⟩
 rw[<-hg0]at bx hk1
 generalize w.alloc (.cells (hcells x xq xc).toArray 97)=w1 at *
 have c1:w1.cell? ⟨gt,0,none⟩=some (.func (.func 163) #[] #[.pointer (some ⟨gf,0,none⟩),.pointer (some ⟨gm,0,none⟩)]):=(hB.t.below hb1 hB.t.lt).cell 0
 have c2:w1.cell? ⟨g0,1,none⟩=some (i64c x.2.1):=hk1.cell 1
 rw[hcells_id]at hk1
 have l1:=load_idr (g:=g0) (o:=2) hx.2.2.1 (range_mid hk1 rfl)
 have HT:=Lib.hid (take_any f q c x.2.1 x.2.2 gf gm mb S w1 hx.2.2 (hB.f.below hb1 hB.f.lt) (hB.m.below hb1 hB.m.lt) (hT.below hb1))
 have HG1:=Lib.hid (below_grown hb1 (some mb))
 clear hb1 hk1 hB hT hg0
 go_enter Tryz.func167,Tryz.ntmps167
 go_wp2_with fail
 refine HT.out.mono ?_
 rintro e w2 ⟨rfl,hT2,hg2⟩
 have HT2:=Lib.hid hT2
 have HG2:=Lib.hid (grown_trans HG1.out hg2)
 clear hT2 hg2
 go_wp2_with fail
 go_ret
 exact⟨rfl,HT2.out,HG2.out⟩
theorem rl1_any (x:Fct.Id×List Int)(xq:Option Addr)(xc:Nat)(hx:sB.ok x)(gb mb:Nat)(S:List Fct.Id)(w:World)(hB:Blk w gb [.map (some mb)] 215)(hT:Takn w mb S):
 Calls Tryz.prog 179 #[.agg (bcells x xq xc).toArray,.pointer (some ⟨gb,0,none⟩)] w fun e w'=>e= .returned (.bool (decide (x.1∈S)))/\Below w.heap.size w w':=by
 have bx:=run_boxOp (P:=Tryz.prog) (t:=93) (cs:=(bcells x xq xc).toArray) w
 have hb1:=(Below.refl w.heap.size w).alloc (Nat.le_refl _) (.cells (bcells x xq xc).toArray 93)
 have hk1:Blk (w.alloc (.cells (bcells x xq xc).toArray 93)) w.heap.size (bcells x xq xc) 93:=Blk.new w _ 93
 obtain⟨g0,hg0⟩:∃g,g=w.heap.size:=⟨_,rfl⟩
 rw[<-hg0]at bx hk1
 generalize w.alloc (.cells (bcells x xq xc).toArray 93)=w1 at *
 have c1:w1.cell? ⟨gb,0,none⟩=some (.map (some mb)):=(hB.below hb1 hB.lt).cell 0
 rw[bcells_id]at hk1
 have l1:=load_idr (g:=g0) (o:=0) hx.1.1 (range_mid hk1 rfl)
 have lk:=(hT.below hb1).look hx.1
 have HB1:=Lib.hid hb1
 clear hb1 hk1 hB hT hg0
 by_cases hs:x.1∈S
 ·rw[if_pos hs]at lk
  rw[decide_eq_true hs]
  clear hs
  go_enter Tryz.func179,Tryz.ntmps179
  go_wp2_with fail
  go_ret
  exact⟨rfl,HB1.out⟩
 ·rw[if_neg hs]at lk
  rw[decide_eq_false hs]
  clear hs
  go_enter Tryz.func179,Tryz.ntmps179
  go_wp2_with fail
  go_ret
  exact⟨rfl,HB1.out⟩
end
section
open Go.RowKit Sha Fct
def rowT (t:TypeId):Prop:=t=93\/t=95\/t=97\/t=62\/t=73
def Own9 (w:World)(B g k:Nat):Prop:=k=g\/(B<=k/\∃cs t fz,w.heap[k]? = some (.cells cs t fz)/\rowT t)
theorem rowT_ne {t:TypeId}(h:rowT t):t≠5/\t≠47:=by rcases h with rfl | rfl | rfl | rfl | rfl<;>decide
theorem chg9_trans {B g:Nat} {X:Nat->Prop} {a b c:World}(h:Chg (fun k=>Own9 a B g k\/X k) a b)(k:Chg (fun k=>Own9 b B g k\/X k) b c):Chg (fun k=>Own9 a B g k\/X k) a c:=
 ⟨k.os.trans h.os,k.tape.trans h.tape,k.output.trans h.output,Nat.le_trans h.size k.size,fun j hj hn=>by
  have e:=h.block j hj hn
  refine(k.block j (Nat.lt_of_lt_of_le hj h.size) fun hc=>hn ?_).trans e
  rcases hc with(hc | ⟨h1,cs,t,fz,h2,h3⟩) | hc
  ·exact Or.inl (Or.inl hc)
  ·exact Or.inl (Or.inr ⟨h1,cs,t,fz,by rw[<-e];exact h2,h3⟩)
  ·exact Or.inr hc⟩
section
variable {V:Type} {S:Shp V} {w w':World} {Q:Nat->Prop}
theorem Rws.chg {t:TypeId} {B:Nat} {v:Value} {ys:List (Hd V)}(h:Rws S t w B v ys)(hg:Chg Q w w')(hq:∀k cs fz t',w.heap[k]? = some (.cells cs t' fz)->(t'=t\/t'=5)->¬Q k):Rws S t w' B v ys:=by
 have h8:∀g cs,Blk w g cs 5->Blk w' g cs 5:=fun g cs hk=>hg.blk hk (hq g _ _ _ hk (Or.inr rfl))
 refine⟨?_,fun y hy=>⟨good_blk (h.good y hy).1 (h.good y hy).2 h8,(h.good y hy).2.on h8⟩⟩
 obtain⟨h0,h1⟩:=h.own
 refine⟨h0,?_⟩
 rcases h1 with h1 | ⟨g,cap,cur,hv,hB,hh,hr⟩
 ·exact Or.inl h1
 ·exact Or.inr ⟨g,cap,cur,hv,hB,(hg.block g (Array.getElem?_eq_some_iff.1 hh).1 (hq g _ _ _ hh (Or.inl rfl))).trans hh,hr⟩
theorem Rws.lo {t:TypeId} {B:Nat} {v:Value} {ys:List (Hd V)}(h:Rws S t w B v ys) {k:Nat}(hk:v.ownBlock=some k):B<=k:=(h.own.lt k hk).1
end
structure Rows9 where
 vb:Value
 vk:Value
 vh:Value
 vv:Value
 vd:Value
 yb:List (Hd (Fct.Id×List Int))
 yk:List (Hd (Int×Fct.Id))
 yh:List (Hd (Int×Int×Fct.Id))
 yv:List (Hd Vot)
 yd:List (Hd (Int×List Int))
def ocells (s:Ste)(r:Rows9):List Value:=[.bool s.born,i64c s.boot,r.vb,r.vk,r.vh,r.vv,r.vd]
structure StO (w:World)(B g:Nat)(s:Ste)(r:Rows9):Prop where
 blk:Blk w g (ocells s r) 47
 lo:B<=g
 b:Rws sB 93 w B r.vb r.yb
 be:r.yb.map (·.1)=s.blobs
 k:Rws sK 95 w B r.vk r.yk
 ke:r.yk.map (·.1)=s.keeps
 h:Rws sH 97 w B r.vh r.yh
 he:r.yh.map (·.1)=s.hints
 v:Rws sV 62 w B r.vv r.yv
 ve:r.yv.map (·.1)=s.votes
 d:Rws sD 73 w B r.vd r.yd
 de:r.yd.map (·.1)=s.decs
variable {w w':World} {B g:Nat} {s:Ste} {r:Rows9}
theorem StO.chg {Q:Nat->Prop}(h:StO w B g s r)(hc:Chg Q w w')(hq:∀k cs fz t,w.heap[k]? = some (.cells cs t fz)->(rowT t\/t=5\/t=47)->¬Q k):StO w' B g s r:=
 ⟨hc.blk h.blk (hq _ _ _ _ h.blk (Or.inr (Or.inr rfl))),h.lo,h.b.chg hc (fun k cs fz t hk ht=>hq k cs fz t hk (ht.elim (fun e=>Or.inl (by rw[e];unfold rowT;simp)) (fun e=>Or.inr (Or.inl e)))),h.be,h.k.chg hc (fun k cs fz t hk ht=>hq k cs fz t hk (ht.elim (fun e=>Or.inl (by rw[e];unfold rowT;simp)) (fun e=>Or.inr (Or.inl e)))),h.ke,h.h.chg hc (fun k cs fz t hk ht=>hq k cs fz t hk (ht.elim (fun e=>Or.inl (by rw[e];unfold rowT;simp)) (fun e=>Or.inr (Or.inl e)))),h.he,h.v.chg hc (fun k cs fz t hk ht=>hq k cs fz t hk (ht.elim (fun e=>Or.inl (by rw[e];unfold rowT;simp)) (fun e=>Or.inr (Or.inl e)))),h.ve,h.d.chg hc (fun k cs fz t hk ht=>hq k cs fz t hk (ht.elim (fun e=>Or.inl (by rw[e];unfold rowT;simp)) (fun e=>Or.inr (Or.inl e)))),h.de⟩
theorem StO.below (h:StO w B g s r)(hb:Below w.heap.size w w'):StO w' B g s r:=h.chg (Q:=fun _=>False) ⟨hb.os,hb.tape,hb.output,hb.size,fun k hk _=>hb.block k hk⟩ (fun _ _ _ _ _ _ e=>e)
theorem StO.setB {X:Nat->Prop}(h:StO w B g s r) {w1:World}(hX:∀k,X k->IsMapB w k)(hc:Chg (fun k=>r.vb.ownBlock=some k\/X k) w w1) {v':Value} {zs:List (Hd _)}(hr:Rws sB 93 w1 B v' zs):
 StO (w1.setCell ⟨g,2,none⟩ v') B g {s with blobs:=zs.map (·.1)} {r with vb:=v',yb:=zs}/\Chg (fun k=>Own9 w B g k\/X k) w (w1.setCell ⟨g,2,none⟩ v'):=by
 have hno:∀k cs fz t,w.heap[k]? = some (.cells cs t fz)->t≠93->¬(r.vb.ownBlock=some k\/X k):=by
  rintro k cs fz t hk ht (e | e)
  ·obtain⟨c2,f2,h2⟩:=RowTy.of h.b.own k e
   rw[hk]at h2;simp at h2;exact ht h2.2.1
  ·obtain⟨es,cl,h2⟩:=hX k e
   rw[hk]at h2;cases h2
 have hb1:Blk w1 g (ocells s r) 47:=hc.blk h.blk (hno _ _ _ _ h.blk (by decide))
 have hc2:Chg (fun k=>k=g) w1 (w1.setCell ⟨g,2,none⟩ v'):=by
  have h2:=setCells_grown w1 g 2 [v']
  exact(Chg.refl _ w1).grown h2 fun k hk _=>by cases hk;rfl
 have hn2:∀k cs fz t,w1.heap[k]? = some (.cells cs t fz)->t≠47->¬k=g:=by
  rintro k cs fz t hk ht rfl
  unfold Blk at hb1
  rw[hk]at hb1;simp at hb1;exact ht hb1.2.1
 refine⟨⟨hb1.set 2 v',h.lo,hr.chg hc2 (fun k cs fz t hk ht=>hn2 k cs fz t hk (by rcases ht with rfl | rfl<;>decide)),rfl,(h.k.chg hc (fun k cs fz t hk ht=>hno k cs fz t hk (by rcases ht with rfl | rfl<;>decide))).chg hc2 (fun k cs fz t hk ht=>hn2 k cs fz t hk (by rcases ht with rfl | rfl<;>decide)),h.ke,(h.h.chg hc (fun k cs fz t hk ht=>hno k cs fz t hk (by rcases ht with rfl | rfl<;>decide))).chg hc2 (fun k cs fz t hk ht=>hn2 k cs fz t hk (by rcases ht with rfl | rfl<;>decide)),h.he,(h.v.chg hc (fun k cs fz t hk ht=>hno k cs fz t hk (by rcases ht with rfl | rfl<;>decide))).chg hc2 (fun k cs fz t hk ht=>hn2 k cs fz t hk (by rcases ht with rfl | rfl<;>decide)),h.ve,(h.d.chg hc (fun k cs fz t hk ht=>hno k cs fz t hk (by rcases ht with rfl | rfl<;>decide))).chg hc2 (fun k cs fz t hk ht=>hn2 k cs fz t hk (by rcases ht with rfl | rfl<;>decide)),h.de⟩,⟨?_,?_,?_,?_,?_⟩⟩
 ·exact hc2.os.trans hc.os
 ·exact hc2.tape.trans hc.tape
 ·exact hc2.output.trans hc.output
 ·exact Nat.le_trans hc.size hc2.size
 ·intro k hk hn
  refine(hc2.block k (Nat.lt_of_lt_of_le hk hc.size) fun e=>hn (Or.inl (Or.inl e))).trans (hc.block k hk ?_)
  rintro(e | e)
  ·obtain⟨c2,f2,h2⟩:=RowTy.of h.b.own k e
   exact hn (Or.inl (Or.inr ⟨h.b.lo e,c2,_,f2,h2,by unfold rowT;simp⟩))
  ·exact hn (Or.inr e)
theorem StO.setK {X:Nat->Prop}(h:StO w B g s r) {w1:World}(hX:∀k,X k->IsMapB w k)(hc:Chg (fun k=>r.vk.ownBlock=some k\/X k) w w1) {v':Value} {zs:List (Hd _)}(hr:Rws sK 95 w1 B v' zs):
 StO (w1.setCell ⟨g,3,none⟩ v') B g {s with keeps:=zs.map (·.1)} {r with vk:=v',yk:=zs}/\Chg (fun k=>Own9 w B g k\/X k) w (w1.setCell ⟨g,3,none⟩ v'):=by
 have hno:∀k cs fz t,w.heap[k]? = some (.cells cs t fz)->t≠95->¬(r.vk.ownBlock=some k\/X k):=by
  rintro k cs fz t hk ht (e | e)
  ·obtain⟨c2,f2,h2⟩:=RowTy.of h.k.own k e
   rw[hk]at h2;simp at h2;exact ht h2.2.1
  ·obtain⟨es,cl,h2⟩:=hX k e
   rw[hk]at h2;cases h2
 have hb1:Blk w1 g (ocells s r) 47:=hc.blk h.blk (hno _ _ _ _ h.blk (by decide))
 have hc2:Chg (fun k=>k=g) w1 (w1.setCell ⟨g,3,none⟩ v'):=by
  have h2:=setCells_grown w1 g 3 [v']
  exact(Chg.refl _ w1).grown h2 fun k hk _=>by cases hk;rfl
 have hn2:∀k cs fz t,w1.heap[k]? = some (.cells cs t fz)->t≠47->¬k=g:=by
  rintro k cs fz t hk ht rfl
  unfold Blk at hb1
  rw[hk]at hb1;simp at hb1;exact ht hb1.2.1
 refine⟨⟨hb1.set 3 v',h.lo,(h.b.chg hc (fun k cs fz t hk ht=>hno k cs fz t hk (by rcases ht with rfl | rfl<;>decide))).chg hc2 (fun k cs fz t hk ht=>hn2 k cs fz t hk (by rcases ht with rfl | rfl<;>decide)),h.be,hr.chg hc2 (fun k cs fz t hk ht=>hn2 k cs fz t hk (by rcases ht with rfl | rfl<;>decide)),rfl,(h.h.chg hc (fun k cs fz t hk ht=>hno k cs fz t hk (by rcases ht with rfl | rfl<;>decide))).chg hc2 (fun k cs fz t hk ht=>hn2 k cs fz t hk (by rcases ht with rfl | rfl<;>decide)),h.he,(h.v.chg hc (fun k cs fz t hk ht=>hno k cs fz t hk (by rcases ht with rfl | rfl<;>decide))).chg hc2 (fun k cs fz t hk ht=>hn2 k cs fz t hk (by rcases ht with rfl | rfl<;>decide)),h.ve,(h.d.chg hc (fun k cs fz t hk ht=>hno k cs fz t hk (by rcases ht with rfl | rfl<;>decide))).chg hc2 (fun k cs fz t hk ht=>hn2 k cs fz t hk (by rcases ht with rfl | rfl<;>decide)),h.de⟩,⟨?_,?_,?_,?_,?_⟩⟩
 ·exact hc2.os.trans hc.os
 ·exact hc2.tape.trans hc.tape
 ·exact hc2.output.trans hc.output
 ·exact Nat.le_trans hc.size hc2.size
 ·intro k hk hn
  refine(hc2.block k (Nat.lt_of_lt_of_le hk hc.size) fun e=>hn (Or.inl (Or.inl e))).trans (hc.block k hk ?_)
  rintro(e | e)
  ·obtain⟨c2,f2,h2⟩:=RowTy.of h.k.own k e
   exact hn (Or.inl (Or.inr ⟨h.k.lo e,c2,_,f2,h2,by unfold rowT;simp⟩))
  ·exact hn (Or.inr e)
theorem StO.setH {X:Nat->Prop}(h:StO w B g s r) {w1:World}(hX:∀k,X k->IsMapB w k)(hc:Chg (fun k=>r.vh.ownBlock=some k\/X k) w w1) {v':Value} {zs:List (Hd _)}(hr:Rws sH 97 w1 B v' zs):
 StO (w1.setCell ⟨g,4,none⟩ v') B g {s with hints:=zs.map (·.1)} {r with vh:=v',yh:=zs}/\Chg (fun k=>Own9 w B g k\/X k) w (w1.setCell ⟨g,4,none⟩ v'):=by
 have hno:∀k cs fz t,w.heap[k]? = some (.cells cs t fz)->t≠97->¬(r.vh.ownBlock=some k\/X k):=by
  rintro k cs fz t hk ht (e | e)
  ·obtain⟨c2,f2,h2⟩:=RowTy.of h.h.own k e
   rw[hk]at h2;simp at h2;exact ht h2.2.1
  ·obtain⟨es,cl,h2⟩:=hX k e
   rw[hk]at h2;cases h2
 have hb1:Blk w1 g (ocells s r) 47:=hc.blk h.blk (hno _ _ _ _ h.blk (by decide))
 have hc2:Chg (fun k=>k=g) w1 (w1.setCell ⟨g,4,none⟩ v'):=by
  have h2:=setCells_grown w1 g 4 [v']
  exact(Chg.refl _ w1).grown h2 fun k hk _=>by cases hk;rfl
 have hn2:∀k cs fz t,w1.heap[k]? = some (.cells cs t fz)->t≠47->¬k=g:=by
  rintro k cs fz t hk ht rfl
  unfold Blk at hb1
  rw[hk]at hb1;simp at hb1;exact ht hb1.2.1
 refine⟨⟨hb1.set 4 v',h.lo,(h.b.chg hc (fun k cs fz t hk ht=>hno k cs fz t hk (by rcases ht with rfl | rfl<;>decide))).chg hc2 (fun k cs fz t hk ht=>hn2 k cs fz t hk (by rcases ht with rfl | rfl<;>decide)),h.be,(h.k.chg hc (fun k cs fz t hk ht=>hno k cs fz t hk (by rcases ht with rfl | rfl<;>decide))).chg hc2 (fun k cs fz t hk ht=>hn2 k cs fz t hk (by rcases ht with rfl | rfl<;>decide)),h.ke,hr.chg hc2 (fun k cs fz t hk ht=>hn2 k cs fz t hk (by rcases ht with rfl | rfl<;>decide)),rfl,(h.v.chg hc (fun k cs fz t hk ht=>hno k cs fz t hk (by rcases ht with rfl | rfl<;>decide))).chg hc2 (fun k cs fz t hk ht=>hn2 k cs fz t hk (by rcases ht with rfl | rfl<;>decide)),h.ve,(h.d.chg hc (fun k cs fz t hk ht=>hno k cs fz t hk (by rcases ht with rfl | rfl<;>decide))).chg hc2 (fun k cs fz t hk ht=>hn2 k cs fz t hk (by rcases ht with rfl | rfl<;>decide)),h.de⟩,⟨?_,?_,?_,?_,?_⟩⟩
 ·exact hc2.os.trans hc.os
 ·exact hc2.tape.trans hc.tape
 ·exact hc2.output.trans hc.output
 ·exact Nat.le_trans hc.size hc2.size
 ·intro k hk hn
  refine(hc2.block k (Nat.lt_of_lt_of_le hk hc.size) fun e=>hn (Or.inl (Or.inl e))).trans (hc.block k hk ?_)
  rintro(e | e)
  ·obtain⟨c2,f2,h2⟩:=RowTy.of h.h.own k e
   exact hn (Or.inl (Or.inr ⟨h.h.lo e,c2,_,f2,h2,by unfold rowT;simp⟩))
  ·exact hn (Or.inr e)
theorem StO.setV {X:Nat->Prop}(h:StO w B g s r) {w1:World}(hX:∀k,X k->IsMapB w k)(hc:Chg (fun k=>r.vv.ownBlock=some k\/X k) w w1) {v':Value} {zs:List (Hd _)}(hr:Rws sV 62 w1 B v' zs):
 StO (w1.setCell ⟨g,5,none⟩ v') B g {s with votes:=zs.map (·.1)} {r with vv:=v',yv:=zs}/\Chg (fun k=>Own9 w B g k\/X k) w (w1.setCell ⟨g,5,none⟩ v'):=by
 have hno:∀k cs fz t,w.heap[k]? = some (.cells cs t fz)->t≠62->¬(r.vv.ownBlock=some k\/X k):=by
  rintro k cs fz t hk ht (e | e)
  ·obtain⟨c2,f2,h2⟩:=RowTy.of h.v.own k e
   rw[hk]at h2;simp at h2;exact ht h2.2.1
  ·obtain⟨es,cl,h2⟩:=hX k e
   rw[hk]at h2;cases h2
 have hb1:Blk w1 g (ocells s r) 47:=hc.blk h.blk (hno _ _ _ _ h.blk (by decide))
 have hc2:Chg (fun k=>k=g) w1 (w1.setCell ⟨g,5,none⟩ v'):=by
  have h2:=setCells_grown w1 g 5 [v']
  exact(Chg.refl _ w1).grown h2 fun k hk _=>by cases hk;rfl
 have hn2:∀k cs fz t,w1.heap[k]? = some (.cells cs t fz)->t≠47->¬k=g:=by
  rintro k cs fz t hk ht rfl
  unfold Blk at hb1
  rw[hk]at hb1;simp at hb1;exact ht hb1.2.1
 refine⟨⟨hb1.set 5 v',h.lo,(h.b.chg hc (fun k cs fz t hk ht=>hno k cs fz t hk (by rcases ht with rfl | rfl<;>decide))).chg hc2 (fun k cs fz t hk ht=>hn2 k cs fz t hk (by rcases ht with rfl | rfl<;>decide)),h.be,(h.k.chg hc (fun k cs fz t hk ht=>hno k cs fz t hk (by rcases ht with rfl | rfl<;>decide))).chg hc2 (fun k cs fz t hk ht=>hn2 k cs fz t hk (by rcases ht with rfl | rfl<;>decide)),h.ke,(h.h.chg hc (fun k cs fz t hk ht=>hno k cs fz t hk (by rcases ht with rfl | rfl<;>decide))).chg hc2 (fun k cs fz t hk ht=>hn2 k cs fz t hk (by rcases ht with rfl | rfl<;>decide)),h.he,hr.chg hc2 (fun k cs fz t hk ht=>hn2 k cs fz t hk (by rcases ht with rfl | rfl<;>decide)),rfl,(h.d.chg hc (fun k cs fz t hk ht=>hno k cs fz t hk (by rcases ht with rfl | rfl<;>decide))).chg hc2 (fun k cs fz t hk ht=>hn2 k cs fz t hk (by rcases ht with rfl | rfl<;>decide)),h.de⟩,⟨?_,?_,?_,?_,?_⟩⟩
 ·exact hc2.os.trans hc.os
 ·exact hc2.tape.trans hc.tape
 ·exact hc2.output.trans hc.output
 ·exact Nat.le_trans hc.size hc2.size
 ·intro k hk hn
  refine(hc2.block k (Nat.lt_of_lt_of_le hk hc.size) fun e=>hn (Or.inl (Or.inl e))).trans (hc.block k hk ?_)
  rintro(e | e)
  ·obtain⟨c2,f2,h2⟩:=RowTy.of h.v.own k e
   exact hn (Or.inl (Or.inr ⟨h.v.lo e,c2,_,f2,h2,by unfold rowT;simp⟩))
  ·exact hn (Or.inr e)
theorem StO.setD {X:Nat->Prop}(h:StO w B g s r) {w1:World}(hX:∀k,X k->IsMapB w k)(hc:Chg (fun k=>r.vd.ownBlock=some k\/X k) w w1) {v':Value} {zs:List (Hd _)}(hr:Rws sD 73 w1 B v' zs):
 StO (w1.setCell ⟨g,6,none⟩ v') B g {s with decs:=zs.map (·.1)} {r with vd:=v',yd:=zs}/\Chg (fun k=>Own9 w B g k\/X k) w (w1.setCell ⟨g,6,none⟩ v'):=by
 have hno:∀k cs fz t,w.heap[k]? = some (.cells cs t fz)->t≠73->¬(r.vd.ownBlock=some k\/X k):=by
  rintro k cs fz t hk ht (e | e)
  ·obtain⟨c2,f2,h2⟩:=RowTy.of h.d.own k e
   rw[hk]at h2;simp at h2;exact ht h2.2.1
  ·obtain⟨es,cl,h2⟩:=hX k e
   rw[hk]at h2;cases h2
 have hb1:Blk w1 g (ocells s r) 47:=hc.blk h.blk (hno _ _ _ _ h.blk (by decide))
 have hc2:Chg (fun k=>k=g) w1 (w1.setCell ⟨g,6,none⟩ v'):=by
  have h2:=setCells_grown w1 g 6 [v']
  exact(Chg.refl _ w1).grown h2 fun k hk _=>by cases hk;rfl
 have hn2:∀k cs fz t,w1.heap[k]? = some (.cells cs t fz)->t≠47->¬k=g:=by
  rintro k cs fz t hk ht rfl
  unfold Blk at hb1
  rw[hk]at hb1;simp at hb1;exact ht hb1.2.1
 refine⟨⟨hb1.set 6 v',h.lo,(h.b.chg hc (fun k cs fz t hk ht=>hno k cs fz t hk (by rcases ht with rfl | rfl<;>decide))).chg hc2 (fun k cs fz t hk ht=>hn2 k cs fz t hk (by rcases ht with rfl | rfl<;>decide)),h.be,(h.k.chg hc (fun k cs fz t hk ht=>hno k cs fz t hk (by rcases ht with rfl | rfl<;>decide))).chg hc2 (fun k cs fz t hk ht=>hn2 k cs fz t hk (by rcases ht with rfl | rfl<;>decide)),h.ke,(h.h.chg hc (fun k cs fz t hk ht=>hno k cs fz t hk (by rcases ht with rfl | rfl<;>decide))).chg hc2 (fun k cs fz t hk ht=>hn2 k cs fz t hk (by rcases ht with rfl | rfl<;>decide)),h.he,(h.v.chg hc (fun k cs fz t hk ht=>hno k cs fz t hk (by rcases ht with rfl | rfl<;>decide))).chg hc2 (fun k cs fz t hk ht=>hn2 k cs fz t hk (by rcases ht with rfl | rfl<;>decide)),h.ve,hr.chg hc2 (fun k cs fz t hk ht=>hn2 k cs fz t hk (by rcases ht with rfl | rfl<;>decide)),rfl⟩,⟨?_,?_,?_,?_,?_⟩⟩
 ·exact hc2.os.trans hc.os
 ·exact hc2.tape.trans hc.tape
 ·exact hc2.output.trans hc.output
 ·exact Nat.le_trans hc.size hc2.size
 ·intro k hk hn
  refine(hc2.block k (Nat.lt_of_lt_of_le hk hc.size) fun e=>hn (Or.inl (Or.inl e))).trans (hc.block k hk ?_)
  rintro(e | e)
  ·obtain⟨c2,f2,h2⟩:=RowTy.of h.d.own k e
   exact hn (Or.inl (Or.inr ⟨h.d.lo e,c2,_,f2,h2,by unfold rowT;simp⟩))
  ·exact hn (Or.inr e)
end
section
open Go.RowKit Sha Fct
attribute [local go_sem ↓] execOp_loadId execOp_loadOK execOp_allocOK execOp_storeOK execOp_loadOH execOp_allocOH execOp_storeOH
def goesB (S:List Fct.Id)(x:Fct.Id×List Int):Bool:=decide (x.1∈S)
theorem prdB (gb mb:Nat)(S:List Fct.Id)(ys:List (Hd (Fct.Id×List Int)))(hok:∀y∈ys,sB.ok y.1):PrdB mb (.pointer (some ⟨gb,0,none⟩)) (goesB S) ys (fun w _=>Takn w mb S/\Blk w gb [.map (some mb)] 215) where
 call w k hk h:=(rl1_any _ _ _ (hok _ (List.getElem_mem hk)) gb mb S w h.2 h.1).mono (by
  rintro e w' ⟨rfl,hb⟩
  exact⟨rfl,⟨h.1.below hb,h.2.below hb h.2.lt⟩,below_grown hb _⟩)
 stays w w' k row h hg hr:=⟨h.1.grown hg hr,blk_grown h.2 hg fun e=>by
  obtain⟨cs,fz,h2⟩:=hr gb e
  have h3:=h.2
  unfold Blk at h3
  rw[h2]at h3;simp at h3⟩
 map w k h:=h.1.isMap
def RelP (s:Ste)(S:List Fct.Id):Ste:={s with blobs:=s.blobs.filter fun x=>!decide (x.1∈S) || needed s.keeps s.hints x.1}
def StOP (B g:Nat)(X:Nat->Prop)(t:Ste)(w:World)(e:Ending)(w':World):Prop:=e= .returned (.tuple #[])/\∃r',StO w' B g t r'/\Chg (fun k=>Own9 w B g k\/X k) w w'
theorem chg_map {w w':World} {B g mb:Nat} {s:Ste} {r:Rows9}(h:StO w B g s r)(hc:Chg (fun k=>k=mb) w w')(hm:IsMapB w mb):StO w' B g s r:=h.chg hc fun k cs fz t hk _ e=>by
 obtain⟨es,c,h2⟩:=hm
 subst e
 rw[h2]at hk;cases hk
theorem release_any (w:World)(B g mb:Nat)(s:Ste)(r:Rows9)(S:List Fct.Id)(h:StO w B g s r)(hT:Takn w mb S)(hn:r.yb.length<=1000000000)(hn1:r.yk.length<=1000000000)(hn2:r.yh.length<=1000000000):
 Calls Tryz.prog 158 #[.pointer (some ⟨g,0,none⟩),.map (some mb)] w (StOP B g (fun k=>k=mb) (RelP s S) w):=by
 obtain⟨pk,ck,hvk,_⟩:=h.k.told
 obtain⟨ph,ch,hvh,_⟩:=h.h.told
 obtain⟨pb,cb,hvb,_⟩:=h.b.told
 obtain⟨nk,hnk⟩:∃n,n=r.yk.length:=⟨_,rfl⟩
 obtain⟨nh,hnh⟩:∃n,n=r.yh.length:=⟨_,rfl⟩
 rw[<-hnk]at hvk hn1
 rw[<-hnh]at hvh hn2
 -- the map in a box
 have hbx:=(Below.refl w.heap.size w).alloc (Nat.le_refl _) (.cells #[.map (some mb)] 215)
 have hk1:Blk (w.alloc (.cells #[.map (some mb)] 215)) w.heap.size [.map (some mb)] 215:=Blk.new w _ _
 have HS:=Lib.hid (h.below hbx)
 have HT:=Lib.hid (hT.below hbx)
 have HC:=Lib.hid (show Chg (fun k=>k=mb) w (w.alloc (.cells #[.map (some mb)] 215))from(Chg.refl _ w).grown (below_grown hbx none) fun k hk=>by cases hk)
 have HH:=Lib.hid h
 have HM:=Lib.hid hT.isMap
 have HNK:=Lib.hid hnk
 have HNH:=Lib.hid hnh
 have HVK:=Lib.hid hvk
 have HVH:=Lib.hid hvh
 have HVB:=Lib.hid hvb
 have HN:=Lib.hid hn
 have cK:(w.alloc (.cells #[.map (some mb)] 215)).cell? ⟨g,3,none⟩=some (.slice pk nk ck):=by rw[HS.out.blk.cell 3,<-hvk];rfl
 have HKB:=Lib.hid hk1
 clear h hT hnk hnh hvk hvh hvb hk1 hbx hn
 go_enter Tryz.func158,Tryz.ntmps158
 go_wp2_with fail
 obtain⟨g3,hg3⟩:∃b,b=w.heap.size:=⟨_,rfl⟩
 rw[<-hg3]at HKB ⊢
 clear hg3 cK
 generalize w.alloc (.cells #[.map (some mb)] 215)=w1 at *
 go_loopw [13] (fun i wr=>∃(a:Nat) (Sa:List Fct.Id),i= .int .i64 a/\a<=nk/\Hid (Takn wr mb Sa)/\Hid (∀d,d∈Sa↔(d∈S/\∀x∈(r.yk.map (·.1)).take a,x.2≠d))/\Hid (Chg (fun k=>k=mb) w wr)/\Hid (Blk wr g3 [.map (some mb)] 215)) (fun i _=>nk - (intOf i).toNat)
 case atStart=>exact⟨0,S,rfl,by omega,HT,Lib.hid (by intro d;simp),HC,HKB⟩
 case round=>
  obtain⟨a,Sa,rfl,ha,HTA,HSA,HCA,HKA⟩:=hrel
  have HSO:=Lib.hid (chg_map HH.out HCA.out HM.out)
  by_cases han:a < nk
  ·have hay:a < r.yk.length:=by rw[<-HNK.out];exact han
   obtain⟨gk,c2,hv,hr⟩:=HSO.out.k.el a hay
   rw[HVK.out]at hv
   have hv2:pk=some ⟨gk,0,none⟩:=by injection hv
   subst hv2
   have hoky:=HSO.out.k.ok _ (List.getElem_mem hay)
   have hta:(r.yk.map (·.1)).take (a+1)=(r.yk.map (·.1)).take a++[r.yk[a].1]:=by
    rw[List.take_succ_eq_append_getElem (by simpa using hay)];simp
   have HTK:=Lib.hid hta
   generalize r.yk[a] = y at *
   have hr2:wr.rangeAt gk (a*33) (kcells y.1 y.2.1 y.2.2):=hr
   have l1:=load_OK hoky hr2
   have al:=alloc_OK wr
   have sN:=storeN_OK wr hoky y.2.1 y.2.2
   have hbk:Blk (wr.alloc (.cells (kcells y.1 y.2.1 y.2.2).toArray 95)) wr.heap.size (kcells y.1 y.2.1 y.2.2) 95:=Blk.new wr _ 95
   have hb2:=(Below.refl wr.heap.size wr).alloc (Nat.le_refl _) (.cells (kcells y.1 y.2.1 y.2.2).toArray 95)
   have HT2:=Lib.hid (HTA.out.below hb2)
   have HC2:=Lib.hid (HCA.out.grown (below_grown hb2 none) fun k hk=>by cases hk)
   have hk2:=HKA.out.below hb2 HKA.out.lt
   have HK2:=Lib.hid hk2
   obtain⟨b0,hb0⟩:∃b,b=wr.heap.size:=⟨_,rfl⟩
   rw[<-hb0]at al sN hbk
   have c2':=hk2.cell 0
   have hd:=hoky.2
   clear hb0 hr hr2 hv hb2 hk2 hta HTA HCA HKA
   generalize wr.alloc (.cells (kcells (0,Fld.zero32) none 0).toArray 95)=w2 at *
   generalize wr.alloc (.cells (kcells y.1 y.2.1 y.2.2).toArray 95)=w3 at *
   rw[kcells_id]at hbk
   have l2:=load_idr (g:=b0) (o:=1) hoky.2.1 (range_mid hbk rfl)
   clear hbk
   have c3:w3.cell? ⟨g3,0,none⟩=some (.map (some mb)):=c2'
   clear c2'
   obtain⟨w4,dl,hT4,hg4⟩:=HT2.out.drop hd
   have HT4:=Lib.hid hT4
   have HC4:=Lib.hid (HC2.out.grown hg4 fun k hk _=>by cases hk;rfl)
   have HK4:=Lib.hid (blk_grown HK2.out hg4 fun e=>isMap_ne HT2.out.isMap HK2.out (by cases e;rfl))
   have hjn2:(0:Int)<=(a:Int)/\(a:Int) < (nk:Int):=by omega
   have HYD:=Lib.hid (⟨y,rfl⟩:∃z,z=y)
   clear hT4 hg4 hd hoky
   go_wp2_with (at_builtin;refine delete_law _ rfl (.tmp 17) (.tmp 19) 215 25 rfl _ _ rfl rfl (dl _) ?_)
   go_roundw
   case rel=>
    refine⟨a+1,_,by go_num,by omega,HT4,Lib.hid fun d=>?_,HC4,HK4⟩
    rw[HTK.out,List.mem_filter,HSA.out d]
    simp only[List.mem_append,List.mem_singleton,Bool.not_eq_true',decide_eq_false_iff_not]
    constructor
    ·rintro⟨⟨h1,h2⟩,h3⟩
     refine⟨h1,?_⟩
     rintro x (hx | rfl)
     ·exact h2 x hx
     ·exact fun e=>h3 e.symm
    ·rintro⟨h1,h2⟩
     exact⟨⟨h1,fun x hx=>h2 x (Or.inl hx)⟩,fun e=>h2 _ (Or.inr rfl) e.symm⟩
   case measure=>simp[intOf];omega
  ·obtain rfl:a=nk:=by omega
   have hall:(r.yk.map (·.1)).take a=s.keeps:=by rw[List.take_of_length_le (by rw[List.length_map,HNK.out];omega)];exact HH.out.ke
   rw[hall]at HSA
   have cH:wr.cell? ⟨g,4,none⟩=some (.slice ph nh ch):=by rw[HSO.out.blk.cell 4,<-HVH.out];rfl
   clear hall
   go_wp2_with fail
   clear cH
   go_loopw [26] (fun i wr=>∃(a2:Nat) (Sb:List Fct.Id),i= .int .i64 a2/\a2<=nh/\Hid (Takn wr mb Sb)/\Hid (∀d,d∈Sb↔(d∈Sa/\∀x∈(r.yh.map (·.1)).take a2,x.2.2≠d))/\Hid (Chg (fun k=>k=mb) w wr)/\Hid (Blk wr g3 [.map (some mb)] 215)) (fun i _=>nh - (intOf i).toNat)
   case atStart=>exact⟨0,Sa,rfl,by omega,HTA,Lib.hid (by intro d;simp),HCA,HKA⟩
   case round=>
    clear HTA HCA HKA HSO
    obtain⟨a2,Sb,rfl,ha2,HTA,HSB,HCA,HKA⟩:=hrel
    have HSO:=Lib.hid (chg_map HH.out HCA.out HM.out)
    by_cases han:a2 < nh
    ·have hay:a2 < r.yh.length:=by rw[<-HNH.out];exact han
     obtain⟨gk,c2,hv,hr⟩:=HSO.out.h.el a2 hay
     rw[HVH.out]at hv
     have hv2:ph=some ⟨gk,0,none⟩:=by injection hv
     subst hv2
     have hoky:=HSO.out.h.ok _ (List.getElem_mem hay)
     have hta:(r.yh.map (·.1)).take (a2+1)=(r.yh.map (·.1)).take a2++[r.yh[a2].1]:=by
      rw[List.take_succ_eq_append_getElem (by simpa using hay)];simp
     have HTK:=Lib.hid hta
     generalize r.yh[a2] = y at *
     have hr2:wr.rangeAt gk (a2*34) (hcells y.1 y.2.1 y.2.2):=hr
     have l1:=load_OH hoky hr2
     have al:=alloc_OH wr
     have sN:=storeN_OH wr hoky y.2.1 y.2.2
     have hbk:Blk (wr.alloc (.cells (hcells y.1 y.2.1 y.2.2).toArray 97)) wr.heap.size (hcells y.1 y.2.1 y.2.2) 97:=Blk.new wr _ 97
     have hb2:=(Below.refl wr.heap.size wr).alloc (Nat.le_refl _) (.cells (hcells y.1 y.2.1 y.2.2).toArray 97)
     have HT2:=Lib.hid (HTA.out.below hb2)
     have HC2:=Lib.hid (HCA.out.grown (below_grown hb2 none) fun k hk=>by cases hk)
     have hk2:=HKA.out.below hb2 HKA.out.lt
     have HK2:=Lib.hid hk2
     obtain⟨b0,hb0⟩:∃b,b=wr.heap.size:=⟨_,rfl⟩
     rw[<-hb0]at al sN hbk
     have c2':=hk2.cell 0
     have hd:=hoky.2.2
     clear hb0 hr hr2 hv hb2 hk2 hta HTA HCA HKA
     generalize wr.alloc (.cells (hcells (0,0,Fld.zero32) none 0).toArray 97)=w2 at *
     generalize wr.alloc (.cells (hcells y.1 y.2.1 y.2.2).toArray 97)=w3 at *
     rw[hcells_id]at hbk
     have l2:=load_idr (g:=b0) (o:=2) hoky.2.2.1 (range_mid hbk rfl)
     clear hbk
     have c3:w3.cell? ⟨g3,0,none⟩=some (.map (some mb)):=c2'
     clear c2'
     obtain⟨w4,dl,hT4,hg4⟩:=HT2.out.drop hd
     have HT4:=Lib.hid hT4
     have HC4:=Lib.hid (HC2.out.grown hg4 fun k hk _=>by cases hk;rfl)
     have HK4:=Lib.hid (blk_grown HK2.out hg4 fun e=>isMap_ne HT2.out.isMap HK2.out (by cases e;rfl))
     have hjn2:(0:Int)<=(a2:Int)/\(a2:Int) < (nh:Int):=by omega
     have HYD:=Lib.hid (⟨y,rfl⟩:∃z,z=y)
     clear hT4 hg4 hd hoky
     go_wp2_with (at_builtin;refine delete_law _ rfl (.tmp 30) (.tmp 32) 215 25 rfl _ _ rfl rfl (dl _) ?_)
     go_roundw
     case rel=>
      refine⟨a2+1,_,by go_num,by omega,HT4,Lib.hid fun d=>?_,HC4,HK4⟩
      rw[HTK.out,List.mem_filter,HSB.out d]
      simp only[List.mem_append,List.mem_singleton,Bool.not_eq_true',decide_eq_false_iff_not]
      constructor
      ·rintro⟨⟨h1,h2⟩,h3⟩
       refine⟨h1,?_⟩
       rintro x (hx | rfl)
       ·exact h2 x hx
       ·exact fun e=>h3 e.symm
      ·rintro⟨h1,h2⟩
       exact⟨⟨h1,fun x hx=>h2 x (Or.inl hx)⟩,fun e=>h2 _ (Or.inr rfl) e.symm⟩
     case measure=>simp[intOf];omega
    ·obtain rfl:a2=nh:=by omega
     have hall2:(r.yh.map (·.1)).take a2=s.hints:=by rw[List.take_of_length_le (by rw[List.length_map,HNH.out];omega)];exact HH.out.he
     rw[hall2]at HSB
     have hfl:(r.yb.filter fun y=>!goesB Sb y.1).map (·.1)=(RelP s S).blobs:=by
      show _=s.blobs.filter _
      rw[<-HH.out.be,List.filter_map]
      congr 1
      refine List.filter_congr fun y _=>?_
      have h1:=HSA.out y.1.1
      have h2:=HSB.out y.1.1
      rw[h1]at h2
      unfold goesB needed
      simp only[Function.comp]
      rw[Bool.eq_iff_iff]
      simp only[Bool.not_eq_true',decide_eq_false_iff_not,Bool.or_eq_true,List.any_eq_true,decide_eq_true_eq,h2]
      constructor
      ·intro h3
       rcases Classical.em (y.1.1∈S)with h4 | h4
       ·rcases Classical.em (∃x∈s.keeps,x.2=y.1.1)with h5 | h5
        ·exact Or.inr (Or.inl h5)
        ·rcases Classical.em (∃x∈s.hints,x.2.2=y.1.1)with h6 | h6
         ·exact Or.inr (Or.inr h6)
         ·exact absurd ⟨⟨h4,fun x hx e=>h5 ⟨x,hx,e⟩⟩,fun x hx e=>h6 ⟨x,hx,e⟩⟩ h3
       ·exact Or.inl h4
      ·rintro(h3 | ⟨x,hx,e⟩ | ⟨x,hx,e⟩) ⟨⟨h4,h5⟩,h6⟩
       ·exact h3 h4
       ·exact h5 x hx e
       ·exact h6 x hx e
     have HFL:=Lib.hid hfl
     have cB:wr.cell? ⟨g,2,none⟩=some (.slice pb r.yb.length cb):=by rw[HSO.out.blk.cell 2,<-HVB.out];rfl
     have hrb:=HSO.out.b
     rw[HVB.out]at hrb
     have HDL:=Lib.hid (del_B mb (.pointer (some ⟨g3,0,none⟩)) (goesB Sb) r.yb (fun w _=>Takn w mb Sb/\Blk w g3 [.map (some mb)] 215) (prdB g3 mb Sb r.yb HSO.out.b.ok) wr B (.slice pb r.yb.length cb) hrb ⟨HTA.out,HKA.out⟩ HN.out)
     obtain⟨nb,hnb⟩:∃n,n=r.yb.length:=⟨_,rfl⟩
     rw[<-hnb]at cB HDL
     have HNB:=Lib.hid hnb
     clear hall2 hfl hrb hnb
     go_wp2_with fail
     refine HDL.out.mono ?_
     rintro e w5 ⟨v',rfl,hr5,hi5,hc5⟩
     have hc6:Chg (fun k=>r.vb.ownBlock=some k\/k=mb) wr w5:=by rw[HVB.out,<-HNB.out];exact hc5
     have hm:∀k,k=mb->IsMapB wr k:=fun k e=>by rw[e];exact HTA.out.isMap
     obtain⟨hs6,hk6⟩:=HSO.out.setB (X:=fun k=>k=mb) hm hc6 hr5
     have hb5:Blk w5 g (ocells s r) 47:=by
      refine hc6.blk HSO.out.blk ?_
      rintro(e | e)
      ·obtain⟨c2,f2,h2⟩:=RowTy.of HSO.out.b.own g e
       have h3:=HSO.out.blk
       unfold Blk at h3
       rw[h3]at h2;simp at h2
      ·exact isMap_ne HTA.out.isMap HSO.out.blk e.symm
     have c5:w5.cell? ⟨g,2,none⟩=some r.vb:=hb5.cell 2
     obtain⟨q5,d5,rfl,_⟩:=hr5.told
     generalize(r.yb.filter fun y=>!goesB Sb y.1).length=n5 at *
     have f5:=hb5.free 2
     have HS6:=Lib.hid hs6
     have HK6:=Lib.hid hk6
     clear hs6 hk6 hb5 hc6 hm hr5 hi5 hc5
     go_wp2_with fail
     go_end0
     have hs:=HS6.out
     rw[HFL.out]at hs
     exact⟨rfl,_,hs,chg9_trans (HCA.out.mono fun k _ hk=>Or.inr hk) HK6.out⟩
end
section
open Go.RowKit Sha Fct
theorem run_store_fn {P:Program}(w:World)(a:Addr)(m:Mode)(fn:Fn)(x y:Array Value):(store a (.func fn x y) m).run P w=stored P w a (.func fn x y) m:=run_store P w a _ m rfl
attribute [local go_sem ↓] execOp_boxFact
attribute [local go_sem] run_store_fn
theorem setCell_grown (w:World)(g o:Nat)(v:Value):w.grownBy (w.setCell ⟨g,o,none⟩ v) (some g):=setCells_grown w g o [v]
def takeK (f:Fac)(x:Int×Fct.Id):Bool:=decide (x.1=f.S)
def takeH (f:Fac)(x:Int×Int×Fct.Id):Bool:=decide (x.2.1=f.S)
def IT (f:Fac)(q:Option Addr)(c gt gf gm mb:Nat)(S0:List Fct.Id)(ps:List (Int×Fct.Id))(w:World)(k:Nat):Prop:=
 ∃S,Takn w mb S/\TkB w f q c gt gf gm mb/\∀d,d∈S↔(d∈S0\/∃p∈ps.take k,p.1=f.S/\p.2=d)
section
variable {f:Fac} {q:Option Addr} {c gt gf gm mb:Nat} {S0:List Fct.Id} {ps:List (Int×Fct.Id)} {w w':World} {k:Nat}
theorem IT.step {S:List Fct.Id}(hb:TkB w f q c gt gf gm mb)(hm:IsMapB w mb)(hs:∀d,d∈S↔(d∈S0\/∃p∈ps.take k,p.1=f.S/\p.2=d))(hk:k < ps.length)(hg:w.grownBy w' (some mb))(hT:Takn w' mb (tk1 f ps[k].1 ps[k].2 S)):IT f q c gt gf gm mb S0 ps w' (k+1):=by
 refine⟨_,hT,hb.grown hg (fun j cs t e hj=>absurd (by cases e;rfl) (isMap_ne hm hj)),fun d=>?_⟩
 rw[List.take_succ_eq_append_getElem hk]
 unfold tk1
 split
 ·rename_i h
  rw[mem_more1,hs d]
  simp only[List.mem_append,List.mem_singleton]
  constructor
  ·rintro((h1 | ⟨p,h1,h2⟩) | h1)
   ·exact Or.inl h1
   ·exact Or.inr ⟨p,Or.inl h1,h2⟩
   ·exact Or.inr ⟨_,Or.inr rfl,h,h1.symm⟩
  ·rintro(h1 | ⟨p,h1 | rfl,h2⟩)
   ·exact Or.inl (Or.inl h1)
   ·exact Or.inl (Or.inr ⟨p,h1,h2⟩)
   ·exact Or.inr h2.2.symm
 ·rename_i h
  rw[hs d]
  simp only[List.mem_append,List.mem_singleton]
  constructor
  ·rintro(h1 | ⟨p,h1,h2⟩)
   ·exact Or.inl h1
   ·exact Or.inr ⟨p,Or.inl h1,h2⟩
  ·rintro(h1 | ⟨p,h1 | rfl,h2⟩)
   ·exact Or.inl h1
   ·exact Or.inr ⟨p,h1,h2⟩
   ·exact absurd h2.1 h
theorem IT.stays {row:Option Nat} {t:TypeId}(h:IT f q c gt gf gm mb S0 ps w k)(hg:w.grownBy w' row)(hr:RowTy w row t)(ht:t≠221/\t≠28/\t≠215):IT f q c gt gf gm mb S0 ps w' k:=by
 obtain⟨S,h1,h2,h3⟩:=h
 refine⟨S,h1.grown hg hr,h2.grown hg fun j cs t' e hj=>?_,h3⟩
 obtain⟨c2,f2,h4⟩:=hr j e
 unfold Blk at hj
 rw[hj]at h4;simp at h4
 obtain rfl:=h4.2.1
 exact ht
theorem IT.map (h:IT f q c gt gf gm mb S0 ps w k):IsMapB w mb:=by
 obtain⟨S,h1,_⟩:=h
 exact h1.isMap
end
theorem prdK (f:Fac)(q:Option Addr)(c gt gf gm mb:Nat)(S0:List Fct.Id)(ys:List (Hd (Int×Fct.Id)))(hok:∀y∈ys,sK.ok y.1):PrdK mb (.pointer (some ⟨gt,0,none⟩)) (takeK f) ys (IT f q c gt gf gm mb S0 (ys.map (·.1))) where
 call w k hk h:=by
  obtain⟨S,h1,h2,h3⟩:=h
  refine(tk2_any _ _ _ (hok _ (List.getElem_mem hk)) f q c gt gf gm mb S w h2 h1).mono ?_
  rintro e w' ⟨rfl,hT,hg⟩
  exact⟨rfl,IT.step h2 h1.isMap h3 (by simpa using hk) hg (by simpa using hT),hg⟩
 stays w w' k row h hg hr:=h.stays hg hr (by decide)
 map w k h:=h.map
theorem prdH (f:Fac)(q:Option Addr)(c gt gf gm mb:Nat)(S0:List Fct.Id)(ys:List (Hd (Int×Int×Fct.Id)))(hok:∀y∈ys,sH.ok y.1):PrdH mb (.pointer (some ⟨gt,0,none⟩)) (takeH f) ys (IT f q c gt gf gm mb S0 (ys.map fun y=>(y.1.2.1,y.1.2.2))) where
 call w k hk h:=by
  obtain⟨S,h1,h2,h3⟩:=h
  refine(tk3_any _ _ _ (hok _ (List.getElem_mem hk)) f q c gt gf gm mb S w h2 h1).mono ?_
  rintro e w' ⟨rfl,hT,hg⟩
  exact⟨rfl,IT.step h2 h1.isMap h3 (by simpa using hk) hg (by simpa using hT),hg⟩
 stays w w' k row h hg hr:=h.stays hg hr (by decide)
 map w k h:=h.map
theorem blk_state {w w':World} {B g mb:Nat} {s:Ste} {r:Rows9} {row:Option Nat} {t:TypeId}(h:StO w B g s r)(hc:Chg (fun k=>row=some k\/k=mb) w w')(hr:RowTy w row t)(ht:rowT t)(hm:IsMapB w mb):Blk w' g (ocells s r) 47:=by
 refine hc.blk h.blk ?_
 rintro(e | e)
 ·obtain⟨c2,f2,h2⟩:=hr g e
  have h3:=h.blk
  unfold Blk at h3
  rw[h3]at h2;simp at h2
  exact(rowT_ne ht).2 h2.2.1.symm
 ·exact isMap_ne hm h.blk e.symm
theorem drop_any (w:World)(B g:Nat)(s:Ste)(r:Rows9)(f:Fac)(q:Option Addr)(c:Nat)(h:StO w B g s r)(hf:f.K=10)(hn:r.yb.length<=1000000000)(hn1:r.yk.length<=1000000000)(hn2:r.yh.length<=1000000000):
 Calls Tryz.prog 135 #[.pointer (some ⟨g,0,none⟩),.agg (fcells f q c).toArray] w (StOP B g (fun _=>False) (s.less f) w):=by
 have bx:=run_boxOp (P:=Tryz.prog) (t:=28) (cs:=(fcells f q c).toArray) w
 have hmm:(Instr.makeMap 215 none).run Tryz.prog (w.alloc (.cells (fcells f q c).toArray 28))= .ok (.map (some (w.alloc (.cells (fcells f q c).toArray 28)).heap.size)) ((w.alloc (.cells (fcells f q c).toArray 28)).alloc (.map #[] 0)):=run_makeMap _ _
 have hb1:=(Below.refl w.heap.size w).alloc (Nat.le_refl _) (.cells (fcells f q c).toArray 28)
 have hk1:Blk (w.alloc (.cells (fcells f q c).toArray 28)) w.heap.size (fcells f q c) 28:=Blk.new w _ _
 obtain⟨gf,hgf⟩:∃b,b=w.heap.size:=⟨_,rfl⟩
 generalize hw1:w.alloc (.cells (fcells f q c).toArray 28)=w1 at *
 have hT2:=Takn.new w1
 have hb2:=hb1.alloc hb1.size (.map #[] 0)
 have hk2:Blk (w1.alloc (.map #[] 0)) w.heap.size (fcells f q c) 28:=hk1.old _
 obtain⟨mb,hmb⟩:∃b,b=w1.heap.size:=⟨_,rfl⟩
 have hmw:w.heap.size<=mb:=by rw[hmb];exact hb1.size
 rw[<-hmb]at hT2 hmm
 generalize w1.alloc (.map #[] 0)=w2 at *
 have hk3:Blk (w2.alloc (.cells #[.map (some mb)] 215)) w2.heap.size [.map (some mb)] 215:=Blk.new w2 _ _
 have hs3:(w2.alloc (.cells #[.map (some mb)] 215)).heap.size=w2.heap.size+1:=World.size_alloc ..
 have hk4:=Blk.new (w2.alloc (.cells #[.map (some mb)] 215)) #[Value.func (.func 163) #[] #[.pointer (some ⟨w.heap.size,0,none⟩),.pointer (some ⟨w2.heap.size,0,none⟩)]] 221
 rw[hs3]at hk4
 have hb3:=(hb2.alloc hb2.size (.cells #[.map (some mb)] 215)).alloc (by rw[hs3];have:=hb2.size;omega) (.cells #[Value.func (.func 163) #[] #[.pointer (some ⟨w.heap.size,0,none⟩),.pointer (some ⟨w2.heap.size,0,none⟩)]] 221)
 have hk5:=hk3.old (.cells #[Value.func (.func 163) #[] #[.pointer (some ⟨w.heap.size,0,none⟩),.pointer (some ⟨w2.heap.size,0,none⟩)]] 221)
 have hk6:=(hk2.old (.cells #[.map (some mb)] 215)).old (.cells #[Value.func (.func 163) #[] #[.pointer (some ⟨w.heap.size,0,none⟩),.pointer (some ⟨w2.heap.size,0,none⟩)]] 221)
 have hT5:=(hT2.below ((Below.refl w2.heap.size w2).alloc (Nat.le_refl _) (.cells #[.map (some mb)] 215)))
 have hT6:=hT5.below ((Below.refl _ _).alloc (Nat.le_refl _) (.cells #[Value.func (.func 163) #[] #[.pointer (some ⟨w.heap.size,0,none⟩),.pointer (some ⟨w2.heap.size,0,none⟩)]] 221))
 have htk:TkB _ f q c (w2.heap.size+1) w.heap.size w2.heap.size mb:=⟨hk4,hk6,hk5⟩
 have hso:=h.below hb3
 clear hT2 hT5 hk1 hk2 hk3 hk4 hk5 hk6 hb1 hb2 hs3
 obtain⟨pk,ck,hvk,_⟩:=h.k.told
 obtain⟨ph,ch,hvh,_⟩:=h.h.told
 obtain⟨nk,hnk⟩:∃n,n=r.yk.length:=⟨_,rfl⟩
 obtain⟨nh,hnh⟩:∃n,n=r.yh.length:=⟨_,rfl⟩
 rw[<-hnk]at hvk
 rw[<-hnh]at hvh
 have c3:=hso.blk.cell 3
 rw[show(ocells s r)[3]? = some (Value.slice pk nk ck) by rw[<-hvk];rfl]at c3
 have HMW:=Lib.hid hmw
 have HS:=Lib.hid hso
 have HT:=Lib.hid hT6
 have HTK:=Lib.hid htk
 have HB:=Lib.hid hb3
 have HH:=Lib.hid h
 have HNK:=Lib.hid hnk
 have HNH:=Lib.hid hnh
 have HVK:=Lib.hid hvk
 have HVH:=Lib.hid hvh
 have HN:=Lib.hid (⟨hn,hn1,hn2⟩:r.yb.length<=1000000000/\r.yk.length<=1000000000/\r.yh.length<=1000000000)
 have HF:=Lib.hid hf
 clear hmw hso hT6 htk hb3 h hnk hnh hvk hvh hn hn1 hn2 hf hgf hmb hw1
 go_enter Tryz.func135,Tryz.ntmps135
 go_wp2_with fail
 generalize(w2.alloc (.cells #[.map (some mb)] 215)).alloc (.cells #[Value.func (.func 163) #[] #[.pointer (some ⟨w.heap.size,0,none⟩),.pointer (some ⟨w2.heap.size,0,none⟩)]] 221)=w4 at *
 obtain⟨gt,hgt⟩:∃b,b=w2.heap.size+1:=⟨_,rfl⟩
 rw[<-hgt]at HTK ⊢
 obtain⟨gm,hgm⟩:∃b,b=w2.heap.size:=⟨_,rfl⟩
 rw[<-hgm]at HTK ⊢
 obtain⟨gf2,hgf⟩:∃b,b=w.heap.size:=⟨_,rfl⟩
 rw[<-hgf]at HTK ⊢
 clear hgt hgm hgf c3
 -- the keeps
 have hrk:=HS.out.k
 rw[HVK.out]at hrk
 have hI0:IT f q c gt gf2 gm mb [] (r.yk.map (·.1)) w4 0:=⟨[],HT.out,HTK.out,by intro d;simp⟩
 have hd1:=del_K mb (.pointer (some ⟨gt,0,none⟩)) (takeK f) r.yk _ (prdK f q c gt gf2 gm mb [] r.yk HS.out.k.ok) w4 B _ hrk hI0 HN.out.2.1
 refine hd1.mono ?_
 rintro e w5 ⟨v5,rfl,hr5,hi5,hc5⟩
 have hc6:Chg (fun k=>r.vk.ownBlock=some k\/k=mb) w4 w5:=by rw[HVK.out];exact hc5
 obtain⟨hs6,hk6⟩:=HS.out.setK (X:=fun k=>k=mb) (fun k e=>by rw[e];exact HT.out.isMap) hc6 hr5
 have hb5:=blk_state HS.out hc6 (RowTy.of HS.out.k.own) (Or.inr (Or.inl rfl)) HT.out.isMap
 have c5:w5.cell? ⟨g,3,none⟩=some r.vk:=hb5.cell 3
 have f5:=hb5.free 3
 obtain⟨q5,d5,rfl,_⟩:=hr5.told
 have hi6:IT f q c gt gf2 gm mb [] (r.yk.map (·.1)) (w5.setCell ⟨g,3,none⟩ (.slice q5 (r.yk.filter fun y=>!takeK f y.1).length d5)) r.yk.length:=hi5.stays (setCell_grown w5 g 3 _) (t:=47) (fun k e=>by cases e;exact⟨_,_,hb5⟩) (by decide)
 have hke:(r.yk.filter fun y=>!takeK f y.1).map (·.1)=s.keeps.filter (fun x=>!takeK f x):=by
  rw[<-HS.out.ke,List.filter_map];rfl
 have hkl:(r.yk.filter fun y=>!takeK f y.1).length<=1000000000:=Nat.le_trans (List.length_filter_le _ _) HN.out.2.1
 rw[hke]at hs6
 have c4:=hs6.blk.cell 4
 rw[show(ocells {s with keeps:=s.keeps.filter (fun x=>!takeK f x)} {r with vk:=.slice q5 (r.yk.filter fun y=>!takeK f y.1).length d5,yk:=r.yk.filter fun y=>!takeK f y.1})[4]? = some (Value.slice ph nh ch) by rw[<-HVH.out];rfl]at c4
 have HS6:=Lib.hid hs6
 have HI6:=Lib.hid hi6
 have HK6:=Lib.hid hk6
 have HKL:=Lib.hid hkl
 clear hrk hI0 hd1 hr5 hi5 hc5 hc6 hs6 hk6 hb5 hi6 hke hkl
 go_wp2_with fail
 clear c4 c5 f5
 generalize w5.setCell ⟨g,3,none⟩ (.slice q5 (r.yk.filter fun y=>!takeK f y.1).length d5)=w6 at *
 obtain⟨S1,h1T,h1B,h1S⟩:=HI6.out
 have hrh:=HS6.out.h
 rw[HVH.out]at hrh
 have hI1:IT f q c gt gf2 gm mb S1 (r.yh.map fun y=>(y.1.2.1,y.1.2.2)) w6 0:=⟨S1,h1T,h1B,by intro d;simp⟩
 have hd2:=del_H mb (.pointer (some ⟨gt,0,none⟩)) (takeH f) r.yh _ (prdH f q c gt gf2 gm mb S1 r.yh HS6.out.h.ok) w6 B _ hrh hI1 HN.out.2.2
 refine hd2.mono ?_
 rintro e w7 ⟨v7,rfl,hr7,hi7,hc7⟩
 have hc8:Chg (fun k=>r.vh.ownBlock=some k\/k=mb) w6 w7:=by rw[HVH.out];exact hc7
 obtain⟨hs8,hk8⟩:=HS6.out.setH (X:=fun k=>k=mb) (fun k e=>by rw[e];exact h1T.isMap) hc8 hr7
 have hb7:=blk_state HS6.out hc8 (RowTy.of HS6.out.h.own) (Or.inr (Or.inr (Or.inl rfl))) h1T.isMap
 have c7:w7.cell? ⟨g,4,none⟩=some r.vh:=hb7.cell 4
 have f7:=hb7.free 4
 obtain⟨q7,d7,rfl,_⟩:=hr7.told
 have hi8:IT f q c gt gf2 gm mb S1 (r.yh.map fun y=>(y.1.2.1,y.1.2.2)) (w7.setCell ⟨g,4,none⟩ (.slice q7 (r.yh.filter fun y=>!takeH f y.1).length d7)) r.yh.length:=hi7.stays (setCell_grown w7 g 4 _) (t:=47) (fun k e=>by cases e;exact⟨_,_,hb7⟩) (by decide)
 have hhe:(r.yh.filter fun y=>!takeH f y.1).map (·.1)=s.hints.filter (fun x=>!takeH f x):=by
  rw[<-HS6.out.he,List.filter_map];rfl
 have hhl:(r.yh.filter fun y=>!takeH f y.1).length<=1000000000:=Nat.le_trans (List.length_filter_le _ _) HN.out.2.2
 rw[hhe]at hs8
 obtain⟨S2,h2T,h2B,h2S⟩:=hi8
 have cm:(w7.setCell ⟨g,4,none⟩ (.slice q7 (r.yh.filter fun y=>!takeH f y.1).length d7)).cell? ⟨gm,0,none⟩=some (.map (some mb)):=h2B.m.cell 0
 have hrl:=release_any _ B g mb _ _ S2 hs8 h2T HN.out.1 HKL.out hhl
 have HRL:=Lib.hid hrl
 have HK8:=Lib.hid hk8
 have H1S:=Lib.hid h1S
 have H2S:=Lib.hid h2S
 clear hrh hI1 hd2 hr7 hi7 hc7 hc8 hs8 hk8 hb7 hhe hhl h2T h2B h1S h2S hrl h1T h1B
 go_wp2_with fail
 refine HRL.out.mono ?_
 rintro e w9 ⟨rfl,r9,hs9,hk9⟩
 have HS9:=Lib.hid hs9
 have HK9:=Lib.hid hk9
 clear hs9 hk9 HRL
 go_wp2_with fail
 go_end0
 refine⟨rfl,r9,?_,?_⟩
 ·have hs:=HS9.out
  have e:RelP {s with keeps:=s.keeps.filter (fun x=>!takeK f x),hints:=s.hints.filter (fun x=>!takeH f x)} S2=s.less f:=by
   have hS:∀d,decide (d∈S2)=needed (s.keeps.filter (takeK f)) (s.hints.filter (takeH f)) d:=fun d=>by
    have e1:(r.yk.map (·.1)).take r.yk.length=s.keeps:=by rw[List.take_of_length_le (by simp)];exact HH.out.ke
    have e2:(r.yh.map fun y=>(y.1.2.1,y.1.2.2)).take r.yh.length=s.hints.map fun z=>(z.2.1,z.2.2):=by
     rw[List.take_of_length_le (by simp),<-HH.out.he,List.map_map];rfl
    have h1:=H1S.out d
    have h2:=H2S.out d
    rw[e1]at h1
    rw[e2,h1]at h2
    rw[Bool.eq_iff_iff]
    unfold needed takeK takeH
    simp only[decide_eq_true_eq,h2,Bool.or_eq_true,List.any_eq_true,List.mem_filter,List.not_mem_nil,false_or,List.mem_map]
    constructor
    ·rintro(⟨p,h1,h2,h3⟩ | ⟨p,⟨z,h1,rfl⟩,h2,h3⟩)
     ·exact Or.inl ⟨p,⟨h1,h2⟩,h3⟩
     ·exact Or.inr ⟨z,⟨h1,h2⟩,h3⟩
    ·rintro(⟨p,⟨h1,h2⟩,h3⟩ | ⟨z,⟨h1,h2⟩,h3⟩)
     ·exact Or.inl ⟨p,h1,h2,h3⟩
     ·exact Or.inr ⟨_,⟨z,h1,rfl⟩,h2,h3⟩
   have g1:goesK f=takeK f:=by funext x;unfold goesK takeK;simp[HF.out]
   have g2:goesH f=takeH f:=by funext x;unfold goesH takeH;simp[HF.out]
   unfold RelP Ste.less
   simp only[g1,g2,hS]
  rw[e]at hs;exact hs
 ·have h1:=chg9_trans (chg9_trans HK6.out HK8.out) HK9.out
  have h2:Chg (fun k=>Own9 w B g k\/k=mb) w w4:=(Chg.refl _ w).grown (below_grown HB.out none) fun k hk=>by cases hk
  have h3:=chg9_trans h2 h1
  exact h3.mono fun k hk hc=>hc.imp id fun e=>by have:=HMW.out;omega
end
section
open Go.RowKit Sha Fct
theorem execOp_makeOB (ρ:Operand->Value)(dst:Option Tmp)(parts:Array (Nat×Operand))(ty:TypeId)(pos:String)(after:Array Edge)(guard:Option (Nat×Bool)):
 execOp ρ {dst:=dst,op:=.build 93 parts,type:=ty,pos:=pos,after:=after,guard:=guard}= makeOp 93 (parts.map fun(i,x)=>(i,ρ x)):=by unfold makeOp;rfl
theorem execOp_makeOK (ρ:Operand->Value)(dst:Option Tmp)(parts:Array (Nat×Operand))(ty:TypeId)(pos:String)(after:Array Edge)(guard:Option (Nat×Bool)):
 execOp ρ {dst:=dst,op:=.build 95 parts,type:=ty,pos:=pos,after:=after,guard:=guard}= makeOp 95 (parts.map fun(i,x)=>(i,ρ x)):=by unfold makeOp;rfl
theorem execOp_makeOH (ρ:Operand->Value)(dst:Option Tmp)(parts:Array (Nat×Operand))(ty:TypeId)(pos:String)(after:Array Edge)(guard:Option (Nat×Bool)):
 execOp ρ {dst:=dst,op:=.build 97 parts,type:=ty,pos:=pos,after:=after,guard:=guard}= makeOp 97 (parts.map fun(i,x)=>(i,ρ x)):=by unfold makeOp;rfl
theorem builtOB (D B:List Int)(h:D.length=32)(q:Option Addr)(m c:Nat)(hm:m=B.length):Tryz.prog.built 93 [(0,.agg (D.map v8).toArray),(1,.slice q m c)] = some (bcells (D,B) q c).toArray:=by
 subst hm
 obtain⟨a0,a1,a2,a3,a4,a5,a6,a7,a8,a9,a10,a11,a12,a13,a14,a15,a16,a17,a18,a19,a20,a21,a22,a23,a24,a25,a26,a27,a28,a29,a30,a31,rfl⟩:=len32 D h
 unfold bcells
 kernel_rfl
theorem makeOB (D B:List Int)(h:D.length=32)(q:Option Addr)(m c:Nat)(hm:m=B.length)(w:World):(makeOp 93 #[(0,.agg (D.map v8).toArray),(1,.slice q m c)]).run Tryz.prog w= .ok (.value (.agg (bcells (D,B) q c).toArray)) w:=run_makeOp w (builtOB D B h q m c hm)
theorem builtOBi (D:List Int)(h:D.length=32):Tryz.prog.built 93 [(0,.agg (D.map v8).toArray)] = some (bcells (D,[]) none 0).toArray:=by
 obtain⟨a0,a1,a2,a3,a4,a5,a6,a7,a8,a9,a10,a11,a12,a13,a14,a15,a16,a17,a18,a19,a20,a21,a22,a23,a24,a25,a26,a27,a28,a29,a30,a31,rfl⟩:=len32 D h
 unfold bcells
 kernel_rfl
theorem makeOBi (D:List Int)(h:D.length=32)(w:World):(makeOp 93 #[(0,.agg (D.map v8).toArray)]).run Tryz.prog w= .ok (.value (.agg (bcells (D,[]) none 0).toArray)) w:=run_makeOp w (builtOBi D h)
theorem builtOK (n:Int)(D:List Int)(h:D.length=32)(q:Option Addr)(c:Nat):Tryz.prog.built 95 [(0,.int .i64 n),(1,.agg (D.map v8).toArray)] = some (kcells (n,D) q c).toArray:=by
 obtain⟨a0,a1,a2,a3,a4,a5,a6,a7,a8,a9,a10,a11,a12,a13,a14,a15,a16,a17,a18,a19,a20,a21,a22,a23,a24,a25,a26,a27,a28,a29,a30,a31,rfl⟩:=len32 D h
 unfold kcells
 kernel_rfl
theorem makeOK (n:Int)(D:List Int)(h:D.length=32)(q:Option Addr)(c:Nat)(w:World):(makeOp 95 #[(0,.int .i64 n),(1,.agg (D.map v8).toArray)]).run Tryz.prog w= .ok (.value (.agg (kcells (n,D) q c).toArray)) w:=run_makeOp w (builtOK n D h q c)
theorem builtOH (m n:Int)(D:List Int)(h:D.length=32)(q:Option Addr)(c:Nat):Tryz.prog.built 97 [(0,.int .i64 m),(1,.int .i64 n),(2,.agg (D.map v8).toArray)] = some (hcells (m,n,D) q c).toArray:=by
 obtain⟨a0,a1,a2,a3,a4,a5,a6,a7,a8,a9,a10,a11,a12,a13,a14,a15,a16,a17,a18,a19,a20,a21,a22,a23,a24,a25,a26,a27,a28,a29,a30,a31,rfl⟩:=len32 D h
 unfold hcells
 kernel_rfl
theorem makeOH (m n:Int)(D:List Int)(h:D.length=32)(q:Option Addr)(c:Nat)(w:World):(makeOp 97 #[(0,.int .i64 m),(1,.int .i64 n),(2,.agg (D.map v8).toArray)]).run Tryz.prog w= .ok (.value (.agg (hcells (m,n,D) q c).toArray)) w:=run_makeOp w (builtOH m n D h q c)
theorem builtOV (s:Int):Tryz.prog.built 62 [(0,.int .i64 s)] = some (vcells ⟨s,0,0,0,0,[]⟩ none 0).toArray:=by
 unfold vcells
 kernel_rfl
theorem makeOV (s:Int)(w:World):(makeOp 62 #[(0,.int .i64 s)]).run Tryz.prog w= .ok (.value (.agg (vcells ⟨s,0,0,0,0,[]⟩ none 0).toArray)) w:=run_makeOp w (builtOV s)
theorem builtOD (s:Int)(B:List Int)(q:Option Addr)(m c:Nat)(hm:m=B.length):Tryz.prog.built 73 [(0,.int .i64 s),(1,.slice q m c)] = some (dcells9 (s,B) q c).toArray:=by
 subst hm
 unfold dcells9
 kernel_rfl
theorem makeOD (s:Int)(B:List Int)(q:Option Addr)(m c:Nat)(hm:m=B.length)(w:World):(makeOp 73 #[(0,.int .i64 s),(1,.slice q m c)]).run Tryz.prog w= .ok (.value (.agg (dcells9 (s,B) q c).toArray)) w:=run_makeOp w (builtOD s B q m c hm)
structure FBx9 (w0:World)(f:Fac)(q:Option Addr)(c:Nat)(w1:World):Prop where
 b1:(boxOp 28 (.agg (fcells f q c).toArray)).run Tryz.prog w0= .ok (.value (.pointer (some ⟨w0.heap.size,0,none⟩))) w1
 k1:Blk w1 w0.heap.size (fcells f q c) 28
 below:Below w0.heap.size w0 w1
 size:w1.heap.size=w0.heap.size+1
theorem fbx9 (w:World)(f:Fac)(q:Option Addr)(c:Nat):∃w1,FBx9 w f q c w1:=
 ⟨w.alloc (.cells (fcells f q c).toArray 28),run_boxOp w,Blk.new w _ _,(Below.refl w.heap.size w).alloc (Nat.le_refl _) _,World.size_alloc ..⟩
theorem FBx9.K {w w1:World} {f:Fac} {q:Option Addr} {c:Nat}(h:FBx9 w f q c w1):w1.cell? ⟨w.heap.size,0,none⟩=some (i64c f.K):=(h.k1.cell 0).trans (fcells_K f q c)
theorem FBx9.S {w w1:World} {f:Fac} {q:Option Addr} {c:Nat}(h:FBx9 w f q c w1):w1.cell? ⟨w.heap.size,1,none⟩=some (i64c f.S):=(h.k1.cell 1).trans (fcells_S f q c)
theorem fcells_mid (x:Fac)(q:Option Addr)(c:Nat):fcells x q c= [i64c x.K,i64c x.S,i64c x.H,i64c x.N,i64c x.O]++x.D.map v8++[.slice q x.B.length c]:=by unfold fcells;simp
theorem fact_id {w:World} {g:Nat} {f:Fac} {q:Option Addr} {c:Nat}(h:Blk w g (fcells f q c) 28)(hd:f.D.length=32):(loadOp 25 (.pointer (some ⟨g,5,none⟩))).run Tryz.prog w= .ok (.value (.agg (f.D.map v8).toArray)) w:=
 load_idr hd (range_mid (by rw[<-fcells_mid];exact h) rfl)
attribute [local go_sem ↓] execOp_boxFact execOp_loadId execOp_makeOH execOp_allocOH execOp_storeOH
theorem hintOf_any (f:Fac)(q:Option Addr)(c:Nat)(w:World)(h:sF.ok f)(hd:idOk f.D):
 Calls Tryz.prog 155 #[.agg (fcells f q c).toArray] w fun e w'=>e= .returned (.agg (hcells (f.H,f.S,f.D) none 0).toArray)/\Below w.heap.size w w':=by
 obtain⟨w1,hb⟩:=fbx9 w f q c
 have bx:=hb.b1
 have hok:sH.ok (f.H,f.S,f.D):=⟨h.H,h.S,hd⟩
 have al:=alloc_OH w1
 have st:=storeN_OH w1 hok none 0
 have hk2:=hb.k1.old (.cells (hcells (0,0,Fld.zero32) none 0).toArray 97)
 have hB:=Lib.hid (hb.below.alloc (by rw[hb.size];omega) (.cells (hcells (f.H,f.S,f.D) none 0).toArray 97))
 have hC:=Lib.hid (show Blk (w1.alloc (.cells (hcells (f.H,f.S,f.D) none 0).toArray 97)) w1.heap.size (hcells (f.H,f.S,f.D) none 0) 97 from Blk.new w1 _ 97)
 have HS:=Lib.hid (show(Tryz.prog.info? 97).map (fun i=>i.size)=some (hcells (f.H,f.S,f.D) none 0).toArray.size by rw[isize_H,List.size_toArray];exact congrArg some (sH.len none 0 hok).symm)
 rw[hb.size]at al st hC
 generalize w1.alloc (.cells (hcells (0,0,Fld.zero32) none 0).toArray 97)=w2 at *
 generalize w1.alloc (.cells (hcells (f.H,f.S,f.D) none 0).toArray 97)=w3 at *
 have v0:w2.cell? ⟨w.heap.size,1,none⟩=some (.int .i64 f.S):=(hk2.cell 1).trans (fcells_S f q c)
 have v1:w2.cell? ⟨w.heap.size,2,none⟩=some (.int .i64 f.H):=(hk2.cell 2).trans (fcells_H f q c)
 have l1:=fact_id hk2 hd.1
 have mk:=fun w=>makeOH f.H f.S f.D hd.1 none 0 w
 clear hb h hd hok hk2
 go_enter Tryz.func155,Tryz.ntmps155
 go_wp2_with fail
 exact bodyPost_ret (v:=.agg (hcells (f.H,f.S,f.D) none 0).toArray) (results_cell_row rfl _ _ _ _ _ _ _ rfl hC.out (Tryz.underlying97) rfl HS.out) rfl ⟨rfl,hB.out⟩
end
end Go.Proofs.YtokpabkcaofahaaGreat
