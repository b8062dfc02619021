/-
  What stands under factPuts_holds: part 22.
-/
import Derived.Test.YtokpabkcaofahaaGreatPp21
import Derived.Test.YtokpabkcaofahaaGreatPp6
namespace Go.Proofs.YtokpabkcaofahaaGreat
theorem qB (B : Nat) (a : World) : Go.RowKit.Below B a a := Go.RowKit.Below.refl B a
theorem qC {A : Type _} {a b : List A} : (a ++ b).length = a.length + b.length := List.length_append
theorem qD (n : Nat) : n ≤ n := Nat.le_refl n
theorem xF {p : Prop} (h : p) : Go.RowKit.Hid p := Go.Lib.hid h
set_option linter.unusedSimpArgs false
set_option linter.unusedVariables false
set_option maxRecDepth 100000
set_option maxHeartbeats 20000000
section
open Go.RowKit Sha Fct
def rowT (t:TypeId):Prop:=t=93\/t=95\/t=97\/t=62\/t=73
def Own9 (w:World)(B g k:Nat):Prop:=k=g\/(B<=k/\∃cs t fz,w.heap[k]? = some (.cells cs t fz)/\rowT t)
theorem Yt {t:TypeId}(h:rowT t):t≠5/\t≠47:=by rcases h with rfl | rfl | rfl | rfl | rfl<;>decide
theorem zd {B g:Nat} {X:Nat->Prop} {a b c:World}(h:Chg (fun k=>Own9 a B g k\/X k) a b)(k:Chg (fun k=>Own9 b B g k\/X k) b c):Chg (fun k=>Own9 a B g k\/X k) a c:=
 ⟨k.os.trans h.os,k.tape.trans h.tape,k.output.trans h.output,Nat.le_trans h.size k.size,fun j hj hn=>by
  have e:=h.block j hj hn
  refine(k.block j (Nat.lt_of_lt_of_le hj h.size) fun hc=>hn ?_).trans e
  rcases hc with(hc | ⟨h1,cs,t,fz,h2,h3⟩) | hc
  ·exact Or.inl (Or.inl hc)
  ·exact Or.inl (Or.inr ⟨h1,cs,t,fz,by rw[<-e];exact h2,h3⟩)
  ·exact Or.inr hc⟩
section
variable {V:Type} {S:Shp V} {w w':World} {Q:Nat->Prop}
theorem Rws.chg {t:TypeId} {B:Nat} {v:Value} {ys:List (Hd V)}(h:Rws S t w B v ys)(hg:Chg Q w w')(hq:∀k cs fz t',w.heap[k]? = some (.cells cs t' fz)->(t'=t\/t'=5)->¬Q k):Rws S t w' B v ys:=by
 have h8:∀g cs,Blk w g cs 5->Blk w' g cs 5:=fun g cs hk=>hg.blk hk (hq g _ _ _ hk (Or.inr rfl))
 refine⟨?_,fun y hy=>⟨good_blk (h.good y hy).1 (h.good y hy).2 h8,(h.good y hy).2.on h8⟩⟩
 obtain⟨h0,h1⟩:=h.own
 refine⟨h0,?_⟩
 rcases h1 with h1 | ⟨g,cap,cur,hv,hB,hh,hr⟩
 ·exact Or.inl h1
 ·exact Or.inr ⟨g,cap,cur,hv,hB,(hg.block g (Array.getElem?_eq_some_iff.1 hh).1 (hq g _ _ _ hh (Or.inl rfl))).trans hh,hr⟩
theorem Rws.lo {t:TypeId} {B:Nat} {v:Value} {ys:List (Hd V)}(h:Rws S t w B v ys) {k:Nat}(hk:v.ownBlock=some k):B<=k:=(h.own.lt k hk).1
end
structure Rows9 where
 vb:Value
 vk:Value
 vh:Value
 vv:Value
 vd:Value
 yb:List (Hd (Fct.Id×List Int))
 yk:List (Hd (Int×Fct.Id))
 yh:List (Hd (Int×Int×Fct.Id))
 yv:List (Hd Vot)
 yd:List (Hd (Int×List Int))
def zh (s:Ste)(r:Rows9):List Value:=[.bool s.born,i64c s.boot,r.vb,r.vk,r.vh,r.vv,r.vd]
structure StO (w:World)(B g:Nat)(s:Ste)(r:Rows9):Prop where
 blk:Blk w g (zh s r) 47
 lo:B<=g
 b:Rws sB 93 w B r.vb r.yb
 be:r.yb.map (·.1)=s.blobs
 k:Rws sK 95 w B r.vk r.yk
 ke:r.yk.map (·.1)=s.keeps
 h:Rws sH 97 w B r.vh r.yh
 he:r.yh.map (·.1)=s.hints
 v:Rws sV 62 w B r.vv r.yv
 ve:r.yv.map (·.1)=s.votes
 d:Rws sD 73 w B r.vd r.yd
 de:r.yd.map (·.1)=s.decs
variable {w w':World} {B g:Nat} {s:Ste} {r:Rows9}
theorem StO.chg {Q:Nat->Prop}(h:StO w B g s r)(hc:Chg Q w w')(hq:∀k cs fz t,w.heap[k]? = some (.cells cs t fz)->(rowT t\/t=5\/t=47)->¬Q k):StO w' B g s r:=
 ⟨hc.blk h.blk (hq _ _ _ _ h.blk (Or.inr (Or.inr rfl))),h.lo,h.b.chg hc (fun k cs fz t hk ht=>hq k cs fz t hk (ht.elim (fun e=>Or.inl (by rw[e];unfold rowT;simp)) (fun e=>Or.inr (Or.inl e)))),h.be,h.k.chg hc (fun k cs fz t hk ht=>hq k cs fz t hk (ht.elim (fun e=>Or.inl (by rw[e];unfold rowT;simp)) (fun e=>Or.inr (Or.inl e)))),h.ke,h.h.chg hc (fun k cs fz t hk ht=>hq k cs fz t hk (ht.elim (fun e=>Or.inl (by rw[e];unfold rowT;simp)) (fun e=>Or.inr (Or.inl e)))),h.he,h.v.chg hc (fun k cs fz t hk ht=>hq k cs fz t hk (ht.elim (fun e=>Or.inl (by rw[e];unfold rowT;simp)) (fun e=>Or.inr (Or.inl e)))),h.ve,h.d.chg hc (fun k cs fz t hk ht=>hq k cs fz t hk (ht.elim (fun e=>Or.inl (by rw[e];unfold rowT;simp)) (fun e=>Or.inr (Or.inl e)))),h.de⟩
theorem StO.below (h:StO w B g s r)(hb:Below w.heap.size w w'):StO w' B g s r:=h.chg (Q:=fun _=>False) ⟨hb.os,hb.tape,hb.output,hb.size,fun k hk _=>hb.block k hk⟩ (fun _ _ _ _ _ _ e=>e)
theorem StO.setB {X:Nat->Prop}(h:StO w B g s r) {w1:World}(hX:∀k,X k->IsMapB w k)(hc:Chg (fun k=>r.vb.ownBlock=some k\/X k) w w1) {v':Value} {zs:List (Hd _)}(hr:Rws sB 93 w1 B v' zs):
 StO (w1.setCell ⟨g,2,none⟩ v') B g {s with blobs:=zs.map (·.1)} {r with vb:=v',yb:=zs}/\Chg (fun k=>Own9 w B g k\/X k) w (w1.setCell ⟨g,2,none⟩ v'):=by
 have hno:∀k cs fz t,w.heap[k]? = some (.cells cs t fz)->t≠93->¬(r.vb.ownBlock=some k\/X k):=by
  rintro k cs fz t hk ht (e | e)
  ·obtain⟨c2,f2,h2⟩:=RowTy.of h.b.own k e
   rw[hk]at h2;simp at h2;exact ht h2.2.1
  ·obtain⟨es,cl,h2⟩:=hX k e
   rw[hk]at h2;cases h2
 have hb1:Blk w1 g (zh s r) 47:=hc.blk h.blk (hno _ _ _ _ h.blk (by decide))
 have hc2:Chg (fun k=>k=g) w1 (w1.setCell ⟨g,2,none⟩ v'):=by
  have h2:=setCells_grown w1 g 2 [v']
  exact(Chg.refl _ w1).grown h2 fun k hk _=>by cases hk;rfl
 have hn2:∀k cs fz t,w1.heap[k]? = some (.cells cs t fz)->t≠47->¬k=g:=by
  rintro k cs fz t hk ht rfl
  unfold Blk at hb1
  rw[hk]at hb1;simp at hb1;exact ht hb1.2.1
 refine⟨⟨hb1.set 2 v',h.lo,hr.chg hc2 (fun k cs fz t hk ht=>hn2 k cs fz t hk (by rcases ht with rfl | rfl<;>decide)),rfl,(h.k.chg hc (fun k cs fz t hk ht=>hno k cs fz t hk (by rcases ht with rfl | rfl<;>decide))).chg hc2 (fun k cs fz t hk ht=>hn2 k cs fz t hk (by rcases ht with rfl | rfl<;>decide)),h.ke,(h.h.chg hc (fun k cs fz t hk ht=>hno k cs fz t hk (by rcases ht with rfl | rfl<;>decide))).chg hc2 (fun k cs fz t hk ht=>hn2 k cs fz t hk (by rcases ht with rfl | rfl<;>decide)),h.he,(h.v.chg hc (fun k cs fz t hk ht=>hno k cs fz t hk (by rcases ht with rfl | rfl<;>decide))).chg hc2 (fun k cs fz t hk ht=>hn2 k cs fz t hk (by rcases ht with rfl | rfl<;>decide)),h.ve,(h.d.chg hc (fun k cs fz t hk ht=>hno k cs fz t hk (by rcases ht with rfl | rfl<;>decide))).chg hc2 (fun k cs fz t hk ht=>hn2 k cs fz t hk (by rcases ht with rfl | rfl<;>decide)),h.de⟩,⟨?_,?_,?_,?_,?_⟩⟩
 ·exact hc2.os.trans hc.os
 ·exact hc2.tape.trans hc.tape
 ·exact hc2.output.trans hc.output
 ·exact Nat.le_trans hc.size hc2.size
 ·intro k hk hn
  refine(hc2.block k (Nat.lt_of_lt_of_le hk hc.size) fun e=>hn (Or.inl (Or.inl e))).trans (hc.block k hk ?_)
  rintro(e | e)
  ·obtain⟨c2,f2,h2⟩:=RowTy.of h.b.own k e
   exact hn (Or.inl (Or.inr ⟨h.b.lo e,c2,_,f2,h2,by unfold rowT;simp⟩))
  ·exact hn (Or.inr e)
theorem StO.setK {X:Nat->Prop}(h:StO w B g s r) {w1:World}(hX:∀k,X k->IsMapB w k)(hc:Chg (fun k=>r.vk.ownBlock=some k\/X k) w w1) {v':Value} {zs:List (Hd _)}(hr:Rws sK 95 w1 B v' zs):
 StO (w1.setCell ⟨g,3,none⟩ v') B g {s with keeps:=zs.map (·.1)} {r with vk:=v',yk:=zs}/\Chg (fun k=>Own9 w B g k\/X k) w (w1.setCell ⟨g,3,none⟩ v'):=by
 have hno:∀k cs fz t,w.heap[k]? = some (.cells cs t fz)->t≠95->¬(r.vk.ownBlock=some k\/X k):=by
  rintro k cs fz t hk ht (e | e)
  ·obtain⟨c2,f2,h2⟩:=RowTy.of h.k.own k e
   rw[hk]at h2;simp at h2;exact ht h2.2.1
  ·obtain⟨es,cl,h2⟩:=hX k e
   rw[hk]at h2;cases h2
 have hb1:Blk w1 g (zh s r) 47:=hc.blk h.blk (hno _ _ _ _ h.blk (by decide))
 have hc2:Chg (fun k=>k=g) w1 (w1.setCell ⟨g,3,none⟩ v'):=by
  have h2:=setCells_grown w1 g 3 [v']
  exact(Chg.refl _ w1).grown h2 fun k hk _=>by cases hk;rfl
 have hn2:∀k cs fz t,w1.heap[k]? = some (.cells cs t fz)->t≠47->¬k=g:=by
  rintro k cs fz t hk ht rfl
  unfold Blk at hb1
  rw[hk]at hb1;simp at hb1;exact ht hb1.2.1
 refine⟨⟨hb1.set 3 v',h.lo,(h.b.chg hc (fun k cs fz t hk ht=>hno k cs fz t hk (by rcases ht with rfl | rfl<;>decide))).chg hc2 (fun k cs fz t hk ht=>hn2 k cs fz t hk (by rcases ht with rfl | rfl<;>decide)),h.be,hr.chg hc2 (fun k cs fz t hk ht=>hn2 k cs fz t hk (by rcases ht with rfl | rfl<;>decide)),rfl,(h.h.chg hc (fun k cs fz t hk ht=>hno k cs fz t hk (by rcases ht with rfl | rfl<;>decide))).chg hc2 (fun k cs fz t hk ht=>hn2 k cs fz t hk (by rcases ht with rfl | rfl<;>decide)),h.he,(h.v.chg hc (fun k cs fz t hk ht=>hno k cs fz t hk (by rcases ht with rfl | rfl<;>decide))).chg hc2 (fun k cs fz t hk ht=>hn2 k cs fz t hk (by rcases ht with rfl | rfl<;>decide)),h.ve,(h.d.chg hc (fun k cs fz t hk ht=>hno k cs fz t hk (by rcases ht with rfl | rfl<;>decide))).chg hc2 (fun k cs fz t hk ht=>hn2 k cs fz t hk (by rcases ht with rfl | rfl<;>decide)),h.de⟩,⟨?_,?_,?_,?_,?_⟩⟩
 ·exact hc2.os.trans hc.os
 ·exact hc2.tape.trans hc.tape
 ·exact hc2.output.trans hc.output
 ·exact Nat.le_trans hc.size hc2.size
 ·intro k hk hn
  refine(hc2.block k (Nat.lt_of_lt_of_le hk hc.size) fun e=>hn (Or.inl (Or.inl e))).trans (hc.block k hk ?_)
  rintro(e | e)
  ·obtain⟨c2,f2,h2⟩:=RowTy.of h.k.own k e
   exact hn (Or.inl (Or.inr ⟨h.k.lo e,c2,_,f2,h2,by unfold rowT;simp⟩))
  ·exact hn (Or.inr e)
theorem StO.setH {X:Nat->Prop}(h:StO w B g s r) {w1:World}(hX:∀k,X k->IsMapB w k)(hc:Chg (fun k=>r.vh.ownBlock=some k\/X k) w w1) {v':Value} {zs:List (Hd _)}(hr:Rws sH 97 w1 B v' zs):
 StO (w1.setCell ⟨g,4,none⟩ v') B g {s with hints:=zs.map (·.1)} {r with vh:=v',yh:=zs}/\Chg (fun k=>Own9 w B g k\/X k) w (w1.setCell ⟨g,4,none⟩ v'):=by
 have hno:∀k cs fz t,w.heap[k]? = some (.cells cs t fz)->t≠97->¬(r.vh.ownBlock=some k\/X k):=by
  rintro k cs fz t hk ht (e | e)
  ·obtain⟨c2,f2,h2⟩:=RowTy.of h.h.own k e
   rw[hk]at h2;simp at h2;exact ht h2.2.1
  ·obtain⟨es,cl,h2⟩:=hX k e
   rw[hk]at h2;cases h2
 have hb1:Blk w1 g (zh s r) 47:=hc.blk h.blk (hno _ _ _ _ h.blk (by decide))
 have hc2:Chg (fun k=>k=g) w1 (w1.setCell ⟨g,4,none⟩ v'):=by
  have h2:=setCells_grown w1 g 4 [v']
  exact(Chg.refl _ w1).grown h2 fun k hk _=>by cases hk;rfl
 have hn2:∀k cs fz t,w1.heap[k]? = some (.cells cs t fz)->t≠47->¬k=g:=by
  rintro k cs fz t hk ht rfl
  unfold Blk at hb1
  rw[hk]at hb1;simp at hb1;exact ht hb1.2.1
 refine⟨⟨hb1.set 4 v',h.lo,(h.b.chg hc (fun k cs fz t hk ht=>hno k cs fz t hk (by rcases ht with rfl | rfl<;>decide))).chg hc2 (fun k cs fz t hk ht=>hn2 k cs fz t hk (by rcases ht with rfl | rfl<;>decide)),h.be,(h.k.chg hc (fun k cs fz t hk ht=>hno k cs fz t hk (by rcases ht with rfl | rfl<;>decide))).chg hc2 (fun k cs fz t hk ht=>hn2 k cs fz t hk (by rcases ht with rfl | rfl<;>decide)),h.ke,hr.chg hc2 (fun k cs fz t hk ht=>hn2 k cs fz t hk (by rcases ht with rfl | rfl<;>decide)),rfl,(h.v.chg hc (fun k cs fz t hk ht=>hno k cs fz t hk (by rcases ht with rfl | rfl<;>decide))).chg hc2 (fun k cs fz t hk ht=>hn2 k cs fz t hk (by rcases ht with rfl | rfl<;>decide)),h.ve,(h.d.chg hc (fun k cs fz t hk ht=>hno k cs fz t hk (by rcases ht with rfl | rfl<;>decide))).chg hc2 (fun k cs fz t hk ht=>hn2 k cs fz t hk (by rcases ht with rfl | rfl<;>decide)),h.de⟩,⟨?_,?_,?_,?_,?_⟩⟩
 ·exact hc2.os.trans hc.os
 ·exact hc2.tape.trans hc.tape
 ·exact hc2.output.trans hc.output
 ·exact Nat.le_trans hc.size hc2.size
 ·intro k hk hn
  refine(hc2.block k (Nat.lt_of_lt_of_le hk hc.size) fun e=>hn (Or.inl (Or.inl e))).trans (hc.block k hk ?_)
  rintro(e | e)
  ·obtain⟨c2,f2,h2⟩:=RowTy.of h.h.own k e
   exact hn (Or.inl (Or.inr ⟨h.h.lo e,c2,_,f2,h2,by unfold rowT;simp⟩))
  ·exact hn (Or.inr e)
theorem StO.setV {X:Nat->Prop}(h:StO w B g s r) {w1:World}(hX:∀k,X k->IsMapB w k)(hc:Chg (fun k=>r.vv.ownBlock=some k\/X k) w w1) {v':Value} {zs:List (Hd _)}(hr:Rws sV 62 w1 B v' zs):
 StO (w1.setCell ⟨g,5,none⟩ v') B g {s with votes:=zs.map (·.1)} {r with vv:=v',yv:=zs}/\Chg (fun k=>Own9 w B g k\/X k) w (w1.setCell ⟨g,5,none⟩ v'):=by
 have hno:∀k cs fz t,w.heap[k]? = some (.cells cs t fz)->t≠62->¬(r.vv.ownBlock=some k\/X k):=by
  rintro k cs fz t hk ht (e | e)
  ·obtain⟨c2,f2,h2⟩:=RowTy.of h.v.own k e
   rw[hk]at h2;simp at h2;exact ht h2.2.1
  ·obtain⟨es,cl,h2⟩:=hX k e
   rw[hk]at h2;cases h2
 have hb1:Blk w1 g (zh s r) 47:=hc.blk h.blk (hno _ _ _ _ h.blk (by decide))
 have hc2:Chg (fun k=>k=g) w1 (w1.setCell ⟨g,5,none⟩ v'):=by
  have h2:=setCells_grown w1 g 5 [v']
  exact(Chg.refl _ w1).grown h2 fun k hk _=>by cases hk;rfl
 have hn2:∀k cs fz t,w1.heap[k]? = some (.cells cs t fz)->t≠47->¬k=g:=by
  rintro k cs fz t hk ht rfl
  unfold Blk at hb1
  rw[hk]at hb1;simp at hb1;exact ht hb1.2.1
 refine⟨⟨hb1.set 5 v',h.lo,(h.b.chg hc (fun k cs fz t hk ht=>hno k cs fz t hk (by rcases ht with rfl | rfl<;>decide))).chg hc2 (fun k cs fz t hk ht=>hn2 k cs fz t hk (by rcases ht with rfl | rfl<;>decide)),h.be,(h.k.chg hc (fun k cs fz t hk ht=>hno k cs fz t hk (by rcases ht with rfl | rfl<;>decide))).chg hc2 (fun k cs fz t hk ht=>hn2 k cs fz t hk (by rcases ht with rfl | rfl<;>decide)),h.ke,(h.h.chg hc (fun k cs fz t hk ht=>hno k cs fz t hk (by rcases ht with rfl | rfl<;>decide))).chg hc2 (fun k cs fz t hk ht=>hn2 k cs fz t hk (by rcases ht with rfl | rfl<;>decide)),h.he,hr.chg hc2 (fun k cs fz t hk ht=>hn2 k cs fz t hk (by rcases ht with rfl | rfl<;>decide)),rfl,(h.d.chg hc (fun k cs fz t hk ht=>hno k cs fz t hk (by rcases ht with rfl | rfl<;>decide))).chg hc2 (fun k cs fz t hk ht=>hn2 k cs fz t hk (by rcases ht with rfl | rfl<;>decide)),h.de⟩,⟨?_,?_,?_,?_,?_⟩⟩
 ·exact hc2.os.trans hc.os
 ·exact hc2.tape.trans hc.tape
 ·exact hc2.output.trans hc.output
 ·exact Nat.le_trans hc.size hc2.size
 ·intro k hk hn
  refine(hc2.block k (Nat.lt_of_lt_of_le hk hc.size) fun e=>hn (Or.inl (Or.inl e))).trans (hc.block k hk ?_)
  rintro(e | e)
  ·obtain⟨c2,f2,h2⟩:=RowTy.of h.v.own k e
   exact hn (Or.inl (Or.inr ⟨h.v.lo e,c2,_,f2,h2,by unfold rowT;simp⟩))
  ·exact hn (Or.inr e)
theorem StO.setD {X:Nat->Prop}(h:StO w B g s r) {w1:World}(hX:∀k,X k->IsMapB w k)(hc:Chg (fun k=>r.vd.ownBlock=some k\/X k) w w1) {v':Value} {zs:List (Hd _)}(hr:Rws sD 73 w1 B v' zs):
 StO (w1.setCell ⟨g,6,none⟩ v') B g {s with decs:=zs.map (·.1)} {r with vd:=v',yd:=zs}/\Chg (fun k=>Own9 w B g k\/X k) w (w1.setCell ⟨g,6,none⟩ v'):=by
 have hno:∀k cs fz t,w.heap[k]? = some (.cells cs t fz)->t≠73->¬(r.vd.ownBlock=some k\/X k):=by
  rintro k cs fz t hk ht (e | e)
  ·obtain⟨c2,f2,h2⟩:=RowTy.of h.d.own k e
   rw[hk]at h2;simp at h2;exact ht h2.2.1
  ·obtain⟨es,cl,h2⟩:=hX k e
   rw[hk]at h2;cases h2
 have hb1:Blk w1 g (zh s r) 47:=hc.blk h.blk (hno _ _ _ _ h.blk (by decide))
 have hc2:Chg (fun k=>k=g) w1 (w1.setCell ⟨g,6,none⟩ v'):=by
  have h2:=setCells_grown w1 g 6 [v']
  exact(Chg.refl _ w1).grown h2 fun k hk _=>by cases hk;rfl
 have hn2:∀k cs fz t,w1.heap[k]? = some (.cells cs t fz)->t≠47->¬k=g:=by
  rintro k cs fz t hk ht rfl
  unfold Blk at hb1
  rw[hk]at hb1;simp at hb1;exact ht hb1.2.1
 refine⟨⟨hb1.set 6 v',h.lo,(h.b.chg hc (fun k cs fz t hk ht=>hno k cs fz t hk (by rcases ht with rfl | rfl<;>decide))).chg hc2 (fun k cs fz t hk ht=>hn2 k cs fz t hk (by rcases ht with rfl | rfl<;>decide)),h.be,(h.k.chg hc (fun k cs fz t hk ht=>hno k cs fz t hk (by rcases ht with rfl | rfl<;>decide))).chg hc2 (fun k cs fz t hk ht=>hn2 k cs fz t hk (by rcases ht with rfl | rfl<;>decide)),h.ke,(h.h.chg hc (fun k cs fz t hk ht=>hno k cs fz t hk (by rcases ht with rfl | rfl<;>decide))).chg hc2 (fun k cs fz t hk ht=>hn2 k cs fz t hk (by rcases ht with rfl | rfl<;>decide)),h.he,(h.v.chg hc (fun k cs fz t hk ht=>hno k cs fz t hk (by rcases ht with rfl | rfl<;>decide))).chg hc2 (fun k cs fz t hk ht=>hn2 k cs fz t hk (by rcases ht with rfl | rfl<;>decide)),h.ve,hr.chg hc2 (fun k cs fz t hk ht=>hn2 k cs fz t hk (by rcases ht with rfl | rfl<;>decide)),rfl⟩,⟨?_,?_,?_,?_,?_⟩⟩
 ·exact hc2.os.trans hc.os
 ·exact hc2.tape.trans hc.tape
 ·exact hc2.output.trans hc.output
 ·exact Nat.le_trans hc.size hc2.size
 ·intro k hk hn
  refine(hc2.block k (Nat.lt_of_lt_of_le hk hc.size) fun e=>hn (Or.inl (Or.inl e))).trans (hc.block k hk ?_)
  rintro(e | e)
  ·obtain⟨c2,f2,h2⟩:=RowTy.of h.d.own k e
   exact hn (Or.inl (Or.inr ⟨h.d.lo e,c2,_,f2,h2,by unfold rowT;simp⟩))
  ·exact hn (Or.inr e)
end
section
open Go.RowKit Sha Fct
attribute [local go_sem ↓] execOp_loadId execOp_loadOK execOp_allocOK execOp_storeOK execOp_loadOH execOp_allocOH execOp_storeOH
def goesB (S:List Fct.Id)(x:Fct.Id×List Int):Bool:=decide (x.1∈S)
theorem prdB (gb mb:Nat)(S:List Fct.Id)(ys:List (Hd (Fct.Id×List Int)))(hok:∀y∈ys,sB.ok y.1):PrdB mb (.pointer (some ⟨gb,0,none⟩)) (goesB S) ys (fun w _=>Takn w mb S/\Blk w gb [.map (some mb)] 215) where
 call w k hk h:=(rl1_any _ _ _ (hok _ (List.getElem_mem hk)) gb mb S w h.2 h.1).mono (by
  rintro e w' ⟨rfl,hb⟩
  exact⟨rfl,⟨h.1.below hb,h.2.below hb h.2.lt⟩,below_grown hb _⟩)
 stays w w' k row h hg hr:=⟨h.1.grown hg hr,blk_grown h.2 hg fun e=>by
  obtain⟨cs,fz,h2⟩:=hr gb e
  have h3:=h.2
  unfold Blk at h3
  rw[h2]at h3;simp at h3⟩
 map w k h:=h.1.isMap
def RelP (s:Ste)(S:List Fct.Id):Ste:={s with blobs:=s.blobs.filter fun x=>!decide (x.1∈S) || needed s.keeps s.hints x.1}
def StOP (B g:Nat)(X:Nat->Prop)(t:Ste)(w:World)(e:Ending)(w':World):Prop:=e= .returned (.tuple #[])/\∃r',StO w' B g t r'/\Chg (fun k=>Own9 w B g k\/X k) w w'
theorem ZB {w w':World} {B g mb:Nat} {s:Ste} {r:Rows9}(h:StO w B g s r)(hc:Chg (fun k=>k=mb) w w')(hm:IsMapB w mb):StO w' B g s r:=h.chg hc fun k cs fz t hk _ e=>by
 obtain⟨es,c,h2⟩:=hm
 subst e
 rw[h2]at hk;cases hk
theorem zU (w:World)(B g mb:Nat)(s:Ste)(r:Rows9)(S:List Fct.Id)(h:StO w B g s r)(hT:Takn w mb S)(hn:r.yb.length<=1000000000)(hn1:r.yk.length<=1000000000)(hn2:r.yh.length<=1000000000):
 Calls Tryz.prog 158 #[.pointer (some ⟨g,0,none⟩),.map (some mb)] w (StOP B g (fun k=>k=mb) (RelP s S) w):=by
 obtain⟨pk,ck,hvk,_⟩:=h.k.told
 obtain⟨ph,ch,hvh,_⟩:=h.h.told
 obtain⟨pb,cb,hvb,_⟩:=h.b.told
 obtain⟨nk,hnk⟩:∃n,n=r.yk.length:=⟨_,rfl⟩
 obtain⟨nh,hnh⟩:∃n,n=r.yh.length:=⟨_,rfl⟩
 rw[<-hnk]at hvk hn1
 rw[<-hnh]at hvh hn2
 -- the map in a box
 have hbx:=(qB w.heap.size w).alloc (qD _) (.cells #[.map (some mb)] 215)
 have hk1:Blk (w.alloc (.cells #[.map (some mb)] 215)) w.heap.size [.map (some mb)] 215:=Blk.new w _ _
 have HS:=xF (h.below hbx)
 have HT:=xF (hT.below hbx)
 have HC:=xF (show Chg (fun k=>k=mb) w (w.alloc (.cells #[.map (some mb)] 215))from(Chg.refl _ w).grown (below_grown hbx none) fun k hk=>by cases hk)
 have HH:=xF h
 have HM:=xF hT.isMap
 have HNK:=xF hnk
 have HNH:=xF hnh
 have HVK:=xF hvk
 have HVH:=xF hvh
 have HVB:=xF hvb
 have HN:=xF hn
 have cK:(w.alloc (.cells #[.map (some mb)] 215)).cell? ⟨g,3,none⟩=some (.slice pk nk ck):=by rw[HS.out.blk.cell 3,<-hvk];rfl
 have HKB:=xF hk1
 clear h hT hnk hnh hvk hvh hvb hk1 hbx hn
 go_enter Tryz.func158,Tryz.ntmps158
 go_wp2_with fail
 obtain⟨g3,hg3⟩:∃b,b=w.heap.size:=⟨_,rfl⟩
 rw[<-hg3]at HKB ⊢
 clear hg3 cK
 generalize w.alloc (.cells #[.map (some mb)] 215)=w1 at *
 go_loopw [13] (fun i wr=>∃(a:Nat) (Sa:List Fct.Id),i= .int .i64 a/\a<=nk/\Hid (Takn wr mb Sa)/\Hid (∀d,d∈Sa↔(d∈S/\∀x∈(r.yk.map (·.1)).take a,x.2≠d))/\Hid (Chg (fun k=>k=mb) w wr)/\Hid (Blk wr g3 [.map (some mb)] 215)) (fun i _=>nk - (intOf i).toNat)
 case atStart=>exact⟨0,S,rfl,by omega,HT,xF (by intro d;simp),HC,HKB⟩
 case round=>
  obtain⟨a,Sa,rfl,ha,HTA,HSA,HCA,HKA⟩:=hrel
  have HSO:=xF (ZB HH.out HCA.out HM.out)
  by_cases han:a < nk
  ·have hay:a < r.yk.length:=by rw[<-HNK.out];exact han
   obtain⟨gk,c2,hv,hr⟩:=HSO.out.k.el a hay
   rw[HVK.out]at hv
   have hv2:pk=some ⟨gk,0,none⟩:=by injection hv
   subst hv2
   have hoky:=HSO.out.k.ok _ (List.getElem_mem hay)
   have hta:(r.yk.map (·.1)).take (a+1)=(r.yk.map (·.1)).take a++[r.yk[a].1]:=by
    rw[List.take_succ_eq_append_getElem (by simpa using hay)];simp
   have HTK:=xF hta
   generalize r.yk[a] = y at *
   have hr2:wr.rangeAt gk (a*33) (kcells y.1 y.2.1 y.2.2):=hr
   have l1:=load_OK hoky hr2
   have al:=alloc_OK wr
   have sN:=storeN_OK wr hoky y.2.1 y.2.2
   have hbk:Blk (wr.alloc (.cells (kcells y.1 y.2.1 y.2.2).toArray 95)) wr.heap.size (kcells y.1 y.2.1 y.2.2) 95:=Blk.new wr _ 95
   have hb2:=(qB wr.heap.size wr).alloc (qD _) (.cells (kcells y.1 y.2.1 y.2.2).toArray 95)
   have HT2:=xF (HTA.out.below hb2)
   have HC2:=xF (HCA.out.grown (below_grown hb2 none) fun k hk=>by cases hk)
   have hk2:=HKA.out.below hb2 HKA.out.lt
   have HK2:=xF hk2
   obtain⟨b0,hb0⟩:∃b,b=wr.heap.size:=⟨_,rfl⟩
   rw[<-hb0]at al sN hbk
   have c2':=hk2.cell 0
   have hd:=hoky.2
   clear hb0 hr hr2 hv hb2 hk2 hta HTA HCA HKA
   generalize wr.alloc (.cells (kcells (0,Fld.zero32) none 0).toArray 95)=w2 at *
   generalize wr.alloc (.cells (kcells y.1 y.2.1 y.2.2).toArray 95)=w3 at *
   rw[kcells_id]at hbk
   have l2:=load_idr (g:=b0) (o:=1) hoky.2.1 (range_mid hbk rfl)
   clear hbk
   have c3:w3.cell? ⟨g3,0,none⟩=some (.map (some mb)):=c2'
   clear c2'
   obtain⟨w4,dl,hT4,hg4⟩:=HT2.out.drop hd
   have HT4:=xF hT4
   have HC4:=xF (HC2.out.grown hg4 fun k hk _=>by cases hk;rfl)
   have HK4:=xF (blk_grown HK2.out hg4 fun e=>isMap_ne HT2.out.isMap HK2.out (by cases e;rfl))
   have hjn2:(0:Int)<=(a:Int)/\(a:Int) < (nk:Int):=by omega
   have HYD:=xF (⟨y,rfl⟩:∃z,z=y)
   clear hT4 hg4 hd hoky
   go_wp2_with (at_builtin;refine delete_law _ rfl (.tmp 17) (.tmp 19) 215 25 rfl _ _ rfl rfl (dl _) ?_)
   go_roundw
   case rel=>
    refine⟨a+1,_,by go_num,by omega,HT4,xF fun d=>?_,HC4,HK4⟩
    rw[HTK.out,List.mem_filter,HSA.out d]
    simp only[List.mem_append,List.mem_singleton,Bool.not_eq_true',decide_eq_false_iff_not]
    constructor
    ·rintro⟨⟨h1,h2⟩,h3⟩
     refine⟨h1,?_⟩
     rintro x (hx | rfl)
     ·exact h2 x hx
     ·exact fun e=>h3 e.symm
    ·rintro⟨h1,h2⟩
     exact⟨⟨h1,fun x hx=>h2 x (Or.inl hx)⟩,fun e=>h2 _ (Or.inr rfl) e.symm⟩
   case measure=>simp[intOf];omega
  ·obtain rfl:a=nk:=by omega
   have hall:(r.yk.map (·.1)).take a=s.keeps:=by rw[List.take_of_length_le (by rw[List.length_map,HNK.out];omega)];exact HH.out.ke
   rw[hall]at HSA
   have cH:wr.cell? ⟨g,4,none⟩=some (.slice ph nh ch):=by rw[HSO.out.blk.cell 4,<-HVH.out];rfl
   clear hall
   go_wp2_with fail
   clear cH
   go_loopw [26] (fun i wr=>∃(a2:Nat) (Sb:List Fct.Id),i= .int .i64 a2/\a2<=nh/\Hid (Takn wr mb Sb)/\Hid (∀d,d∈Sb↔(d∈Sa/\∀x∈(r.yh.map (·.1)).take a2,x.2.2≠d))/\Hid (Chg (fun k=>k=mb) w wr)/\Hid (Blk wr g3 [.map (some mb)] 215)) (fun i _=>nh - (intOf i).toNat)
   case atStart=>exact⟨0,Sa,rfl,by omega,HTA,xF (by intro d;simp),HCA,HKA⟩
   case round=>
    clear HTA HCA HKA HSO
    obtain⟨a2,Sb,rfl,ha2,HTA,HSB,HCA,HKA⟩:=hrel
    have HSO:=xF (ZB HH.out HCA.out HM.out)
    by_cases han:a2 < nh
    ·have hay:a2 < r.yh.length:=by rw[<-HNH.out];exact han
     obtain⟨gk,c2,hv,hr⟩:=HSO.out.h.el a2 hay
     rw[HVH.out]at hv
     have hv2:ph=some ⟨gk,0,none⟩:=by injection hv
     subst hv2
     have hoky:=HSO.out.h.ok _ (List.getElem_mem hay)
     have hta:(r.yh.map (·.1)).take (a2+1)=(r.yh.map (·.1)).take a2++[r.yh[a2].1]:=by
      rw[List.take_succ_eq_append_getElem (by simpa using hay)];simp
     have HTK:=xF hta
     generalize r.yh[a2] = y at *
     have hr2:wr.rangeAt gk (a2*34) (hcells y.1 y.2.1 y.2.2):=hr
     have l1:=load_OH hoky hr2
     have al:=alloc_OH wr
     have sN:=storeN_OH wr hoky y.2.1 y.2.2
     have hbk:Blk (wr.alloc (.cells (hcells y.1 y.2.1 y.2.2).toArray 97)) wr.heap.size (hcells y.1 y.2.1 y.2.2) 97:=Blk.new wr _ 97
     have hb2:=(qB wr.heap.size wr).alloc (qD _) (.cells (hcells y.1 y.2.1 y.2.2).toArray 97)
     have HT2:=xF (HTA.out.below hb2)
     have HC2:=xF (HCA.out.grown (below_grown hb2 none) fun k hk=>by cases hk)
     have hk2:=HKA.out.below hb2 HKA.out.lt
     have HK2:=xF hk2
     obtain⟨b0,hb0⟩:∃b,b=wr.heap.size:=⟨_,rfl⟩
     rw[<-hb0]at al sN hbk
     have c2':=hk2.cell 0
     have hd:=hoky.2.2
     clear hb0 hr hr2 hv hb2 hk2 hta HTA HCA HKA
     generalize wr.alloc (.cells (hcells (0,0,Fld.zero32) none 0).toArray 97)=w2 at *
     generalize wr.alloc (.cells (hcells y.1 y.2.1 y.2.2).toArray 97)=w3 at *
     rw[hcells_id]at hbk
     have l2:=load_idr (g:=b0) (o:=2) hoky.2.2.1 (range_mid hbk rfl)
     clear hbk
     have c3:w3.cell? ⟨g3,0,none⟩=some (.map (some mb)):=c2'
     clear c2'
     obtain⟨w4,dl,hT4,hg4⟩:=HT2.out.drop hd
     have HT4:=xF hT4
     have HC4:=xF (HC2.out.grown hg4 fun k hk _=>by cases hk;rfl)
     have HK4:=xF (blk_grown HK2.out hg4 fun e=>isMap_ne HT2.out.isMap HK2.out (by cases e;rfl))
     have hjn2:(0:Int)<=(a2:Int)/\(a2:Int) < (nh:Int):=by omega
     have HYD:=xF (⟨y,rfl⟩:∃z,z=y)
     clear hT4 hg4 hd hoky
     go_wp2_with (at_builtin;refine delete_law _ rfl (.tmp 30) (.tmp 32) 215 25 rfl _ _ rfl rfl (dl _) ?_)
     go_roundw
     case rel=>
      refine⟨a2+1,_,by go_num,by omega,HT4,xF fun d=>?_,HC4,HK4⟩
      rw[HTK.out,List.mem_filter,HSB.out d]
      simp only[List.mem_append,List.mem_singleton,Bool.not_eq_true',decide_eq_false_iff_not]
      constructor
      ·rintro⟨⟨h1,h2⟩,h3⟩
       refine⟨h1,?_⟩
       rintro x (hx | rfl)
       ·exact h2 x hx
       ·exact fun e=>h3 e.symm
      ·rintro⟨h1,h2⟩
       exact⟨⟨h1,fun x hx=>h2 x (Or.inl hx)⟩,fun e=>h2 _ (Or.inr rfl) e.symm⟩
     case measure=>simp[intOf];omega
    ·obtain rfl:a2=nh:=by omega
     have hall2:(r.yh.map (·.1)).take a2=s.hints:=by rw[List.take_of_length_le (by rw[List.length_map,HNH.out];omega)];exact HH.out.he
     rw[hall2]at HSB
     have hfl:(r.yb.filter fun y=>!goesB Sb y.1).map (·.1)=(RelP s S).blobs:=by
      show _=s.blobs.filter _
      rw[<-HH.out.be,List.filter_map]
      congr 1
      refine List.filter_congr fun y _=>?_
      have h1:=HSA.out y.1.1
      have h2:=HSB.out y.1.1
      rw[h1]at h2
      unfold goesB needed
      simp only[Function.comp]
      rw[Bool.eq_iff_iff]
      simp only[Bool.not_eq_true',decide_eq_false_iff_not,Bool.or_eq_true,List.any_eq_true,decide_eq_true_eq,h2]
      constructor
      ·intro h3
       rcases Classical.em (y.1.1∈S)with h4 | h4
       ·rcases Classical.em (∃x∈s.keeps,x.2=y.1.1)with h5 | h5
        ·exact Or.inr (Or.inl h5)
        ·rcases Classical.em (∃x∈s.hints,x.2.2=y.1.1)with h6 | h6
         ·exact Or.inr (Or.inr h6)
         ·exact absurd ⟨⟨h4,fun x hx e=>h5 ⟨x,hx,e⟩⟩,fun x hx e=>h6 ⟨x,hx,e⟩⟩ h3
       ·exact Or.inl h4
      ·rintro(h3 | ⟨x,hx,e⟩ | ⟨x,hx,e⟩) ⟨⟨h4,h5⟩,h6⟩
       ·exact h3 h4
       ·exact h5 x hx e
       ·exact h6 x hx e
     have HFL:=xF hfl
     have cB:wr.cell? ⟨g,2,none⟩=some (.slice pb r.yb.length cb):=by rw[HSO.out.blk.cell 2,<-HVB.out];rfl
     have hrb:=HSO.out.b
     rw[HVB.out]at hrb
     have HDL:=xF (del_B mb (.pointer (some ⟨g3,0,none⟩)) (goesB Sb) r.yb (fun w _=>Takn w mb Sb/\Blk w g3 [.map (some mb)] 215) (prdB g3 mb Sb r.yb HSO.out.b.ok) wr B (.slice pb r.yb.length cb) hrb ⟨HTA.out,HKA.out⟩ HN.out)
     obtain⟨nb,hnb⟩:∃n,n=r.yb.length:=⟨_,rfl⟩
     rw[<-hnb]at cB HDL
     have HNB:=xF hnb
     clear hall2 hfl hrb hnb
     go_wp2_with fail
     refine HDL.out.mono ?_
     rintro e w5 ⟨v',rfl,hr5,hi5,hc5⟩
     have hc6:Chg (fun k=>r.vb.ownBlock=some k\/k=mb) wr w5:=by rw[HVB.out,<-HNB.out];exact hc5
     have hm:∀k,k=mb->IsMapB wr k:=fun k e=>by rw[e];exact HTA.out.isMap
     obtain⟨hs6,hk6⟩:=HSO.out.setB (X:=fun k=>k=mb) hm hc6 hr5
     have hb5:Blk w5 g (zh s r) 47:=by
      refine hc6.blk HSO.out.blk ?_
      rintro(e | e)
      ·obtain⟨c2,f2,h2⟩:=RowTy.of HSO.out.b.own g e
       have h3:=HSO.out.blk
       unfold Blk at h3
       rw[h3]at h2;simp at h2
      ·exact isMap_ne HTA.out.isMap HSO.out.blk e.symm
     have c5:w5.cell? ⟨g,2,none⟩=some r.vb:=hb5.cell 2
     obtain⟨q5,d5,rfl,_⟩:=hr5.told
     generalize(r.yb.filter fun y=>!goesB Sb y.1).length=n5 at *
     have f5:=hb5.free 2
     have HS6:=xF hs6
     have HK6:=xF hk6
     clear hs6 hk6 hb5 hc6 hm hr5 hi5 hc5
     go_wp2_with fail
     go_end0
     have hs:=HS6.out
     rw[HFL.out]at hs
     exact⟨rfl,_,hs,zd (HCA.out.mono fun k _ hk=>Or.inr hk) HK6.out⟩
end
section
open Go.RowKit Sha Fct
theorem ZC {P:Program}(w:World)(a:Addr)(m:Mode)(fn:Fn)(x y:Array Value):(store a (.func fn x y) m).run P w=stored P w a (.func fn x y) m:=run_store P w a _ m rfl
attribute [local go_sem ↓] execOp_boxFact
attribute [local go_sem] ZC
theorem zg (w:World)(g o:Nat)(v:Value):w.grownBy (w.setCell ⟨g,o,none⟩ v) (some g):=setCells_grown w g o [v]
def takeK (f:Fac)(x:Int×Fct.Id):Bool:=decide (x.1=f.S)
def takeH (f:Fac)(x:Int×Int×Fct.Id):Bool:=decide (x.2.1=f.S)
def IT (f:Fac)(q:Option Addr)(c gt gf gm mb:Nat)(S0:List Fct.Id)(ps:List (Int×Fct.Id))(w:World)(k:Nat):Prop:=
 ∃S,Takn w mb S/\TkB w f q c gt gf gm mb/\∀d,d∈S↔(d∈S0\/∃p∈ps.take k,p.1=f.S/\p.2=d)
section
variable {f:Fac} {q:Option Addr} {c gt gf gm mb:Nat} {S0:List Fct.Id} {ps:List (Int×Fct.Id)} {w w':World} {k:Nat}
theorem IT.step {S:List Fct.Id}(hb:TkB w f q c gt gf gm mb)(hm:IsMapB w mb)(hs:∀d,d∈S↔(d∈S0\/∃p∈ps.take k,p.1=f.S/\p.2=d))(hk:k < ps.length)(hg:w.grownBy w' (some mb))(hT:Takn w' mb (tk1 f ps[k].1 ps[k].2 S)):IT f q c gt gf gm mb S0 ps w' (k+1):=by
 refine⟨_,hT,hb.grown hg (fun j cs t e hj=>absurd (by cases e;rfl) (isMap_ne hm hj)),fun d=>?_⟩
 rw[List.take_succ_eq_append_getElem hk]
 unfold tk1
 split
 ·rename_i h
  rw[mem_more1,hs d]
  simp only[List.mem_append,List.mem_singleton]
  constructor
  ·rintro((h1 | ⟨p,h1,h2⟩) | h1)
   ·exact Or.inl h1
   ·exact Or.inr ⟨p,Or.inl h1,h2⟩
   ·exact Or.inr ⟨_,Or.inr rfl,h,h1.symm⟩
  ·rintro(h1 | ⟨p,h1 | rfl,h2⟩)
   ·exact Or.inl (Or.inl h1)
   ·exact Or.inl (Or.inr ⟨p,h1,h2⟩)
   ·exact Or.inr h2.2.symm
 ·rename_i h
  rw[hs d]
  simp only[List.mem_append,List.mem_singleton]
  constructor
  ·rintro(h1 | ⟨p,h1,h2⟩)
   ·exact Or.inl h1
   ·exact Or.inr ⟨p,Or.inl h1,h2⟩
  ·rintro(h1 | ⟨p,h1 | rfl,h2⟩)
   ·exact Or.inl h1
   ·exact Or.inr ⟨p,h1,h2⟩
   ·exact absurd h2.1 h
theorem IT.stays {row:Option Nat} {t:TypeId}(h:IT f q c gt gf gm mb S0 ps w k)(hg:w.grownBy w' row)(hr:RowTy w row t)(ht:t≠221/\t≠28/\t≠215):IT f q c gt gf gm mb S0 ps w' k:=by
 obtain⟨S,h1,h2,h3⟩:=h
 refine⟨S,h1.grown hg hr,h2.grown hg fun j cs t' e hj=>?_,h3⟩
 obtain⟨c2,f2,h4⟩:=hr j e
 unfold Blk at hj
 rw[hj]at h4;simp at h4
 obtain rfl:=h4.2.1
 exact ht
theorem IT.map (h:IT f q c gt gf gm mb S0 ps w k):IsMapB w mb:=by
 obtain⟨S,h1,_⟩:=h
 exact h1.isMap
end
theorem prdK (f:Fac)(q:Option Addr)(c gt gf gm mb:Nat)(S0:List Fct.Id)(ys:List (Hd (Int×Fct.Id)))(hok:∀y∈ys,sK.ok y.1):PrdK mb (.pointer (some ⟨gt,0,none⟩)) (takeK f) ys (IT f q c gt gf gm mb S0 (ys.map (·.1))) where
 call w k hk h:=by
  obtain⟨S,h1,h2,h3⟩:=h
  refine(tk2_any _ _ _ (hok _ (List.getElem_mem hk)) f q c gt gf gm mb S w h2 h1).mono ?_
  rintro e w' ⟨rfl,hT,hg⟩
  exact⟨rfl,IT.step h2 h1.isMap h3 (by simpa using hk) hg (by simpa using hT),hg⟩
 stays w w' k row h hg hr:=h.stays hg hr (by decide)
 map w k h:=h.map
theorem prdH (f:Fac)(q:Option Addr)(c gt gf gm mb:Nat)(S0:List Fct.Id)(ys:List (Hd (Int×Int×Fct.Id)))(hok:∀y∈ys,sH.ok y.1):PrdH mb (.pointer (some ⟨gt,0,none⟩)) (takeH f) ys (IT f q c gt gf gm mb S0 (ys.map fun y=>(y.1.2.1,y.1.2.2))) where
 call w k hk h:=by
  obtain⟨S,h1,h2,h3⟩:=h
  refine(tk3_any _ _ _ (hok _ (List.getElem_mem hk)) f q c gt gf gm mb S w h2 h1).mono ?_
  rintro e w' ⟨rfl,hT,hg⟩
  exact⟨rfl,IT.step h2 h1.isMap h3 (by simpa using hk) hg (by simpa using hT),hg⟩
 stays w w' k row h hg hr:=h.stays hg hr (by decide)
 map w k h:=h.map
theorem Zs {w w':World} {B g mb:Nat} {s:Ste} {r:Rows9} {row:Option Nat} {t:TypeId}(h:StO w B g s r)(hc:Chg (fun k=>row=some k\/k=mb) w w')(hr:RowTy w row t)(ht:rowT t)(hm:IsMapB w mb):Blk w' g (zh s r) 47:=by
 refine hc.blk h.blk ?_
 rintro(e | e)
 ·obtain⟨c2,f2,h2⟩:=hr g e
  have h3:=h.blk
  unfold Blk at h3
  rw[h3]at h2;simp at h2
  exact(Yt ht).2 h2.2.1.symm
 ·exact isMap_ne hm h.blk e.symm
theorem yN (w:World)(B g:Nat)(s:Ste)(r:Rows9)(f:Fac)(q:Option Addr)(c:Nat)(h:StO w B g s r)(hf:f.K=10)(hn:r.yb.length<=1000000000)(hn1:r.yk.length<=1000000000)(hn2:r.yh.length<=1000000000):
 Calls Tryz.prog 135 #[.pointer (some ⟨g,0,none⟩),.agg (fcells f q c).toArray] w (StOP B g (fun _=>False) (s.less f) w):=by
 have bx:=run_boxOp (P:=Tryz.prog) (t:=28) (cs:=(fcells f q c).toArray) w
 have hmm:(Instr.makeMap 215 none).run Tryz.prog (w.alloc (.cells (fcells f q c).toArray 28))= .ok (.map (some (w.alloc (.cells (fcells f q c).toArray 28)).heap.size)) ((w.alloc (.cells (fcells f q c).toArray 28)).alloc (.map #[] 0)):=run_makeMap _ _
 have hb1:=(qB w.heap.size w).alloc (qD _) (.cells (fcells f q c).toArray 28)
 have hk1:Blk (w.alloc (.cells (fcells f q c).toArray 28)) w.heap.size (fcells f q c) 28:=Blk.new w _ _
 obtain⟨gf,hgf⟩:∃b,b=w.heap.size:=⟨_,rfl⟩
 generalize hw1:w.alloc (.cells (fcells f q c).toArray 28)=w1 at *
 have hT2:=Takn.new w1
 have hb2:=hb1.alloc hb1.size (.map #[] 0)
 have hk2:Blk (w1.alloc (.map #[] 0)) w.heap.size (fcells f q c) 28:=hk1.old _
 obtain⟨mb,hmb⟩:∃b,b=w1.heap.size:=⟨_,rfl⟩
 have hmw:w.heap.size<=mb:=by rw[hmb];exact hb1.size
 rw[<-hmb]at hT2 hmm
 generalize w1.alloc (.map #[] 0)=w2 at *
 have hk3:Blk (w2.alloc (.cells #[.map (some mb)] 215)) w2.heap.size [.map (some mb)] 215:=Blk.new w2 _ _
 have hs3:(w2.alloc (.cells #[.map (some mb)] 215)).heap.size=w2.heap.size+1:=World.size_alloc ..
 have hk4:=Blk.new (w2.alloc (.cells #[.map (some mb)] 215)) #[Value.func (.func 163) #[] #[.pointer (some ⟨w.heap.size,0,none⟩),.pointer (some ⟨w2.heap.size,0,none⟩)]] 221
 rw[hs3]at hk4
 have hb3:=(hb2.alloc hb2.size (.cells #[.map (some mb)] 215)).alloc (by rw[hs3];have:=hb2.size;omega) (.cells #[Value.func (.func 163) #[] #[.pointer (some ⟨w.heap.size,0,none⟩),.pointer (some ⟨w2.heap.size,0,none⟩)]] 221)
 have hk5:=hk3.old (.cells #[Value.func (.func 163) #[] #[.pointer (some ⟨w.heap.size,0,none⟩),.pointer (some ⟨w2.heap.size,0,none⟩)]] 221)
 have hk6:=(hk2.old (.cells #[.map (some mb)] 215)).old (.cells #[Value.func (.func 163) #[] #[.pointer (some ⟨w.heap.size,0,none⟩),.pointer (some ⟨w2.heap.size,0,none⟩)]] 221)
 have hT5:=(hT2.below ((qB w2.heap.size w2).alloc (qD _) (.cells #[.map (some mb)] 215)))
 have hT6:=hT5.below ((qB _ _).alloc (qD _) (.cells #[Value.func (.func 163) #[] #[.pointer (some ⟨w.heap.size,0,none⟩),.pointer (some ⟨w2.heap.size,0,none⟩)]] 221))
 have htk:TkB _ f q c (w2.heap.size+1) w.heap.size w2.heap.size mb:=⟨hk4,hk6,hk5⟩
 have hso:=h.below hb3
 clear hT2 hT5 hk1 hk2 hk3 hk4 hk5 hk6 hb1 hb2 hs3
 obtain⟨pk,ck,hvk,_⟩:=h.k.told
 obtain⟨ph,ch,hvh,_⟩:=h.h.told
 obtain⟨nk,hnk⟩:∃n,n=r.yk.length:=⟨_,rfl⟩
 obtain⟨nh,hnh⟩:∃n,n=r.yh.length:=⟨_,rfl⟩
 rw[<-hnk]at hvk
 rw[<-hnh]at hvh
 have c3:=hso.blk.cell 3
 rw[show(zh s r)[3]? = some (Value.slice pk nk ck) by rw[<-hvk];rfl]at c3
 have HMW:=xF hmw
 have HS:=xF hso
 have HT:=xF hT6
 have HTK:=xF htk
 have HB:=xF hb3
 have HH:=xF h
 have HNK:=xF hnk
 have HNH:=xF hnh
 have HVK:=xF hvk
 have HVH:=xF hvh
 have HN:=xF (⟨hn,hn1,hn2⟩:r.yb.length<=1000000000/\r.yk.length<=1000000000/\r.yh.length<=1000000000)
 have HF:=xF hf
 clear hmw hso hT6 htk hb3 h hnk hnh hvk hvh hn hn1 hn2 hf hgf hmb hw1
 go_enter Tryz.func135,Tryz.ntmps135
 go_wp2_with fail
 generalize(w2.alloc (.cells #[.map (some mb)] 215)).alloc (.cells #[Value.func (.func 163) #[] #[.pointer (some ⟨w.heap.size,0,none⟩),.pointer (some ⟨w2.heap.size,0,none⟩)]] 221)=w4 at *
 obtain⟨gt,hgt⟩:∃b,b=w2.heap.size+1:=⟨_,rfl⟩
 rw[<-hgt]at HTK ⊢
 obtain⟨gm,hgm⟩:∃b,b=w2.heap.size:=⟨_,rfl⟩
 rw[<-hgm]at HTK ⊢
 obtain⟨gf2,hgf⟩:∃b,b=w.heap.size:=⟨_,rfl⟩
 rw[<-hgf]at HTK ⊢
 clear hgt hgm hgf c3
 -- the keeps
 have hrk:=HS.out.k
 rw[HVK.out]at hrk
 have hI0:IT f q c gt gf2 gm mb [] (r.yk.map (·.1)) w4 0:=⟨[],HT.out,HTK.out,by intro d;simp⟩
 have hd1:=del_K mb (.pointer (some ⟨gt,0,none⟩)) (takeK f) r.yk _ (prdK f q c gt gf2 gm mb [] r.yk HS.out.k.ok) w4 B _ hrk hI0 HN.out.2.1
 refine hd1.mono ?_
 rintro e w5 ⟨v5,rfl,hr5,hi5,hc5⟩
 have hc6:Chg (fun k=>r.vk.ownBlock=some k\/k=mb) w4 w5:=by rw[HVK.out];exact hc5
 obtain⟨hs6,hk6⟩:=HS.out.setK (X:=fun k=>k=mb) (fun k e=>by rw[e];exact HT.out.isMap) hc6 hr5
 have hb5:=Zs HS.out hc6 (RowTy.of HS.out.k.own) (Or.inr (Or.inl rfl)) HT.out.isMap
 have c5:w5.cell? ⟨g,3,none⟩=some r.vk:=hb5.cell 3
 have f5:=hb5.free 3
 obtain⟨q5,d5,rfl,_⟩:=hr5.told
 have hi6:IT f q c gt gf2 gm mb [] (r.yk.map (·.1)) (w5.setCell ⟨g,3,none⟩ (.slice q5 (r.yk.filter fun y=>!takeK f y.1).length d5)) r.yk.length:=hi5.stays (zg w5 g 3 _) (t:=47) (fun k e=>by cases e;exact⟨_,_,hb5⟩) (by decide)
 have hke:(r.yk.filter fun y=>!takeK f y.1).map (·.1)=s.keeps.filter (fun x=>!takeK f x):=by
  rw[<-HS.out.ke,List.filter_map];rfl
 have hkl:(r.yk.filter fun y=>!takeK f y.1).length<=1000000000:=Nat.le_trans (List.length_filter_le _ _) HN.out.2.1
 rw[hke]at hs6
 have c4:=hs6.blk.cell 4
 rw[show(zh {s with keeps:=s.keeps.filter (fun x=>!takeK f x)} {r with vk:=.slice q5 (r.yk.filter fun y=>!takeK f y.1).length d5,yk:=r.yk.filter fun y=>!takeK f y.1})[4]? = some (Value.slice ph nh ch) by rw[<-HVH.out];rfl]at c4
 have HS6:=xF hs6
 have HI6:=xF hi6
 have HK6:=xF hk6
 have HKL:=xF hkl
 clear hrk hI0 hd1 hr5 hi5 hc5 hc6 hs6 hk6 hb5 hi6 hke hkl
 go_wp2_with fail
 clear c4 c5 f5
 generalize w5.setCell ⟨g,3,none⟩ (.slice q5 (r.yk.filter fun y=>!takeK f y.1).length d5)=w6 at *
 obtain⟨S1,h1T,h1B,h1S⟩:=HI6.out
 have hrh:=HS6.out.h
 rw[HVH.out]at hrh
 have hI1:IT f q c gt gf2 gm mb S1 (r.yh.map fun y=>(y.1.2.1,y.1.2.2)) w6 0:=⟨S1,h1T,h1B,by intro d;simp⟩
 have hd2:=del_H mb (.pointer (some ⟨gt,0,none⟩)) (takeH f) r.yh _ (prdH f q c gt gf2 gm mb S1 r.yh HS6.out.h.ok) w6 B _ hrh hI1 HN.out.2.2
 refine hd2.mono ?_
 rintro e w7 ⟨v7,rfl,hr7,hi7,hc7⟩
 have hc8:Chg (fun k=>r.vh.ownBlock=some k\/k=mb) w6 w7:=by rw[HVH.out];exact hc7
 obtain⟨hs8,hk8⟩:=HS6.out.setH (X:=fun k=>k=mb) (fun k e=>by rw[e];exact h1T.isMap) hc8 hr7
 have hb7:=Zs HS6.out hc8 (RowTy.of HS6.out.h.own) (Or.inr (Or.inr (Or.inl rfl))) h1T.isMap
 have c7:w7.cell? ⟨g,4,none⟩=some r.vh:=hb7.cell 4
 have f7:=hb7.free 4
 obtain⟨q7,d7,rfl,_⟩:=hr7.told
 have hi8:IT f q c gt gf2 gm mb S1 (r.yh.map fun y=>(y.1.2.1,y.1.2.2)) (w7.setCell ⟨g,4,none⟩ (.slice q7 (r.yh.filter fun y=>!takeH f y.1).length d7)) r.yh.length:=hi7.stays (zg w7 g 4 _) (t:=47) (fun k e=>by cases e;exact⟨_,_,hb7⟩) (by decide)
 have hhe:(r.yh.filter fun y=>!takeH f y.1).map (·.1)=s.hints.filter (fun x=>!takeH f x):=by
  rw[<-HS6.out.he,List.filter_map];rfl
 have hhl:(r.yh.filter fun y=>!takeH f y.1).length<=1000000000:=Nat.le_trans (List.length_filter_le _ _) HN.out.2.2
 rw[hhe]at hs8
 obtain⟨S2,h2T,h2B,h2S⟩:=hi8
 have cm:(w7.setCell ⟨g,4,none⟩ (.slice q7 (r.yh.filter fun y=>!takeH f y.1).length d7)).cell? ⟨gm,0,none⟩=some (.map (some mb)):=h2B.m.cell 0
 have hrl:=zU _ B g mb _ _ S2 hs8 h2T HN.out.1 HKL.out hhl
 have HRL:=xF hrl
 have HK8:=xF hk8
 have H1S:=xF h1S
 have H2S:=xF h2S
 clear hrh hI1 hd2 hr7 hi7 hc7 hc8 hs8 hk8 hb7 hhe hhl h2T h2B h1S h2S hrl h1T h1B
 go_wp2_with fail
 refine HRL.out.mono ?_
 rintro e w9 ⟨rfl,r9,hs9,hk9⟩
 have HS9:=xF hs9
 have HK9:=xF hk9
 clear hs9 hk9 HRL
 go_wp2_with fail
 go_end0
 refine⟨rfl,r9,?_,?_⟩
 ·have hs:=HS9.out
  have e:RelP {s with keeps:=s.keeps.filter (fun x=>!takeK f x),hints:=s.hints.filter (fun x=>!takeH f x)} S2=s.less f:=by
   have hS:∀d,decide (d∈S2)=needed (s.keeps.filter (takeK f)) (s.hints.filter (takeH f)) d:=fun d=>by
    have e1:(r.yk.map (·.1)).take r.yk.length=s.keeps:=by rw[List.take_of_length_le (by simp)];exact HH.out.ke
    have e2:(r.yh.map fun y=>(y.1.2.1,y.1.2.2)).take r.yh.length=s.hints.map fun z=>(z.2.1,z.2.2):=by
     rw[List.take_of_length_le (by simp),<-HH.out.he,List.map_map];rfl
    have h1:=H1S.out d
    have h2:=H2S.out d
    rw[e1]at h1
    rw[e2,h1]at h2
    rw[Bool.eq_iff_iff]
    unfold needed takeK takeH
    simp only[decide_eq_true_eq,h2,Bool.or_eq_true,List.any_eq_true,List.mem_filter,List.not_mem_nil,false_or,List.mem_map]
    constructor
    ·rintro(⟨p,h1,h2,h3⟩ | ⟨p,⟨z,h1,rfl⟩,h2,h3⟩)
     ·exact Or.inl ⟨p,⟨h1,h2⟩,h3⟩
     ·exact Or.inr ⟨z,⟨h1,h2⟩,h3⟩
    ·rintro(⟨p,⟨h1,h2⟩,h3⟩ | ⟨z,⟨h1,h2⟩,h3⟩)
     ·exact Or.inl ⟨p,h1,h2,h3⟩
     ·exact Or.inr ⟨_,⟨z,h1,rfl⟩,h2,h3⟩
   have g1:goesK f=takeK f:=by funext x;unfold goesK takeK;simp[HF.out]
   have g2:goesH f=takeH f:=by funext x;unfold goesH takeH;simp[HF.out]
   unfold RelP Ste.less
   simp only[g1,g2,hS]
  rw[e]at hs;exact hs
 ·have h1:=zd (zd HK6.out HK8.out) HK9.out
  have h2:Chg (fun k=>Own9 w B g k\/k=mb) w w4:=(Chg.refl _ w).grown (below_grown HB.out none) fun k hk=>by cases hk
  have h3:=zd h2 h1
  exact h3.mono fun k hk hc=>hc.imp id fun e=>by have:=HMW.out;omega
end
section
open Go.RowKit Sha Fct
theorem zu (ρ:Operand->Value)(dst:Option Tmp)(parts:Array (Nat×Operand))(ty:TypeId)(pos:String)(after:Array Edge)(guard:Option (Nat×Bool)):
 execOp ρ {dst:=dst,op:=.build 93 parts,type:=ty,pos:=pos,after:=after,guard:=guard}= makeOp 93 (parts.map fun(i,x)=>(i,ρ x)):=by unfold makeOp;rfl
theorem Zm (ρ:Operand->Value)(dst:Option Tmp)(parts:Array (Nat×Operand))(ty:TypeId)(pos:String)(after:Array Edge)(guard:Option (Nat×Bool)):
 execOp ρ {dst:=dst,op:=.build 95 parts,type:=ty,pos:=pos,after:=after,guard:=guard}= makeOp 95 (parts.map fun(i,x)=>(i,ρ x)):=by unfold makeOp;rfl
theorem Zn (ρ:Operand->Value)(dst:Option Tmp)(parts:Array (Nat×Operand))(ty:TypeId)(pos:String)(after:Array Edge)(guard:Option (Nat×Bool)):
 execOp ρ {dst:=dst,op:=.build 97 parts,type:=ty,pos:=pos,after:=after,guard:=guard}= makeOp 97 (parts.map fun(i,x)=>(i,ρ x)):=by unfold makeOp;rfl
theorem Yu (D B:List Int)(h:D.length=32)(q:Option Addr)(m c:Nat)(hm:m=B.length):Tryz.prog.built 93 [(0,.agg (D.map v8).toArray),(1,.slice q m c)] = some (bcells (D,B) q c).toArray:=by
 subst hm
 obtain⟨a0,a1,a2,a3,a4,a5,a6,a7,a8,a9,a10,a11,a12,a13,a14,a15,a16,a17,a18,a19,a20,a21,a22,a23,a24,a25,a26,a27,a28,a29,a30,a31,rfl⟩:=len32 D h
 unfold bcells
 kernel_rfl
theorem Y7 (D B:List Int)(h:D.length=32)(q:Option Addr)(m c:Nat)(hm:m=B.length)(w:World):(makeOp 93 #[(0,.agg (D.map v8).toArray),(1,.slice q m c)]).run Tryz.prog w= .ok (.value (.agg (bcells (D,B) q c).toArray)) w:=run_makeOp w (Yu D B h q m c hm)
theorem yO (D:List Int)(h:D.length=32):Tryz.prog.built 93 [(0,.agg (D.map v8).toArray)] = some (bcells (D,[]) none 0).toArray:=by
 obtain⟨a0,a1,a2,a3,a4,a5,a6,a7,a8,a9,a10,a11,a12,a13,a14,a15,a16,a17,a18,a19,a20,a21,a22,a23,a24,a25,a26,a27,a28,a29,a30,a31,rfl⟩:=len32 D h
 unfold bcells
 kernel_rfl
theorem Yv (D:List Int)(h:D.length=32)(w:World):(makeOp 93 #[(0,.agg (D.map v8).toArray)]).run Tryz.prog w= .ok (.value (.agg (bcells (D,[]) none 0).toArray)) w:=run_makeOp w (yO D h)
theorem Yw (n:Int)(D:List Int)(h:D.length=32)(q:Option Addr)(c:Nat):Tryz.prog.built 95 [(0,.int .i64 n),(1,.agg (D.map v8).toArray)] = some (kcells (n,D) q c).toArray:=by
 obtain⟨a0,a1,a2,a3,a4,a5,a6,a7,a8,a9,a10,a11,a12,a13,a14,a15,a16,a17,a18,a19,a20,a21,a22,a23,a24,a25,a26,a27,a28,a29,a30,a31,rfl⟩:=len32 D h
 unfold kcells
 kernel_rfl
theorem Y8 (n:Int)(D:List Int)(h:D.length=32)(q:Option Addr)(c:Nat)(w:World):(makeOp 95 #[(0,.int .i64 n),(1,.agg (D.map v8).toArray)]).run Tryz.prog w= .ok (.value (.agg (kcells (n,D) q c).toArray)) w:=run_makeOp w (Yw n D h q c)
theorem Yx (m n:Int)(D:List Int)(h:D.length=32)(q:Option Addr)(c:Nat):Tryz.prog.built 97 [(0,.int .i64 m),(1,.int .i64 n),(2,.agg (D.map v8).toArray)] = some (hcells (m,n,D) q c).toArray:=by
 obtain⟨a0,a1,a2,a3,a4,a5,a6,a7,a8,a9,a10,a11,a12,a13,a14,a15,a16,a17,a18,a19,a20,a21,a22,a23,a24,a25,a26,a27,a28,a29,a30,a31,rfl⟩:=len32 D h
 unfold hcells
 kernel_rfl
theorem Y9 (m n:Int)(D:List Int)(h:D.length=32)(q:Option Addr)(c:Nat)(w:World):(makeOp 97 #[(0,.int .i64 m),(1,.int .i64 n),(2,.agg (D.map v8).toArray)]).run Tryz.prog w= .ok (.value (.agg (hcells (m,n,D) q c).toArray)) w:=run_makeOp w (Yx m n D h q c)
theorem Yy (s:Int):Tryz.prog.built 62 [(0,.int .i64 s)] = some (vcells ⟨s,0,0,0,0,[]⟩ none 0).toArray:=by
 unfold vcells
 kernel_rfl
theorem xa (s:Int)(w:World):(makeOp 62 #[(0,.int .i64 s)]).run Tryz.prog w= .ok (.value (.agg (vcells ⟨s,0,0,0,0,[]⟩ none 0).toArray)) w:=run_makeOp w (Yy s)
theorem Yz (s:Int)(B:List Int)(q:Option Addr)(m c:Nat)(hm:m=B.length):Tryz.prog.built 73 [(0,.int .i64 s),(1,.slice q m c)] = some (dcells9 (s,B) q c).toArray:=by
 subst hm
 unfold dcells9
 kernel_rfl
theorem xb (s:Int)(B:List Int)(q:Option Addr)(m c:Nat)(hm:m=B.length)(w:World):(makeOp 73 #[(0,.int .i64 s),(1,.slice q m c)]).run Tryz.prog w= .ok (.value (.agg (dcells9 (s,B) q c).toArray)) w:=run_makeOp w (Yz s B q m c hm)
structure FBx9 (w0:World)(f:Fac)(q:Option Addr)(c:Nat)(w1:World):Prop where
 b1:(boxOp 28 (.agg (fcells f q c).toArray)).run Tryz.prog w0= .ok (.value (.pointer (some ⟨w0.heap.size,0,none⟩))) w1
 k1:Blk w1 w0.heap.size (fcells f q c) 28
 below:Below w0.heap.size w0 w1
 size:w1.heap.size=w0.heap.size+1
theorem fbx9 (w:World)(f:Fac)(q:Option Addr)(c:Nat):∃w1,FBx9 w f q c w1:=
 ⟨w.alloc (.cells (fcells f q c).toArray 28),run_boxOp w,Blk.new w _ _,(qB w.heap.size w).alloc (qD _) _,World.size_alloc ..⟩
theorem FBx9.K {w w1:World} {f:Fac} {q:Option Addr} {c:Nat}(h:FBx9 w f q c w1):w1.cell? ⟨w.heap.size,0,none⟩=some (i64c f.K):=(h.k1.cell 0).trans (fcells_K f q c)
theorem FBx9.S {w w1:World} {f:Fac} {q:Option Addr} {c:Nat}(h:FBx9 w f q c w1):w1.cell? ⟨w.heap.size,1,none⟩=some (i64c f.S):=(h.k1.cell 1).trans (fcells_S f q c)
theorem ZX (x:Fac)(q:Option Addr)(c:Nat):fcells x q c= [i64c x.K,i64c x.S,i64c x.H,i64c x.N,i64c x.O]++x.D.map v8++[.slice q x.B.length c]:=by unfold fcells;simp
theorem zB {w:World} {g:Nat} {f:Fac} {q:Option Addr} {c:Nat}(h:Blk w g (fcells f q c) 28)(hd:f.D.length=32):(loadOp 25 (.pointer (some ⟨g,5,none⟩))).run Tryz.prog w= .ok (.value (.agg (f.D.map v8).toArray)) w:=
 load_idr hd (range_mid (by rw[<-ZX];exact h) rfl)
attribute [local go_sem ↓] execOp_boxFact execOp_loadId Zn execOp_allocOH execOp_storeOH
theorem z9 (f:Fac)(q:Option Addr)(c:Nat)(w:World)(h:sF.ok f)(hd:idOk f.D):
 Calls Tryz.prog 155 #[.agg (fcells f q c).toArray] w fun e w'=>e= .returned (.agg (hcells (f.H,f.S,f.D) none 0).toArray)/\Below w.heap.size w w':=by
 obtain⟨w1,hb⟩:=fbx9 w f q c
 have bx:=hb.b1
 have hok:sH.ok (f.H,f.S,f.D):=⟨h.H,h.S,hd⟩
 have al:=alloc_OH w1
 have st:=storeN_OH w1 hok none 0
 have hk2:=hb.k1.old (.cells (hcells (0,0,Fld.zero32) none 0).toArray 97)
 have hB:=xF (hb.below.alloc (by rw[hb.size];omega) (.cells (hcells (f.H,f.S,f.D) none 0).toArray 97))
 have hC:=xF (show Blk (w1.alloc (.cells (hcells (f.H,f.S,f.D) none 0).toArray 97)) w1.heap.size (hcells (f.H,f.S,f.D) none 0) 97 from Blk.new w1 _ 97)
 have HS:=xF (show(Tryz.prog.info? 97).map (fun i=>i.size)=some (hcells (f.H,f.S,f.D) none 0).toArray.size by rw[isize_H,List.size_toArray];exact congrArg some (sH.len none 0 hok).symm)
 rw[hb.size]at al st hC
 generalize w1.alloc (.cells (hcells (0,0,Fld.zero32) none 0).toArray 97)=w2 at *
 generalize w1.alloc (.cells (hcells (f.H,f.S,f.D) none 0).toArray 97)=w3 at *
 have v0:w2.cell? ⟨w.heap.size,1,none⟩=some (.int .i64 f.S):=(hk2.cell 1).trans (fcells_S f q c)
 have v1:w2.cell? ⟨w.heap.size,2,none⟩=some (.int .i64 f.H):=(hk2.cell 2).trans (fcells_H f q c)
 have l1:=zB hk2 hd.1
 have mk:=fun w=>Y9 f.H f.S f.D hd.1 none 0 w
 clear hb h hd hok hk2
 go_enter Tryz.func155,Tryz.ntmps155
 go_wp2_with fail
 exact bodyPost_ret (v:=.agg (hcells (f.H,f.S,f.D) none 0).toArray) (results_cell_row rfl _ _ _ _ _ _ _ rfl hC.out (Tryz.underlying97) rfl HS.out) rfl ⟨rfl,hB.out⟩
end
section
open Go.RowKit Sha Fct
theorem ZD {P:Program} {ops:Array Oper} {o:Oper} {a:Act} {w:World} {K:Act->World->Prop} {Q:Exit->Act->World->Prop} {E:Prop}
 (hg:o.guard=none) (d x:Operand) (t1 t2:TypeId) (hop:o.op=Op.call {callee:=Callee.builtin Builtin.append,args:=#[d,x],argTypes:=#[t1,t2]})
 (v u:Value) (hd:a.eval d=v) (hx:a.eval x=u) {v':Value} {w':World} (hr:(Builtin.append_ #[t1,t2] o.type #[v,u]).run P w= .ok v' w') (hK:K (a.put o.dst v') w'):
 if Region.wanted o (yielded ops a.tmps)=true then Oper.wp P o a w K Q else E:=by
 have hw:Region.wanted o (yielded ops a.tmps)=true:=by simp[Region.wanted,hg]
 rw[if_pos hw]
 unfold Oper.wp execOp
 simp only[hop,resolve,invoke,builtin,Sem.run_bind,Sem.run_pure,Result.andThen_ok,List.map_toArray,List.map_cons,List.map_nil,hd,hx,hr]
 exact hK
theorem ZK {P:Program} {t e:TypeId} {s:Nat}(hu:P.underlying t=some (.slice e))(he:(P.info? e).map (fun i=>i.size)=some s)(p:Option Addr)(len cap k m:Nat)(hk:k<=m)(hc:m<=cap)(w:World):
 (Instr.sliceAt t (.slice p len cap) (some (.int .i64 k)) (some (.int .i64 m)) none).run P w= .ok (.slice (if cap=k then p else p.map (·.add (k*s))) (m - k) (cap - k)) w:=by
 have hu':P.underlying t=some (.slice (P.elem t)):=by rw[elem_ofS hu];exact hu
 rw[run_sliceAt_slice w t _ _ _ _ hu',run_slice_lh w t p len cap hu' .i64 .i64 k m (by omega) (by omega) (by omega),elem_ofS hu,size_ofS he]
 simp[Result.andThen,sliced]
def DelH1 (w:World)(B g m:Nat)(xs:List Value)(e:Ending)(w':World):Prop:=∃v',e= .returned v'/\w'.ownsRow B 97 34 v' m xs/\w.grownBy w' (some g)
attribute [local go_sem ↓] execOp_sliceH
theorem yP (w:World)(B g m cap i:Nat)(A R1 D rest:List Value)(hA:A.length=i*34)(hR1:R1.length=34)(hD:D.length=(m - i)*34)(hrest:rest.length=(cap - (m+1))*34)(hi:i<=m)(hn:m<=1000000000)(hnc:m+1<=cap)(hm:cap<=maxLen)(hB:B<=g)
 (hk:Blk w g (A++R1++D++rest) 97) (hD1:∀u∈D,u.oneCell'=true):
 Calls Tryz.prog 177 #[.slice (some ⟨g,0,none⟩) (m+1) cap,.int .i64 i,.int .i64 ((i:Int)+1)] w (DelH1 w B g m (A++D)):=by
 have hm2:=hm
 unfold maxLen at hm
 have hL:(A++R1++D++rest).length=cap*34:=by
  rw[qC,qC,qC,hA,hR1,hD,hrest]
  have:(i*34+34)+(m - i)*34+(cap - (m+1))*34=cap*34:=by
   rw[<-Nat.succ_mul,<-Nat.add_mul,<-Nat.add_mul];congr 1;omega
  omega
 -- the tail comes one to the front
 obtain⟨T,hT⟩:∃T,T=(A++R1++D++rest).drop (i*34+D.length):=⟨_,rfl⟩
 have hTl:T.length=(cap - (m+1)+1)*34:=by
  rw[hT,List.length_drop,hL,hD,<-Nat.add_mul,<-Nat.sub_mul];congr 1;omega
 have hkd:w.drew.heap[g]? = some (.cells (A++R1++D++rest).toArray 97 (0,0)):=hk
 obtain⟨i0,hi0,hz0,hz1,hz2⟩:=info_parts info_H
 obtain⟨a0,ha0⟩:∃a:Addr,a=if cap=i+1 then⟨g,0,none⟩else⟨g,(i+1)*34,none⟩:=⟨_,rfl⟩
 have haD:D≠[]->a0=⟨g,(i+1)*34,none⟩:=fun h=>by
  rw[ha0,if_neg]
  rintro rfl
  apply h
  apply List.eq_nil_of_length_eq_zero
  rw[hD,show m - i=0 by omega]
 have c1:∀W,(sliceOp 43 (.slice (some ⟨g,0,none⟩) (m+1) cap) (some (.int .i64 ((i:Int)+1))) none).run Tryz.prog W= .ok (.value (.slice (some a0) (m - i) (cap - (i+1)))) W:=fun W=>by
  have h:=cut_lH (some ⟨g,0,none⟩) (m+1) cap (i+1) (by omega) hnc W
  rw[show m+1 - (i+1)=m - i by omega,show(if cap=i+1 then some (⟨g,0,none⟩:Addr)else(some (⟨g,0,none⟩:Addr)).map (·.add ((i+1)*34)))=some a0 by
   rw[ha0];split<;>simp[Addr.add_mid]]at h
  exact h
 have hcn:∀j u,D[j]? = some u->w.drew.cell? (a0.add j)=some u:=fun j u hj=>by
  rw[haD (by rintro rfl;simp at hj)]
  have h9:Blk w.drew g ((A++R1)++D++rest) 97:=hk
  exact cells_in h9 (by rw[qC,hA,hR1,<-Nat.succ_mul]) j u hj
 have hap:∀ty,(Builtin.append_ #[43,43] ty #[.slice (some ⟨g,0,none⟩) i cap,.slice (some a0) (m - i) (cap - (i+1))]).run Tryz.prog w.drew =
  .ok (.slice (some ⟨g,0,none⟩) m cap) (w.drew.setRow g (A++D++T).toArray):=fun ty=>by
  have h:=run_append_room (P:=Tryz.prog) w.drew 43 ty 97 i0 Tryz.underlying43 hi0 g i cap _ hkd a0 (m - i) (cap - (i+1)) D (by rw[hz1];exact hD) hcn hD1 (by omega) (by rw[hz1,List.size_toArray,hL,hD,<-Nat.add_mul];exact Nat.mul_le_mul_right _ (by omega))
  rw[hz1]at h
  rw[show i+(m - i)=m by omega]at h
  rw[show(A++R1++D++rest).toArray.toList=A++R1++D++rest from rfl,<-hT,show(A++R1++D++rest).take (i*34)=A by rw[List.append_assoc,List.append_assoc,List.take_left' hA]]at h
  exact h
 have k1:Blk (w.drew.setRow g (A++D++T).toArray) g (A++D++T) 97:=Blk.row (w:=w.drew) hk _
 have hg1:w.grownBy (w.drew.setRow g (A++D++T).toArray) (some g):=by
  have h2:=below_setRow (B:=g) (w0:=w) (w:=w.drew) (qB g w).drew (qD _) (A++D++T).toArray
  exact⟨h2.os,h2.tape,h2.output,h2.size,fun k hk hn=>setRow_other w.drew g k _ (fun e=>hn (by rw[e]))⟩
 have hT34:(T.take 34).length=34:=by rw[List.length_take,hTl,Nat.succ_mul];omega
 have hAD:(A++D).length=m*34:=by rw[qC,hA,hD,<-Nat.add_mul];congr 1;omega
 have k1':Blk (w.drew.setRow g (A++D++T).toArray) g (A++D++T.take 34++T.drop 34) 97:=by rw[List.append_assoc (A++D),List.take_append_drop];exact k1
 have hz:=zsize_H
 obtain⟨zz,hzz⟩:∃zz:Value,zz= .agg (hcells (0,0,Fld.zero32) none 0).toArray:=⟨_,rfl⟩
 have hzv:=zeroV_H
 rw[<-hzz]at hz hzv
 have hzo:∀v∈zz.cells.toList,v.oneCell'=true:=by rw[hzz];exact sH.one _ _ _
 have hZl:(Builtin.zeroCells zz.cells 1).toList.length=34:=by rw[Array.length_toList,size_zeroCells,hz]
 have cl:=fun cc=>run_clearS (P:=Tryz.prog) (w.drew.setRow g (A++D++T).toArray) Tryz.underlying43 hzv (by omega) hzo g (m*34) 1 cc (by omega) (by rw[hz];exact k1'.there _ _ (by rw[qC,qC,hAD,hT34];omega))
 have k2:=Blk.setCells (Builtin.zeroCells zz.cells 1).toList (m*34) _ _ _ _ k1' hAD (by rw[hT34,hZl])
 have hg2:=setCells_grown (w.drew.setRow g (A++D++T).toArray) g (m*34) (Builtin.zeroCells zz.cells 1).toList
 have hlast:(A++D++((Builtin.zeroCells zz.cells 1).toList++T.drop 34)).length=cap*34:=by
  rw[qC,hAD,qC,hZl,List.length_drop,hTl,Nat.succ_mul,Nat.add_sub_cancel]
  have:m*34+34+(cap - (m+1))*34=cap*34:=by rw[<-Nat.succ_mul,<-Nat.add_mul];congr 1;omega
  omega
 have HO:=xF (own_ofBlk (B:=B) (n:=m) (s:=34) (cap:=cap) (xs:=A++D) (rest:=(Builtin.zeroCells zz.cells 1).toList++T.drop 34) hB (by rw[<-List.append_assoc];exact k2) (by omega) hm2 hAD hlast)
 have HG:=xF (grown_trans hg1 hg2)
 have c0:=cut_hH (some ⟨g,0,none⟩) (m+1) cap i (by omega)
 have c2:∀W,(sliceOp 43 (.slice (some ⟨g,0,none⟩) m cap) (some (.int .i64 (m:Int))) (some (.int .i64 ((m:Int)+1)))).run Tryz.prog W= .ok (.value (.slice (some ⟨g,m*34,none⟩) 1 (cap - m))) W:=fun W=>by
  have h:=run_sliceOp (ZK Tryz.underlying43 isize_H (some ⟨g,0,none⟩) m cap m (m+1) (by omega) hnc W)
  rw[if_neg (by omega),Nat.add_sub_cancel_left]at h
  simpa[Addr.add_mid]using h
 have hne:((i:Int) == (i:Int)+1)=false:=by rw[beq_eq_false_iff_ne];omega
 clear hlast k2 k1 k1' hg1 hg2 hZl hzo hz hzv hzz hAD hT34 hTl hT hcn haD ha0 hkd hL hk hD1 hrest hD hR1 hA hz0 hz1 hz2 hi0
 generalize w.drew.setRow g (A++D++T).toArray=w1 at *
 generalize w1.setCells g (m*34) (Builtin.zeroCells zz.cells 1).toList=w2 at *
 generalize m - i=l1 at *
 generalize cap - (i+1)=l2 at *
 generalize hl3:cap - m=l3 at *
 go_enter Tryz.func177,Tryz.ntmps177
 go_wp2_with fail
 go_region_law (refine ZD rfl (.tmp 22) (.tmp 25) 43 43 rfl _ _ (by simp[Act.eval,Act.put]) (by simp[Act.eval,Act.put]) (hap _) ?_)
 all_goals
  go_wp2_with (at_builtin;refine clear_law _ rfl (.tmp 31) 43 rfl _ rfl (cl _ _) ?_)
  go_ret
  exact⟨_,rfl,HO.out,HG.out⟩
end
end Go.Proofs.YtokpabkcaofahaaGreat
