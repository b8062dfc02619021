/-
  What stands under factPuts_holds: part 28.
-/
import Derived.Test.YtokpabkcaofahaaGreatPp25
import Derived.Test.YtokpabkcaofahaaGreatPp27
import Derived.Deep.RegionLaw
namespace Go.Proofs.YtokpabkcaofahaaGreat
set_option linter.unusedSimpArgs false
set_option linter.unusedVariables false
set_option maxRecDepth 100000
set_option maxHeartbeats 20000000
section
open Go.RowKit Sha Fct
section
variable {V:Type} {S:Shp V} {w w':World} {t:TypeId} {B:Nat}
theorem Rws.mid {v:Value} {ys:List (Hd V)}(h:Rws S t w B v ys)(k:Nat)(hk:k < ys.length):∃g cap rest,v= .slice (some ⟨g,0,none⟩) ys.length cap/\B<=g/\ys.length<=cap/\cap<=maxLen/\
 Blk w g ((ys.take k).flatMap S.row++S.row ys[k]++((ys.drop (k+1)).flatMap S.row++rest)) t/\((ys.take k).flatMap S.row).length=k*S.n/\(ys.flatMap S.row++rest).length=cap*S.n:=by
 obtain⟨g,cap,rest,hv,h1,h2,h3,hb,hl,hl2⟩:=own_whole h.own (by omega)
 refine⟨g,cap,rest,hv,h1,h2,h3,?_,?_,hl2⟩
 ·rw[flat_el h.ok k hk,List.append_assoc ((ys.take k).flatMap S.row++S.row ys[k])]at hb;exact hb
 ·rw[flat_len (fun y hy=>h.ok y (List.mem_of_mem_take hy)),List.length_take,Nat.min_eq_left (by omega)]
theorem yF {α:Type}(l:List α)(k:Nat)(hk:k < l.length)(x:α):l.set k x=l.take k++x::l.drop (k+1):=by
 rw[List.set_eq_take_append_cons_drop,if_pos hk]
theorem Rws.setAt {ys:List (Hd V)} {g cap:Nat} {rest:List Value} {k:Nat}(hk:k < ys.length)(y:Hd V)(hB:B<=g)(hc:ys.length<=cap)(hm:cap<=maxLen)(hb:Blk w' g ((ys.take k).flatMap S.row++S.row y++((ys.drop (k+1)).flatMap S.row++rest)) t)
 (hok:∀z∈ys,S.ok z.1) (hl2:(ys.flatMap S.row++rest).length=cap*S.n) (hold:∀z∈ys,S.Good w' z.1 z.2.1 z.2.2/\U8 w' z.2.1 (S.byt z.1)) (hy:S.Good w' y.1 y.2.1 y.2.2/\U8 w' y.2.1 (S.byt y.1)):
 Rws S t w' B (.slice (some ⟨g,0,none⟩) ys.length cap) (ys.set k y):=by
 have hok2:∀z∈ys.set k y,S.ok z.1:=fun z hz=>by
  rcases List.mem_or_eq_of_mem_set hz with h | rfl
  ·exact hok z h
  ·exact hy.1.ok
 have hfl:(ys.set k y).flatMap S.row++rest=(ys.take k).flatMap S.row++S.row y++((ys.drop (k+1)).flatMap S.row++rest):=by
  rw[yF ys k hk,List.flatMap_append,List.flatMap_cons];simp only[List.append_assoc]
 have hll:((ys.set k y).flatMap S.row).length=ys.length*S.n:=by rw[flat_len hok2,List.length_set]
 refine⟨?_,fun z hz=>?_⟩
 ·have h2:=own_ofBlk (B:=B) (w:=w') (e:=t) (s:=S.n) (n:=ys.length) (cap:=cap) (xs:=(ys.set k y).flatMap S.row) (rest:=rest) hB (by rw[hfl];exact hb) hc hm hll (by
   rw[qC,hll];rw[qC,flat_len hok]at hl2;exact hl2)
  rw[List.length_set];exact h2
 ·rcases List.mem_or_eq_of_mem_set hz with h | rfl
  ·exact hold z h
  ·exact hy
end
section
variable {w:World} {g:Nat} {A D:List Value} {q:Option Addr} {c:Nat} {t:TypeId}
theorem xA (x:Vot)(N O:Int)(h:Blk w g (A++vcells x q c++D) t):Blk (w.setCells g (A.length+1) [i64c N,i64c O]) g (A++vcells ⟨x.S,N,O,x.AN,x.AO,x.B⟩ q c++D) t:=by
 have e:∀(p r:Int),A++vcells ⟨x.S,p,r,x.AN,x.AO,x.B⟩ q c++D=(A++[i64c x.S])++[i64c p,i64c r]++([i64c x.AN,i64c x.AO,.slice q x.B.length c]++D):=fun p r=>by unfold vcells;simp
 have h2:Blk w g ((A++[i64c x.S])++[i64c x.PN,i64c x.PO]++([i64c x.AN,i64c x.AO,.slice q x.B.length c]++D)) t:=by rw[<-e];exact h
 rw[e]
 exact Blk.setCells [i64c N,i64c O] (A.length+1) w _ _ _ h2 (by simp) rfl
theorem xB (x:Vot)(N O:Int)(h:Blk w g (A++vcells x q c++D) t):Blk (w.setCells g (A.length+3) [i64c N,i64c O]) g (A++vcells ⟨x.S,x.PN,x.PO,N,O,x.B⟩ q c++D) t:=by
 have e:∀(p r:Int),A++vcells ⟨x.S,x.PN,x.PO,p,r,x.B⟩ q c++D=(A++[i64c x.S,i64c x.PN,i64c x.PO])++[i64c p,i64c r]++([.slice q x.B.length c]++D):=fun p r=>by unfold vcells;simp
 have h2:Blk w g ((A++[i64c x.S,i64c x.PN,i64c x.PO])++[i64c x.AN,i64c x.AO]++([.slice q x.B.length c]++D)) t:=by rw[<-e];exact h
 rw[e]
 exact Blk.setCells [i64c N,i64c O] (A.length+3) w _ _ _ h2 (by simp) rfl
theorem xC (x:Vot)(b:List Int)(q':Option Addr)(c':Nat)(h:Blk w g (A++vcells x q c++D) t):Blk (w.setCell ⟨g,A.length+5,none⟩ (.slice q' b.length c')) g (A++vcells ⟨x.S,x.PN,x.PO,x.AN,x.AO,b⟩ q' c'++D) t:=by
 have e:∀(b:List Int) (q:Option Addr) (c:Nat),A++vcells ⟨x.S,x.PN,x.PO,x.AN,x.AO,b⟩ q c++D=(A++[i64c x.S,i64c x.PN,i64c x.PO,i64c x.AN,i64c x.AO])++[.slice q b.length c]++D:=fun b q c=>by unfold vcells;simp
 have h2:Blk w g ((A++[i64c x.S,i64c x.PN,i64c x.PO,i64c x.AN,i64c x.AO])++[.slice q x.B.length c]++D) t:=by rw[<-e];exact h
 rw[e]
 exact Blk.setCells [.slice q' b.length c'] (A.length+5) w _ _ _ h2 (by simp) rfl
end
theorem Yj (s:Ste)(x:Vot)(k:Int)(hx:x.S=k):(Rise.add vkey ilt ⟨k,0,0,0,0,[]⟩ s.votes).set (Rise.place vkey ilt k s.votes) x=Rise.upd vkey ilt x s.votes:=
 (Rise.upd_set (key:=vkey) (lt:=ilt) ⟨k,0,0,0,0,[]⟩ x hx s.votes).symm
theorem ZU (s:Ste)(k:Int):(Rise.add vkey ilt ⟨k,0,0,0,0,[]⟩ s.votes)[Rise.place vkey ilt k s.votes]? = some (s.was k):=
 Rise.add_at (key:=vkey) (lt:=ilt) ⟨k,0,0,0,0,[]⟩ s.votes
end
section
open Go.RowKit Sha Fct
theorem Zl {V:Type} {S:Shp V} {w w':World} {g:Nat} {cs:List Value} {x:V} {q:Option Addr} {c:Nat}(h:S.Good w x q c)(hu:U8 w q (S.byt x))(hb:Blk w g cs 62)(hc:Chg (fun k=>k=g) w w'):S.Good w' x q c/\U8 w' q (S.byt x):=by
 have h8:∀g2 cs2,Blk w g2 cs2 5->Blk w' g2 cs2 5:=fun g2 cs2 hk=>hc.blk hk fun e=>by
  subst e
  exact absurd (blk_ty hk hb) (by decide)
 exact⟨good_blk h hu h8,hu.on h8⟩
structure VRow (w:World)(B gv cap pl:Nat)(zs:List (Hd Vot))(A D:List Value):Prop where
 lt:pl < zs.length
 lo:B<=gv
 c:zs.length<=cap
 m:cap<=maxLen
 eA:A=(zs.take pl).flatMap sV.row
 al:A.length=pl*6
 eD:∃rest,D=(zs.drop (pl+1)).flatMap sV.row++rest/\(zs.flatMap sV.row++rest).length=cap*6
 ok:∀z∈zs,sV.ok z.1
 blk:Blk w gv (A++sV.row (zs.getD pl (⟨0,0,0,0,0,[]⟩,none,0))++D) 62
 good:∀z∈zs,sV.Good w z.1 z.2.1 z.2.2/\U8 w z.2.1 (sV.byt z.1)
theorem VRow.of {w:World} {B gv cap pl:Nat} {zs:List (Hd Vot)}(h:Rws sV 62 w B (.slice (some ⟨gv,0,none⟩) zs.length cap) zs)(hp:pl < zs.length):∃A D,VRow w B gv cap pl zs A D:=by
 obtain⟨g2,cap2,rest,hv,h1,h2,h3,hb,hA,hl2⟩:=h.mid pl hp
 obtain⟨rfl,rfl⟩:gv=g2/\cap=cap2:=by injection hv with e1 e2 e3;injection e1 with e1;injection e1 with e1;exact⟨e1,e3⟩
 exact⟨_,_,hp,h1,h2,h3,rfl,hA,⟨rest,rfl,hl2⟩,h.ok,by rw[List.getD_eq_getElem?_getD,List.getElem?_eq_getElem hp];exact hb,h.good⟩
theorem VRow.below {w w':World} {B gv cap pl:Nat} {zs:List (Hd Vot)} {A D:List Value}(h:VRow w B gv cap pl zs A D)(hb:Below w.heap.size w w'):VRow w' B gv cap pl zs A D:=
 {h with blk:=h.blk.below hb h.blk.lt,good:=fun z hz=>⟨(h.good z hz).1.below hb,(h.good z hz).2.below hb⟩}
theorem VRow.set {w w':World} {B gv cap pl:Nat} {zs:List (Hd Vot)} {A D:List Value}(h:VRow w B gv cap pl zs A D)(hc:Chg (fun k=>k=gv) w w')(y:Hd Vot)(hb:Blk w' gv (A++sV.row y++D) 62)(hy:sV.Good w' y.1 y.2.1 y.2.2/\U8 w' y.2.1 (sV.byt y.1)):
 Rws sV 62 w' B (.slice (some ⟨gv,0,none⟩) zs.length cap) (zs.set pl y):=by
 obtain⟨rest,hD,hl⟩:=h.eD
 refine Rws.setAt h.lt y h.lo h.c h.m ?_ h.ok hl (fun z hz=>Zl (h.good z hz).1 (h.good z hz).2 h.blk hc) hy
 rw[<-hD,<-h.eA];exact hb
theorem StO.reV {w w':World} {B g:Nat} {s:Ste} {r:Rows9}(h:StO w B g s r)(hc:Chg (fun k=>r.vv.ownBlock=some k) w w') {zs:List (Hd Vot)}(hr:Rws sV 62 w' B r.vv zs):
 StO w' B g {s with votes:=zs.map (·.1)} {r with yv:=zs}/\Chg (fun k=>Own9 w B g k\/False) w w':=by
 have hno:∀k cs fz t,w.heap[k]? = some (.cells cs t fz)->t≠62->¬(r.vv.ownBlock=some k):=by
  rintro k cs fz t hk ht e
  obtain⟨c2,f2,h2⟩:=RowTy.of h.v.own k e
  rw[hk]at h2;simp at h2;exact ht h2.2.1
 refine⟨⟨hc.blk h.blk (hno _ _ _ _ h.blk (by decide)),h.lo,h.b.chg hc (fun k cs fz t hk ht=>hno k cs fz t hk (by rcases ht with rfl | rfl<;>decide)),h.be,h.k.chg hc (fun k cs fz t hk ht=>hno k cs fz t hk (by rcases ht with rfl | rfl<;>decide)),h.ke,
  h.h.chg hc (fun k cs fz t hk ht=>hno k cs fz t hk (by rcases ht with rfl | rfl<;>decide)),h.he,hr,rfl,h.d.chg hc (fun k cs fz t hk ht=>hno k cs fz t hk (by rcases ht with rfl | rfl<;>decide)),h.de⟩,hc.mono fun k _ e=>?_⟩
 obtain⟨c2,f2,h2⟩:=RowTy.of h.v.own k e
 exact Or.inl (Or.inr ⟨h.v.lo e,c2,_,f2,h2,by unfold rowT;simp⟩)
theorem yG {w:World} {gv o:Nat} {a b:Int}(h:w.rangeAt gv o [i64c a,i64c b]):(loadOp 23 (.pointer (some ⟨gv,o,none⟩))).run Tryz.prog w= .ok (.value (.agg #[.int .i64 a,.int .i64 b])) w:=
 run_loadOp (run_loadAt_mid w gv o 23 [.int .i64 a,.int .i64 b] _ h Tryz.underlying23 rfl (by rw[bal_size];rfl))
theorem Yk {w:World} {gv:Nat} {A D:List Value} {x:Vot} {q:Option Addr} {c:Nat}(h:Blk w gv (A++vcells x q c++D) 62)(N O:Int):
 (storeOp 23 (.pointer (some ⟨gv,A.length+1,none⟩)) (.agg #[.int .i64 N,.int .i64 O])).run Tryz.prog w= .ok .skip (w.setCells gv (A.length+1) [i64c N,i64c O]):=by
 have e:A++vcells x q c++D=(A++[i64c x.S])++[i64c x.PN,i64c x.PO]++([i64c x.AN,i64c x.AO,.slice q x.B.length c]++D):=by unfold vcells;simp
 rw[e]at h
 have h2:=run_storeMid (P:=Tryz.prog) (t:=23) (cs:=[i64c N,i64c O]) h rfl (by rw[bal_size];rfl) (by intro v hv;simp at hv;rcases hv with rfl | rfl<;>rfl)
 simp only[qC,List.length_cons,List.length_nil,Nat.zero_add,Nat.reduceAdd]at h2
 exact h2
theorem Yl {w:World} {gv:Nat} {A D:List Value} {x:Vot} {q:Option Addr} {c:Nat}(h:Blk w gv (A++vcells x q c++D) 62)(N O:Int):
 (storeOp 23 (.pointer (some ⟨gv,A.length+3,none⟩)) (.agg #[.int .i64 N,.int .i64 O])).run Tryz.prog w= .ok .skip (w.setCells gv (A.length+3) [i64c N,i64c O]):=by
 have e:A++vcells x q c++D=(A++[i64c x.S,i64c x.PN,i64c x.PO])++[i64c x.AN,i64c x.AO]++([.slice q x.B.length c]++D):=by unfold vcells;simp
 rw[e]at h
 have h2:=run_storeMid (P:=Tryz.prog) (t:=23) (cs:=[i64c N,i64c O]) h rfl (by rw[bal_size];rfl) (by intro v hv;simp at hv;rcases hv with rfl | rfl<;>rfl)
 simp only[qC,List.length_cons,List.length_nil,Nat.zero_add,Nat.reduceAdd]at h2
 exact h2
theorem Y3 {w:World} {gv:Nat} {A D:List Value} {x:Vot} {q:Option Addr} {c:Nat}(h:Blk w gv (A++vcells x q c++D) 62):w.cell? ⟨gv,A.length+5,none⟩=some (.slice q x.B.length c):=by
 rw[h.cell,List.append_assoc,List.getElem?_append_right (by omega),Nat.add_sub_cancel_left];rfl
theorem yH (s:Ste)(hs:Sound s)(f:Fac)(hf:f.K=7\/f.K=8)(hN:more f.N f.O 0 0=true)(hm:more (s.was f.S).PN (s.was f.S).PO f.N f.O=true):({s with votes:=Rise.add vkey ilt ⟨f.S,0,0,0,0,[]⟩ s.votes}:Ste)=s.on f:=by
 have h1:s.on f=s:=by
  rw[on_vote s hf]
  rcases hf with e | e
  ·exact vote_7n s e (more_asymm hm)
  ·exact vote_8n s (by omega) hm
 have h2:Rise.add vkey ilt ⟨f.S,0,0,0,0,[]⟩ s.votes=s.votes:=by
  obtain⟨_,h3 | h3⟩:=was_ok hs f.S
  ·rw[h3.2]at hm
   have:=more_asymm hN
   rw[this]at hm;cases hm
  ·exact Rise.add_of (key:=vkey) (lt:=ilt) (x:=⟨f.S,0,0,0,0,[]⟩) h3.1
 rw[h1,h2]
theorem Ym (s:Ste)(hs:Sound s)(f:Fac)(hf:f.K=7)(hN:more f.N f.O 0 0=true)(hm:more (s.was f.S).PN (s.was f.S).PO f.N f.O=false):s.on f= {s with votes:=Rise.upd vkey ilt ⟨f.S,f.N,f.O,(s.was f.S).AN,(s.was f.S).AO,(s.was f.S).B⟩ s.votes}:=by
 rw[on_vote s (Or.inl hf)]
 cases h:more f.N f.O (s.was f.S).PN (s.was f.S).PO with
 | true=>exact vote_7 s hf h
 | false=>
    rw[vote_7n s hf h]
    have he:f.N=(s.was f.S).PN/\f.O=(s.was f.S).PO:=by simp[more]at h hm;omega
    obtain⟨h2,h3 | h3⟩:=was_ok hs f.S
    ·rw[h3.2]at he
     simp[more]at hN he;omega
    ·have e1:(⟨f.S,f.N,f.O,(s.was f.S).AN,(s.was f.S).AO,(s.was f.S).B⟩:Vot)=s.was f.S:=by
      rw[he.1,he.2]
      obtain⟨v,hv⟩:∃v,v=s.was f.S:=⟨_,rfl⟩
      rw[<-hv]at h2 ⊢
      cases v
      simp only at h2
      rw[h2]
     rw[e1,Rise.upd_same ilt_ord (key:=vkey) (x:=s.was f.S) (by rw[show vkey (s.was f.S)=f.S from h2];exact h3.1)]
theorem Yn (s:Ste)(f:Fac)(hf:f.K=8)(hm:more (s.was f.S).PN (s.was f.S).PO f.N f.O=false):s.on f= {s with votes:=Rise.upd vkey ilt ⟨f.S,f.N,f.O,f.N,f.O,f.B⟩ s.votes}:=by
 rw[on_vote s (Or.inr hf)];exact vote_8 s (by omega) hm
end
section
open Go.RowKit Sha Fct
attribute [local go_sem ↓] execOp_boxFact execOp_loadBal execOp_storeBal
structure VoB (w wx:World)(B g gf:Nat)(s:Ste)(r:Rows9)(f:Fac)(q:Option Addr)(c gv cap:Nat)(zs:List (Hd Vot)):Prop where
 so:StO wx B g {s with votes:=Rise.add vkey ilt ⟨f.S,0,0,0,0,[]⟩ s.votes} {r with vv:=.slice (some ⟨gv,0,none⟩) zs.length cap,yv:=zs}
 fb:Blk wx gf (fcells f q c) 28
 chg:Chg (fun k=>Own9 w B g k\/False) w wx
 pl:Rise.place vkey ilt f.S s.votes < zs.length
theorem xD {w w1 w3:World} {B g gf:Nat} {s:Ste} {r:Rows9} {f:Fac} {q:Option Addr} {c:Nat} {v':Value} {zs:List (Hd Vot)}(h:StO w B g s r)(hb:Below w.heap.size w w1)(hf:Blk w1 gf (fcells f q c) 28)
 (hr:Rws sV 62 w3 B v' zs) (hz:zs.map (·.1)=Rise.add vkey ilt ⟨f.S,0,0,0,0,[]⟩ (r.yv.map (·.1))) (hg:w1.grownBy w3 r.vv.ownBlock):
 w3.cell? ⟨g,5,none⟩=some r.vv/\w3.frozen? ⟨g,5,none⟩=false/\∃gv cap,v'= .slice (some ⟨gv,0,none⟩) zs.length cap/\VoB w (w3.setCell ⟨g,5,none⟩ v') B g gf s r f q c gv cap zs:=by
 obtain⟨h1,h2,h3,h4,h5⟩:=xr h hb hr hg
 rw[hz,h.ve]at h3
 have hlt:Rise.place vkey ilt f.S s.votes < zs.length:=by
  have:=ZU s f.S
  rw[<-h.ve,<-hz,List.getElem?_map]at this
  rw[h.ve]at this
  rcases Nat.lt_or_ge (Rise.place vkey ilt f.S s.votes) zs.length with h6 | h6
  ·exact h6
  ·rw[List.getElem?_eq_none h6]at this;cases this
 obtain⟨gv,cap,rest,hv,_⟩:=own_whole hr.own (by omega)
 exact⟨h1,h2,gv,cap,hv,by subst hv;exact⟨h3,h5 hf,h4,hlt⟩⟩
theorem yI {w wc W1:World} {B g gf:Nat} {s:Ste} {r:Rows9} {f:Fac} {q:Option Addr} {c gv cap:Nat} {zs:List (Hd Vot)}(h:VoB w wc B g gf s r f q c gv cap zs)(hb:Below wc.heap.size wc W1)(hs:Sound s)(hf:f.K=7\/f.K=8)(hN:more f.N f.O 0 0=true)(hm:more (s.was f.S).PN (s.was f.S).PO f.N f.O=true):
 DoP w B g (s.on f) (.returned (.tuple #[])) W1:=by
 have h1:=h.so.below hb
 rw[yH s hs f hf hN hm]at h1
 exact⟨rfl,_,h1,h.chg.grown (below_grown hb none) fun k hk=>by cases hk⟩
theorem Zz {w wc W1 We:World} {B g gf:Nat} {s:Ste} {r:Rows9} {f:Fac} {q:Option Addr} {c gv cap pl:Nat} {zs:List (Hd Vot)} {A D:List Value}(h:VoB w wc B g gf s r f q c gv cap zs)(hb:Below wc.heap.size wc W1)(hvr:VRow wc B gv cap pl zs A D)(hpl:pl=Rise.place vkey ilt f.S s.votes)
 (hc:Chg (fun k=>k=gv) W1 We) (y:Hd Vot) (hy:y.1.S=f.S) (hbk:Blk We gv (A++vcells y.1 y.2.1 y.2.2++D) 62) (hg:sV.Good We y.1 y.2.1 y.2.2/\U8 We y.2.1 y.1.B) (hon:s.on f= {s with votes:=Rise.upd vkey ilt y.1 s.votes}):
 DoP w B g (s.on f) (.returned (.tuple #[])) We:=by
 have h1:=h.so.below hb
 have h2:=(hvr.below hb).set hc y hbk hg
 obtain⟨h3,h4⟩:=h1.reV (hc.mono fun k _ e=>by subst e;rfl) h2
 have e1:(zs.set pl y).map (·.1)=Rise.upd vkey ilt y.1 s.votes:=by
  have h5:zs.map (·.1)=_:=h.so.ve
  rw[List.map_set,h5,hpl]
  exact Yj s y.1 f.S hy
 rw[hon,<-e1]
 exact⟨rfl,_,h3,zd (h.chg.grown (below_grown hb none) fun k hk=>by cases hk) h4⟩
theorem yJ {w wc wq w5 w6:World} {B g gf:Nat} {s:Ste} {r:Rows9} {f:Fac} {q q6 xq:Option Addr} {c gv cap pl c6 nb xc:Nat} {zs:List (Hd Vot)} {A D:List Value} {x:Vot}(h:VoB w wc B g gf s r f q c gv cap zs)(hb:Below wc.heap.size wc wq)(hvr:VRow wc B gv cap pl zs A D)(hpl:pl=Rise.place vkey ilt f.S s.votes)
 (hc5:Chg (fun k=>k=gv) wq w5) (k5:Blk w5 gv (A++vcells ⟨x.S,f.N,f.O,x.AN,x.AO,x.B⟩ xq xc++D) 62) (f5:Blk w5 gf (fcells f q c) 28) (hx:x.S=f.S) (hfo:f.ok) (h6:Below w5.heap.size w5 w6) (hc6:Cpy w6 f.B q6 c6) (hnb:nb=f.B.length)
 (hon:s.on f= {s with votes:=Rise.upd vkey ilt ⟨f.S,f.N,f.O,f.N,f.O,f.B⟩ s.votes}):
 ∃w7,(storeOp 23 (.pointer (some ⟨gv,pl*6+3,none⟩)) (.agg #[.int .i64 f.N,.int .i64 f.O])).run Tryz.prog w6= .ok .skip w7/\w7.cell? ⟨gv,pl*6+5,none⟩=some (.slice xq x.B.length xc)/\w7.frozen? ⟨gv,pl*6+5,none⟩=false/\
  (loadOp 23 (.pointer (some ⟨gf,3,none⟩))).run Tryz.prog w6= .ok (.value (.agg #[.int .i64 f.N,.int .i64 f.O])) w6/\DoP w B g (s.on f) (.returned (.tuple #[])) (w7.setCell ⟨gv,pl*6+5,none⟩ (.slice q6 nb c6)):=by
 have k6:=k5.below h6 k5.lt
 have s6:=Yl k6 f.N f.O
 have k7:=xB (⟨x.S,f.N,f.O,x.AN,x.AO,x.B⟩:Vot) f.N f.O k6
 have k8:=xC _ f.B q6 c6 k7
 have c7:=Y3 k7
 have z7:=k7.free (A.length+5)
 rw[hvr.al]at s6 k7 k8 c7 z7
 have hl:=load_fbal (o:=0) (f5.below h6 f5.lt).range
 rw[Nat.zero_add]at hl
 have hg6:Chg (fun k=>k=gv) w6 ((w6.setCells gv (pl*6+3) [i64c f.N,i64c f.O]).setCell ⟨gv,pl*6+5,none⟩ (.slice q6 f.B.length c6)):=
  (((Chg.refl _ w6).grown (setCells_grown w6 gv _ _) fun k hk _=>by cases hk;rfl)).grown (zg _ gv _ _) fun k hk _=>by cases hk;rfl
 have hce:Chg (fun k=>k=gv) wq ((w6.setCells gv (pl*6+3) [i64c f.N,i64c f.O]).setCell ⟨gv,pl*6+5,none⟩ (.slice q6 f.B.length c6)):=
  ((hc5.grown (below_grown h6 none) fun k hk=>by cases hk).grown (setCells_grown w6 gv _ _) fun k hk _=>by cases hk;rfl).grown (zg _ gv _ _) fun k hk _=>by cases hk;rfl
 have hgd:sV.Good w6 (⟨x.S,f.N,f.O,f.N,f.O,f.B⟩:Vot) q6 c6:=⟨⟨by rw[hx];exact hfo.S,hfo.N,hfo.O,hfo.N,hfo.O,hfo.B⟩,hc6.at_,hc6.le,hc6.max,hc6.nil⟩
 subst hnb
 refine⟨_,s6,c7,z7,hl,?_⟩
 exact Zz h hb hvr hpl hce (⟨x.S,f.N,f.O,f.N,f.O,f.B⟩,q6,c6) hx k8 (Zl hgd hc6.u8 k6 hg6) (by rw[hon,hx])
theorem ZA {w W:World} {B g:Nat} {x:Fac} {q:Option Addr} {c:Nat} {X:Nat->Prop}(h:sF.Good w x q c)(hq:x.B= []\/∀a,q=some a->a.block < B)(hB:B<=w.heap.size)(hg:B<=g)(hX:∀k,X k->B<=k)(hc:Chg (fun k=>Own9 w B g k\/X k) w W):sF.Good W x q c:=by
 refine⟨h.ok,?_,h.le,h.max,h.nil⟩
 rcases h.at_ with h1 | ⟨b,off,rfl,h2⟩
 ·exact Or.inl h1
 ·rcases hq with h3 | h3
  ·left;rw[show sF.byt x=x.B from rfl,h3];rfl
  ·refine Or.inr ⟨b,off,rfl,fun i u hi=>?_⟩
   have hb:=h3 _ rfl
   simp only at hb
   have h4:=hc.block b (by omega) (fun e=>by
    rcases e with(e | ⟨e,_⟩) | e
    ·omega
    ·omega
    ·have:=hX _ e;omega)
   exact(World.cell?_of_block (w:=w) (a:=⟨b,off+i,none⟩) h4).trans (h2 i u hi)
theorem Yo (w:World)(B g:Nat)(s:Ste)(r:Rows9)(f:Fac)(q:Option Addr)(c:Nat)(h:StO w B g s r)(hf:f.K=7\/f.K=8)(hg:sF.Good w f q c)(hq:f.B= []\/∀a,q=some a->a.block < B)(hbl:f.B.length<=1000000)(hN:more f.N f.O 0 0=true)(hs:Sound s)(hl:Lens r)(hB:B<=w.heap.size):
 Calls Tryz.prog 132 #[.pointer (some ⟨g,0,none⟩),.agg (fcells f q c).toArray] w (DoP w B g (s.on f)):=by
 obtain⟨pv,cv,hvv,_⟩:=h.v.told
 obtain⟨w1,hb⟩:=fbx9 w f q c
 have bx:=hb.b1
 have cS:=hb.S
 have hk1:=hb.k1
 obtain⟨gf,hgf⟩:∃b,b=w.heap.size:=⟨_,rfl⟩
 rw[<-hgf]at bx cS hk1
 clear hgf
 have v1:w1.cell? ⟨g,5,none⟩=some (.slice pv r.yv.length cv):=by rw[(h.below hb.below).blk.cell 5,<-hvv];rfl
 have mk:=fun w=>xa f.S w
 have HPL:=xF (show Calls Tryz.prog 159 #[.slice pv r.yv.length cv,.agg (vcells ⟨f.S,0,0,0,0,[]⟩ none 0).toArray,.func (.func 160) #[] #[]] w1.drew (PlcV w1.drew B r.vv (r.yv.map (·.1)) ⟨f.S,0,0,0,0,[]⟩) by
  have hbd:=hb.below.drew
  obtain⟨gd,u8⟩:=good0 (S:=sV) w1.drew (x:=(⟨f.S,0,0,0,0,[]⟩:Vot)) ⟨hg.ok.S,show fit 0 by unfold fit;omega,show fit 0 by unfold fit;omega,show fit 0 by unfold fit;omega,show fit 0 by unfold fit;omega,by simp⟩ rfl
  have h2:=YJ w1.drew B r.vv r.yv (h.below hbd).v (by rw[h.ve];exact hs.votesUp) ⟨f.S,0,0,0,0,[]⟩ none 0 gd u8 hl.v (Nat.le_trans hB hbd.size)
  rw[hvv]at h2 ⊢
  exact h2)
 have HH:=xF h
 have HB1:=xF hb.below
 have HK1:=xF hk1
 have HVV:=xF hvv
 have HVE:=xF h.ve
 obtain⟨pl,hpl⟩:∃n,n=Rise.place vkey ilt f.S s.votes:=⟨_,rfl⟩
 have HPP:=xF hpl
 obtain⟨nv,hnv⟩:∃n,n=r.yv.length:=⟨_,rfl⟩
 rw[<-hnv]at v1 HPL
 have HNV:=xF hnv
 have HF:=xF hf
 have HG:=xF hg
 have HQ:=xF hq
 have HBL:=xF hbl
 have HN:=xF hN
 have HS:=xF hs
 have HBW:=xF hB
 clear hb h hk1 hvv hpl hnv hf hg hq hbl hN hs hl hB
 go_enter Tryz.func132,Tryz.ntmps132
 go_upto_region 2 with fail
 go_cut [4] (fun s4 wx=>∃gv cap zs,s4= .int .i64 pl/\Hid (VoB w wx B g gf s r f q c gv cap zs))
 case first=>
  go_region_law ((first
   | (go_simp;go_at_call 159;refine HPL.out.mono ?_;rintro e w3 ⟨v',zs,rfl,hr3,hz3,hg3,_,_⟩;(obtain⟨v3,f3,gv,cap,rfl,hVB⟩:=xD HH.out HB1.out.drew HK1.out hr3 hz3 hg3);(rw[HVV.out]at v3);(have HVB:=xF hVB);clear hVB hr3 hz3 hg3;(rw[HVE.out,<-HPP.out]);generalize hzl:zs.length=n5 at *)))
  all_goals(go_wp2_with fail;go_meet)
  all_goals exact⟨gv,cap,zs,rfl,HVB⟩
 case rest=>
  obtain⟨gv,cap,zs,rfl,HVB⟩:=hcut
  have hso:=HVB.out.so
  have hpl2:pl < zs.length:=by rw[HPP.out];exact HVB.out.pl
  obtain⟨A,D,hvr⟩:=VRow.of hso.v hpl2
  obtain⟨⟨x,xq,xc⟩,hzz⟩:∃z:Hd Vot,z=zs.getD pl (⟨0,0,0,0,0,[]⟩,none,0):=⟨_,rfl⟩
  have hzp:zs[pl]? = some (x,xq,xc):=by rw[hzz,List.getD_eq_getElem?_getD,List.getElem?_eq_getElem hpl2];rfl
  have hz:x=s.was f.S:=by
   have h1:=ZU s f.S
   have h2:zs.map (·.1)=Rise.add vkey ilt ⟨f.S,0,0,0,0,[]⟩ s.votes:=hso.ve
   rw[<-h2,<-HPP.out,List.getElem?_map,hzp]at h1
   exact Option.some.inj h1
  have hbk:Blk wc gv (A++vcells x xq xc++D) 62:=by have h1:=hvr.blk;rw[<-hzz]at h1;exact h1
  have hrP:wc.rangeAt gv (pl*6+1) [i64c x.PN,i64c x.PO]:=by
   have e:A++vcells x xq xc++D=(A++[i64c x.S])++[i64c x.PN,i64c x.PO]++([i64c x.AN,i64c x.AO,.slice xq x.B.length xc]++D):=by unfold vcells;simp
   exact range_mid (by rw[<-e];exact hbk) (by rw[qC,hvr.al];rfl)
  have c5:wc.cell? ⟨g,5,none⟩=some (.slice (some ⟨gv,0,none⟩) zs.length cap):=hso.blk.cell 5
  obtain⟨n5,hn5⟩:∃n,n=zs.length:=⟨_,rfl⟩
  have i1:(0:Int)<=(pl:Int):=by omega
  have i2:(pl:Int) < (n5:Int):=by omega
  rw[<-hn5]at c5
  have HX:=xF hz
  have HVR:=xF hvr
  have HBK:=xF hbk
  have HRP:=xF hrP
  have HZP:=xF hzp
  have HN5:=xF hn5
  have HPL2:=xF hpl2
  clear hso hpl2 hvr hzz hzp hz hbk hrP hn5 bx cS v1 mk HPL
  go_wp2_with fail
  obtain⟨I,W,hC⟩:=cls_of wc
  have hne:Nonempty I:=hC.ne
  have lP:∀n,(loadOp 23 (.pointer (some ⟨gv,pl*6+1,none⟩))).run Tryz.prog (W n)= .ok (.value (.agg #[.int .i64 x.PN,.int .i64 x.PO])) (W n):=fun n=>yG (range_below HRP.out (hC.back n))
  have lF:∀n,(loadOp 23 (.pointer (some ⟨gf,3,none⟩))).run Tryz.prog (W n)= .ok (.value (.agg #[.int .i64 f.N,.int .i64 f.O])) (W n):=fun n=>by
   have h1:=load_fbal (o:=0) (HVB.out.fb.below (hC.back n) HVB.out.fb.lt).range
   rw[Nat.zero_add]at h1
   exact h1
  have QB:=xF (fun n=>(ballots_any f.N f.O x.PN x.PO (W n)).mono (R':=fun e w''=>e= .returned (.int .i64 (ordL f.N f.O x.PN x.PO))/\∃m,w''=W m) fun e w'' ⟨he,hb⟩=>⟨he,hC.all _ ((hC.back n).trans (hb.mono (hC.back n).size))⟩)
  obtain⟨od,hod⟩:∃n,n=ordL f.N f.O x.PN x.PO:=⟨_,rfl⟩
  rw[<-hod]at QB
  have HOD:=xF (show od < 0↔more x.PN x.PO f.N f.O=true by rw[hod];exact ordL_neg ..)
  have HC:=xF hC
  clear hod hC
  refine wp_region_cls W (by kernel_rfl) (by kernel_rfl) HC.out.one ?_
  repeat go_big_quiet_step ((go_at_call 108;exact QB.out _))
  refine wpQuiet_nil ?_
  rintro _ ⟨nq,rfl⟩
  have HBQ:=xF (HC.out.back nq)
  have hlF:=lF nq
  obtain⟨wq,hwq⟩:∃v,v=W nq:=⟨_,rfl⟩
  rw[<-hwq]at HBQ hlF ⊢
  clear hwq lP lF QB c5 hne HC HRP
  cases hm:more x.PN x.PO f.N f.O with
  | true=>
     have t1:decide (od < 0)=true:=decide_eq_true (HOD.out.2 hm)
     have HE:=xF (yI HVB.out HBQ.out HS.out HF.out HN.out (by rw[<-HX.out];exact hm))
     clear hm
     rw[t1]
     clear t1
     go_wp2_with fail
     go_end0
     exact HE.out
  | false=>
     have t1:decide (od < 0)=false:=decide_eq_false fun h=>by rw[HOD.out.1 h]at hm;cases hm
     have HM:=xF (show more (s.was f.S).PN (s.was f.S).PO f.N f.O=false by rw[<-HX.out];exact hm)
     clear hm HOD
     rw[t1]
     clear t1
     have hbq:=HBK.out.below HBQ.out HBK.out.lt
     have st5:=Yk hbq f.N f.O
     have k5:=xA x f.N f.O hbq
     rw[HVR.out.al]at st5 k5
     have hc5:Chg (fun k=>k=gv) wq (wq.setCells gv (pl*6+1) [i64c f.N,i64c f.O]):=(Chg.refl _ wq).grown (setCells_grown wq gv _ _) fun k hk _=>by cases hk;rfl
     have fq:=HVB.out.fb.below HBQ.out HVB.out.fb.lt
     have hgf:gf≠gv:=fun e=>by subst e;exact absurd (blk_ty fq hbq) (by decide)
     have f5:=hc5.blk fq hgf
     obtain⟨w5,hw5⟩:∃v,v=wq.setCells gv (pl*6+1) [i64c f.N,i64c f.O]:=⟨_,rfl⟩
     rw[<-hw5]at st5 k5 hc5 f5
     have cK5:w5.cell? ⟨gf,0,none⟩=some (i64c f.K):=(f5.cell 0).trans (fcells_K f q c)
     have HGX:=xF (show sV.Good wq x xq xc/\U8 wq xq x.B from by
      have h1:=(HVR.out.below HBQ.out).good (x,xq,xc) (List.mem_of_getElem? HZP.out)
      exact h1)
     have hg5:=Zl HGX.out.1 HGX.out.2 hbq hc5
     have HFS:=xF (show x.S=f.S by rw[HX.out];exact(was_ok HS.out f.S).1)
     clear hw5 fq
     rcases HF.out with hk | hk
     ·have HE:=xF (Zz HVB.out HBQ.out HVR.out HPP.out hc5 (⟨x.S,f.N,f.O,x.AN,x.AO,x.B⟩,xq,xc) HFS.out k5 ⟨⟨⟨hg5.1.ok.S,HG.out.ok.N,HG.out.ok.O,hg5.1.ok.AN,hg5.1.ok.AO,hg5.1.ok.B⟩,hg5.1.at_,hg5.1.le,hg5.1.max,hg5.1.nil⟩,hg5.2⟩ (by rw[Ym s HS.out f hk HN.out HM.out,<-HX.out,HFS.out]))
      rw[hk]at cK5
      clear hbq k5 hc5 f5 hg5 hk
      go_wp2_with fail
      go_end0
      exact HE.out
     ·have HON:=xF (show s.on f= {s with votes:=Rise.upd vkey ilt ⟨f.S,f.N,f.O,f.N,f.O,f.B⟩ s.votes} from Yn s f hk HM.out)
      have hBw:=HBW.out
      have hlo:=HVB.out.so.lo
      have g1:=ZA HG.out HQ.out hBw hlo (fun k e=>e.elim) HVB.out.chg
      have g2:=g1.below HBQ.out
      have g3:=ZA (B:=B) (g:=g) (X:=fun k=>k=gv) g2 HQ.out (Nat.le_trans (Nat.le_trans hBw HVB.out.chg.size) HBQ.out.size) hlo (fun k e=>by subst e;exact HVR.out.lo) (hc5.mono fun k _ e=>Or.inr e)
      obtain⟨nb,hnb⟩:∃n,n=f.B.length:=⟨_,rfl⟩
      have c37:w5.cell? ⟨gf,37,none⟩=some (.slice q nb c):=by rw[hnb];exact(f5.cell 37).trans (fcells_B HG.out.ok.len q c)
      have HCL:=xF (clone8_any f.B nb q c w5.drew hnb.symm g3.at_ (by rw[hnb];exact g3.le) g3.max g3.nil (by rw[hnb];exact HBL.out))
      have hl5:(loadOp 23 (.pointer (some ⟨gf,3,none⟩))).run Tryz.prog w5.drew= .ok (.value (.agg #[.int .i64 f.N,.int .i64 f.O])) w5.drew:=by
       have h1:=load_fbal (o:=0) (f5.below (qB _ w5).drew f5.lt).range
       rw[Nat.zero_add]at h1
       exact h1
      have HEE:=xF (fun w6 q6 c6 (h6:Below w5.heap.size w5 w6) (hc6:Cpy w6 f.B q6 c6)=>yJ HVB.out HBQ.out HVR.out HPP.out hc5 k5 f5 HFS.out HG.out.ok h6 hc6 hnb HON.out)
      obtain⟨nx,hnx⟩:∃n,n=x.B.length:=⟨_,rfl⟩
      rw[<-hnx]at HEE
      rw[hk]at cK5
      clear hbq k5 hc5 f5 hg5 hk hBw hlo g1 g2 g3 hnb hnx
      go_wp2_with fail
      go_region_law ((go_simp;go_at_call 128;refine HCL.out.mono ?_;rintro e w6 ⟨q6,c6,rfl,hc6,hb6⟩;(obtain⟨w7,st6,c7,z7,hl6,hE⟩:=HEE.out w6 q6 c6 ((qB _ w5).drew.trans hb6) hc6);(have HE:=xF hE);clear hE hb6 hc6))
      all_goals(
       go_wp2_with fail
       go_end0
       exact HE.out)
end
section
open Go.RowKit Sha Fct
attribute [local go_sem ↓] execOp_boxFact execOp_loadFact
theorem ym (w:World)(B g:Nat)(s:Ste)(r:Rows9)(f:Fac)(q:Option Addr)(c:Nat)(h:StO w B g s r)(hf:f.K=7\/f.K=8)(hg:sF.Good w f q c)(hq:f.B= []\/∀a,q=some a->a.block < B)(hbl:f.B.length<=1000000)(hN:more f.N f.O 0 0=true)(hs:Sound s)(hl:Lens r)(hB:B<=w.heap.size):
 Calls Tryz.prog 92 #[.pointer (some ⟨g,0,none⟩),.agg (fcells f q c).toArray] w (DoP w B g (s.on f)):=by
 obtain⟨w1,hb⟩:=fbx9 w f q c
 have bx:=hb.b1
 have cK:=hb.K
 have l1:=load_factB hb.k1 hg.ok.len
 have HR:=xF (Yo w1 B g s r f q c (h.below hb.below) hf (hg.below hb.below) hq hbl hN hs hl (Nat.le_trans hB hb.below.size))
 have HB:=xF hb.below
 clear hb h hg hs hl hB hq hbl hN
 rcases hf with hk | hk
 ·rw[hk]at cK
  clear hk
  go_enter Tryz.func92,Tryz.ntmps92
  go_wp2_with fail
  refine HR.out.mono ?_
  rintro e w2 hP
  have HP:=xF (hP.from HB.out)
  obtain⟨rfl,_⟩:=hP
  go_wp2_with fail
  go_end0
  exact HP.out
 ·rw[hk]at cK
  clear hk
  go_enter Tryz.func92,Tryz.ntmps92
  go_wp2_with fail
  refine HR.out.mono ?_
  rintro e w2 hP
  have HP:=xF (hP.from HB.out)
  obtain⟨rfl,_⟩:=hP
  go_wp2_with fail
  go_end0
  exact HP.out
theorem xE (w:World)(B g:Nat)(s:Ste)(r:Rows9)(f:Fac)(q:Option Addr)(c:Nat)(h:StO w B g s r)(hg:sF.Good w f q c)(hc:Fct.Can f)(hq:f.B= []\/∀a,q=some a->a.block < B)(hs:Sound s)(hl:Lens r)(hB:B<=w.heap.size):
 Calls Tryz.prog 92 #[.pointer (some ⟨g,0,none⟩),.agg (fcells f q c).toArray] w (DoP w B g (s.on f)):=by
 have hd:idOk f.D:=⟨hg.ok.len,hg.ok.D⟩
 have hm:f.B.length<=1000000:=by have:=hc.most;split at this<;>omega
 rcases kinds hc.kind with e | e | e | e | e | e | e | e | e | e
 ·exact YO w B g s r f q c h e
 ·exact Y1 w B g s r f q c h e
 ·exact Y2 w B g s r f q c h e hg hd hm hs hl hB
 ·exact ZM w B g s r f q c h (Or.inl e) hg.ok hd hs hl hB
 ·exact ZM w B g s r f q c h (Or.inr e) hg.ok hd hs hl hB
 ·exact yt w B g s r f q c h e hg.ok hd hs hl
 ·exact ym w B g s r f q c h (Or.inl e) hg hq hm (more_zero (hc.ballot (Or.inl e)).1 (hc.ballot (Or.inl e)).2) hs hl hB
 ·exact ym w B g s r f q c h (Or.inr e) hg hq hm (more_zero (hc.ballot (Or.inr e)).1 (hc.ballot (Or.inr e)).2) hs hl hB
 ·exact yE w B g s r f q c h e hg hd hm hs hl hB
 ·exact YN w B g s r f q c h e hg.ok hl
end
section
open Go.RowKit Go.Shelf Sha Fct
attribute [local go_sem] Oper.semAt_some
attribute [local go_sem ↓] execOp_allocFact execOp_allocSte execOp_storeFact execOp_storeSte execOp_boxSte execOp_loadSte execOp_makeSte execOp_loadFact
theorem Y4 {ys:List (Hd Fac)}(hok:∀y∈ys,sF.ok y.1)(k:Nat):(ykF ys k).1.D.length=32:=by
 by_cases h:k < ys.length
 ·rw[ZE h];exact Fac.ok.len (hok _ (List.getElem_mem h))
 ·unfold ykF
  rw[List.getD_eq_getElem?_getD,List.getElem?_eq_none (by omega)]
  exact Fld.zero32_length
structure FoldB (w w1:World)(B g g2 g3 gt bm:Nat)(s:Ste)(r:Rows9)(k0:Hds):Prop where
 below:Below w.heap.size w w1
 o:StO w1 B g s r
 k2:Blk w1 g2 (scells Ste.none Hds.none) 47
 k3:Blk w1 g3 [.int .i64 0] 32
 kt:Blk w1 gt [.map (some bm)] 76
 tab:Tab w1 (.map (some bm))
 lg:w.heap.size<=g
 lg2:w.heap.size<=g2
 lg3:w.heap.size<=g3
 ne:g2≠g
theorem FoldB.of {w wa wb wd:World} {B bm:Nat} {s:Ste} {r:Rows9} {k0:Hds}(h:StR w B s r)(hk0:zh s r=scells s k0)(hB:B<=w.heap.size)
 (hwa:wa=w.alloc (.cells (scells s k0).toArray 47)) (hwb:wb=wa.alloc (.cells (scells Ste.none Hds.none).toArray 47)) (hbd:Below (wb.alloc (.cells #[.int .i64 0] 32)).heap.size (wb.alloc (.cells #[.int .i64 0] 32)) wd)
 (hT:wd.heap[bm]? = some (.map (tabE 10) 10)):FoldB w (wd.alloc (.cells #[.map (some bm)] 76)) B w.heap.size wa.heap.size wb.heap.size wd.heap.size bm s r k0:=by
 have za:wa.heap.size=w.heap.size+1:=by rw[hwa];simp
 have zb:wb.heap.size=w.heap.size+1+1:=by rw[hwb];simp[za]
 have ba:Below w.heap.size w wa:=by rw[hwa];exact(qB _ w).alloc (qD _) _
 have bb:Below w.heap.size w wb:=by rw[hwb];exact ba.alloc (by omega) _
 have bc:Below w.heap.size w (wb.alloc (.cells #[.int .i64 0] 32)):=bb.alloc (by omega) _
 have bd:Below w.heap.size w wd:=bc.trans (hbd.mono bc.size)
 have b1:Below w.heap.size w (wd.alloc (.cells #[.map (some bm)] 76)):=bd.alloc bd.size _
 have bd1:Below wd.heap.size wd (wd.alloc (.cells #[.map (some bm)] 76)):=(qB _ wd).alloc (qD _) _
 have ka:Blk wa w.heap.size (scells s k0) 47:=by rw[hwa];exact Blk.new w _ 47
 have kb:Blk wb wa.heap.size (scells Ste.none Hds.none) 47:=by rw[hwb];exact Blk.new wa _ 47
 have kab:Blk wb w.heap.size (scells s k0) 47:=by rw[hwb];exact ka.old _
 have kc:=Blk.new wb #[.int .i64 0] 32
 have kac:=kab.old (.cells #[.int .i64 0] 32)
 have kbc:=kb.old (.cells #[.int .i64 0] 32)
 have l1:∀{g cs t},Blk (wb.alloc (.cells #[.int .i64 0] 32)) g cs t->Blk (wd.alloc (.cells #[.map (some bm)] 76)) g cs t:=fun hk=>(hk.below hbd hk.lt).below bd1 (hk.below hbd hk.lt).lt
 refine⟨b1,(h.below b1).on (by rw[hk0];exact l1 kac) hB,l1 kbc,l1 kc,Blk.new wd _ _,⟨bm,rfl,(bd1.block bm (Array.getElem?_eq_some_iff.1 hT).1).trans hT⟩,qD _,by omega,by omega,by omega⟩
theorem Yp (w0 w:World)(B:Nat)(s:Ste)(r:Rows9)(k0:Hds)(ys:List (Hd Fac))(p:Option Addr)(n c Bs:Nat)
 (h:StR w B s r) (hk0:zh s r=scells s k0) (hs:Sound s) (hfew:(facts s).length<=100000000) (hn:ys.length=n) (hmax:n<=100000000)
 (hbx:Boxed w Bs 30 (.slice p n c)) (hrow:∀W',Chg (fun j=>OwnR w B j) w W'->At W' p (ys.flatMap sF.row))
 (hgood:∀y∈ys,sF.Good w0 y.1 y.2.1 y.2.2) (hb0:Below w0.heap.size w0 w) (hB0:w0.heap.size<=B) (hB:B<=w.heap.size):
 Calls Tryz.prog 52 #[.agg (scells s k0).toArray,.func (.func 93) #[] #[.pointer (some ⟨Bs,0,none⟩)]] w (FoldP w B (s.run (ys.map (·.1)))):=by
 refine(callsIn_wide (n:=5)).1 ?_
 obtain⟨l,hl⟩:∃l,l=ys.map (·.1):=⟨_,rfl⟩
 rw[<-hl]
 have hok:∀y∈ys,sF.ok y.1:=fun y hy=>(hgood y hy).ok
 obtain⟨wa,hwa⟩:∃x,x=w.alloc (.cells (scells s k0).toArray 47):=⟨_,rfl⟩
 have bx:=run_boxOp (P:=Tryz.prog) (t:=47) (cs:=(scells s k0).toArray) w
 rw[<-hwa]at bx
 have al:=alloc_ste wa
 obtain⟨wb,hwb⟩:∃x,x=wa.alloc (.cells (scells Ste.none Hds.none).toArray 47):=⟨_,rfl⟩
 rw[<-hwb]at al
 have HFB:=xF (fun(wd:World) (bm:Nat) (hbd:Below (wb.alloc (.cells #[.int .i64 0] 32)).heap.size (wb.alloc (.cells #[.int .i64 0] 32)) wd) (hT:wd.heap[bm]? = some (.map (tabE 10) 10))=>FoldB.of h hk0 hB hwa hwb hbd hT)
 have HS:=xF hs
 have HFEW:=xF hfew
 have HN:=xF hn
 have HBX:=xF hbx
 have HROW:=xF hrow
 have HGD:=xF hgood
 have HB0:=xF hb0
 have HBB:=xF hB0
 have HL:=xF hl
 have HLL:=xF (show l.length=n by rw[hl,List.length_map,hn])
 have HOK:=xF hok
 have HBW:=xF hB
 obtain⟨g,hg⟩:∃b,b=w.heap.size:=⟨_,rfl⟩
 obtain⟨g2,hg2⟩:∃b,b=wa.heap.size:=⟨_,rfl⟩
 rw[<-hg]at bx HFB
 rw[<-hg2]at al HFB
 clear h hk0 hs hfew hn hbx hrow hgood hb0 hB0 hB hl hok hwa hwb hg hg2
 refine callsIn_of_wp_marks Tryz.func52 rfl trivial ?_ rfl
 simp only[Tryz.ntmps52,List.size_toArray,List.length_cons,List.length_nil,Nat.reduceAdd,Nat.reduceSub,Array.replicate_succ,Array.replicate_zero,List.push_toArray,List.append_toArray,List.nil_append,List.cons_append]
 gi_wp2_with (refine⟨trivial,?_⟩;gi_at_call 41;refine(callsIn_wide.2 (forms_any _)).mono ?_;rintro e wd ⟨_,rfl,⟨bm,rfl,hT⟩,hbd⟩;have HFB2:=xF (HFB.out wd bm hbd hT);clear hT hbd)
 have hfb:=HFB2.out
 obtain⟨w1,hw1⟩:∃x,x=wd.alloc (.cells #[.map (some bm)] 76):=⟨_,rfl⟩
 obtain⟨gt,hgt⟩:∃x,x=wd.heap.size:=⟨_,rfl⟩
 obtain⟨g3,hg3⟩:∃x,x=wb.heap.size:=⟨_,rfl⟩
 rw[<-hw1,<-hgt,<-hg3]at hfb
 rw[<-hw1,<-hgt,<-hg3]
 have HF:=xF hfb
 clear hw1 hgt hg3 hfb HFB2 HFB bx al
 have hw1b:=HF.out.below
 refine zW rfl (by omega) (gf:=93) (lb:=#[.pointer (some ⟨Bs,0,none⟩)]) rfl trivial (enters_of Tryz.func93 (by kernel_rfl) rfl)
  (Z4 4 (by omega) p n c ys HN.out (by omega) HOK.out Bs w1) (qB _ _) (fun _=>rfl)
  (FoldI s l w1 B g) (FoldX s l w1 B g g2 g3) (Zy s l w1 B g) (fun c=>yD s l w1 B g g2 g3 c)
  (fun k W hI=>by
    obtain⟨t,r',h1,h2,h3,h4⟩:=hI
    refine⟨?_,HROW.out W (Zj (g2:=g) (g3:=g) (D:=0) hw1b HF.out.lg HF.out.lg HF.out.lg (fun k e=>e.elim) h4)⟩
    have b1:Blk w1 Bs [.slice p n c] 30:=(show Blk w Bs [.slice p n c] 30 from HBX.out).below hw1b (Boxed.lt HBX.out)
    refine(h4.blk b1 fun e=>?_).cell 0
    rcases e with(e | ⟨_,cs,t',fz,e2,e3⟩) | e
    ·have:=Boxed.lt HBX.out;have:=HF.out.lg;omega
    ·unfold Blk at b1;rw[b1]at e2;cases e2;rcases e3 with e3 | e3 | e3 | e3 | e3<;>exact absurd e3 (by decide)
    ·exact e)
  ⟨s,r,by rw[List.take_zero];rfl,HS.out,HF.out.o,Chg.refl _ _⟩
  (fun k a' W=>∃gf,w1.heap.size<=gf/\Blk W gf (fcells (ykF ys k).1 (ykF ys k).2.1 (ykF ys k).2.2) 28/\a'= {tmps:=#[.agg (scells s k0).toArray,.func (.func 93) #[] #[.pointer (some ⟨Bs,0,none⟩)],.pointer (some ⟨g,0,none⟩),undef,.pointer (some ⟨g2,0,none⟩),.pointer (some ⟨g3,0,none⟩),.pointer (some ⟨gt,0,none⟩),.pointer (some ⟨gf,0,none⟩),undef,.map (some bm),.func (.func 93) #[] #[.pointer (some ⟨Bs,0,none⟩)],.agg (fcells (ykF ys k).1 (ykF ys k).2.1 (ykF ys k).2.2).toArray,undef,undef,undef,undef,undef,undef,undef,undef,undef,undef],defers:=[]})
  (fun k a'=>fun u W W' row ⟨gf,h1,h2,h3⟩ hg hr=>⟨gf,h1,Zk (β:=Unit) gf w1.heap.size _ _ u W W' row h2 hg hr,h3⟩)
  ?assign ?body ?done ?stop
 case assign=>
  intro lp k W K hI hK
  have hsz:w1.heap.size<=W.heap.size:=by obtain⟨t,r',h1,h2,h3,h4⟩:=hI;exact h4.size
  have hlen:=Y4 HOK.out k
  have a1:=alloc_fact W
  have a2:=store_fact1 W (q:=(ykF ys k).2.1) (c:=(ykF ys k).2.2) hlen
  have HK2:=xF (Blk.new W (fcells (ykF ys k).1 (ykF ys k).2.1 (ykF ys k).2.2).toArray 28)
  have HI:=xF ((Zy s l w1 B g).alloc (.cells (fcells (ykF ys k).1 (ykF ys k).2.1 (ykF ys k).2.2).toArray 28) hI)
  have HKP:=xF ((KeepsOthers.alloc W (.cells (fcells (ykF ys k).1 (ykF ys k).2.1 (ykF ys k).2.2).toArray 28)).from w1.heap.size)
  clear hI
  obtain⟨g0,hg0⟩:∃g,g=W.heap.size:=⟨_,rfl⟩
  rw[<-hg0]at a1 a2 HK2 hsz
  clear hg0
  generalize W.alloc (.cells (fcells fz none 0).toArray 28)=W1 at *
  generalize W.alloc (.cells (fcells (ykF ys k).1 (ykF ys k).2.1 (ykF ys k).2.2).toArray 28)=W2 at *
  unfold tellF
  gi_wp2
  exact hK _ _ HKP.out HI.out ⟨g0,hsz,HK2.out,rfl⟩
 case body=>
  rintro lp k a' W hl hrec hk ⟨t,r',h1,h2,h3,h4⟩ ⟨gf,hgf,kf,rfl⟩
  have hky:k < ys.length:=by rw[HN.out];exact hk
  have hyk:=ZE hky
  obtain⟨⟨x,q,qc⟩,hy⟩:∃y:Hd Fac,y=ykF ys k:=⟨_,rfl⟩
  rw[<-hy]at kf hyk ⊢
  simp only at kf ⊢
  have hx:sF.Good w0 x q qc:=by have h9:=HGD.out _ (List.getElem_mem hky);rw[<-hyk]at h9;exact h9
  have hlk:k < l.length:=by rw[HLL.out];exact hk
  have hlx:l[k] = x:=by
   have h9:l[k]? = some x:=by rw[HL.out,List.getElem?_map,List.getElem?_eq_getElem hky,<-hyk];rfl
   rw[List.getElem?_eq_getElem hlk]at h9
   exact Option.some.inj h9
  have hgB:B<=g:=Nat.le_trans HBW.out HF.out.lg
  have hbw1:Below w0.heap.size w0 w1:=HB0.out.trans (hw1b.mono HB0.out.size)
  have hgW:sF.Good W x q qc:=Yf hx hbw1 HBB.out hgB (fun k e=>e.elim) h4
  have hno:∀{j cs t'},Blk w1 j cs t'->¬rowT t'->j≠g->¬(Own9 w1 B g j\/False):=by
   rintro j cs t' hb hr hne ((e | ⟨_,cs2,t2,fz,e2,e3⟩) | e)
   ·exact hne e
   ·unfold Blk at hb;rw[hb]at e2;cases e2;exact hr e3
   ·exact e
  have ct:W.cell? ⟨gt,0,none⟩=some (.map (some bm)):=(h4.blk HF.out.kt (hno HF.out.kt (by unfold rowT;decide) fun e=>by have h9:=HF.out.kt;rw[e]at h9;exact absurd (blk_ty h9 HF.out.o.blk) (by decide))).cell 0
  have hTB:Tab W (.map (some bm)):=by
   obtain⟨b2,e2,hT⟩:=HF.out.tab
   cases e2
   refine⟨bm,rfl,(h4.block bm (Array.getElem?_eq_some_iff.1 hT).1 fun e=>?_).trans hT⟩
   rcases e with(e | ⟨_,cs,t',fz,e3,_⟩) | e
   ·have h9:w1.heap[g]? = _:=HF.out.o.blk
    rw[<-e,hT]at h9;cases h9
   ·rw[hT]at e3;cases e3
   ·exact e
  have k2W:=h4.blk HF.out.k2 (hno HF.out.k2 (by unfold rowT;decide) HF.out.ne)
  have k3W:=h4.blk HF.out.k3 (hno HF.out.k3 (by unfold rowT;decide) fun e=>by have h9:=HF.out.k3;rw[e]at h9;exact absurd (blk_ty h9 HF.out.o.blk) (by decide))
  have lf:=load_factB kf hx.ok.len
  have HKF:=xF kf
  have hpc:=zQ x q qc (.map (some bm)) W hTB hgW
  have hfw:(facts t).length<=400000000:=by
   have h9:=run_few _ _ _ h1
   have h10:=HFEW.out
   have h11:(l.take k).length<=k:=by rw[List.length_take];exact Nat.min_le_left _ _
   omega
  have HX:=xF hx
  have H1:=xF h1
  have H2:=xF h2
  have H3:=xF h3
  have H4:=xF h4
  have HGW:=xF hgW
  have HLK:=xF hlk
  have HLX:=xF hlx
  have HK2:=xF k2W
  have HK3:=xF k3W
  have HFW:=xF hfw
  have HGB:=xF hgB
  clear hky hyk hy h1 h2 h3 h4 kf hx hlx hgB hbw1 hgW hno hTB k2W k3W hfw
  cases hc:can x with
  | true=>
     rw[check_ok ((can_iff x).1 hc)]at hpc
     have HPC:=xF hpc
     have HCN:=xF hc
     clear hpc hc
     gi_wp2_with (first
      | (refine⟨trivial,?_⟩;gi_at_call 42;refine(CallsIn.inRound lp (callsIn_wide.2 HPC.out)).mono ?_;rintro e w2 ⟨rfl,hb2⟩;have lf2:=load_factB (HKF.out.below hb2 HKF.out.lt) HX.out.ok.len;have HB2:=xF hb2;have HDO:=xF (xE w2 B g t r' x q qc (H3.out.below hb2) (HGW.out.below hb2) ((can_iff x).1 HCN.out) (Yg HX.out HBB.out) H2.out (H3.out.rows.lens HFW.out (by omega)) (Nat.le_trans (Nat.le_trans HBW.out (Nat.le_trans hw1b.size H4.out.size)) hb2.size));clear hb2 lf)
      | (refine⟨trivial,?_⟩;gi_at_call 92;refine(CallsIn.inRound lp (callsIn_wide.2 HDO.out)).mono ?_;rintro e w3 ⟨rfl,r3,hS3,hC3⟩;have HS3:=xF hS3;have HC3:=xF hC3;clear hS3 hC3))
     have hs3:=H3.out.below HB2.out
     refine⟨((zD HB2.out).trans (Z5 hs3 HC3.out)).from _,t.on x,r3,?_,H2.out.on HX.out.ok ((can_iff x).1 HCN.out),HS3.out,zd (H4.out.grown (below_grown HB2.out none) fun k hk=>by cases hk) HC3.out⟩
     rw[<-HLX.out]
     exact Yi l s t k HLK.out H1.out (by rw[HLX.out];exact HCN.out)
  | false=>
     rw[check_no (fun h=>by rw[(can_iff x).2 h]at hc;cases hc)]at hpc
     have HPC:=xF hpc
     have HCN:=xF hc
     clear hpc hc
     gi_wp2_with (refine⟨trivial,?_⟩;gi_at_call 42;refine(CallsIn.inRound lp (callsIn_wide.2 HPC.out)).mono ?_;rintro e w2 ⟨rfl,hb2⟩;have HB2:=xF hb2;have kk2:=HK2.out.below hb2 HK2.out.lt;have kk3:=HK3.out.below hb2 HK3.out.lt;have mk:=make_ste w2;have s2:=store_ste (s:=Ste.none) (h:=Hds.none) kk2;have k2e:=kk2.row (scells Ste.none Hds.none);have k3e:=kk3.rowOther (scells Ste.none Hds.none).toArray (fun e=>by rw[e]at kk3;exact absurd (blk_ty kk3 kk2) (by decide));have HKE:=xF (show Chg (fun j=>j=g2\/j=g3) w2 (w2.setRow g2 (scells Ste.none Hds.none).toArray)from⟨rfl,rfl,rfl,by simp[World.setRow],fun k _ hn=>setRow_other _ _ _ _ fun e=>hn (Or.inl e)⟩);obtain⟨w4,hw4⟩:∃v,v=w2.setRow g2 (scells Ste.none Hds.none).toArray:=⟨_,rfl⟩;rw[<-hw4]at s2 k2e k3e HKE;have c3:=k3e.cell 0;have z3:=k3e.free 0;have HK2E:=xF k2e;have HK3E:=xF k3e;clear hb2 kk2 kk3 k2e k3e hw4)
     have kk2:=HK2.out.below HB2.out HK2.out.lt
     have kk3:=HK3.out.below HB2.out HK3.out.lt
     have h23:g2≠g3:=fun e=>by rw[e]at kk2;exact absurd (blk_ty kk2 kk3) (by decide)
     have e5:Chg (fun j=>Own9 w1 B g j\/(j=g2\/j=g3)) w1 (w4.setCell ⟨g3,0,none⟩ (.int .i64 2)):=
      (((H4.out.mono fun k _ e=>Or.inl (e.elim id False.elim)).grown (below_grown HB2.out none) fun k hk=>by cases hk).trans (HKE.out.mono fun k _ e=>Or.inr e)).grown (zg w4 g3 0 _) fun k hk _=>by cases hk;exact Or.inr (Or.inr rfl)
     refine⟨(((zD HB2.out).trans (Zt HKE.out fun k o hk ho e=>?_)).trans (KeepsOthers.setCell _ _ _)).from _,rfl,Yh l s t k hlk H1.out (by rw[HLX.out];exact HCN.out),HK2E.out.setOther _ _ h23,HK3E.out.set 0 _,e5⟩
     rcases e with rfl | rfl
     ·have h9:w2.heap[k]? = _:=kk2
      rw[hk]at h9;cases h9;cases ho
     ·have h9:w2.heap[k]? = _:=kk3
      rw[hk]at h9;cases h9;cases ho
 case done=>
  rintro D W hD ⟨t,r',h1,h2,h3,h4⟩ hdf
  rw[show l.take n=l from List.take_of_length_le (by rw[HLL.out];exact qD _)]at h1
  obtain⟨k',hk',hgd⟩:=h3.rows.hds
  have hno:∀{j cs t'},Blk w1 j cs t'->¬rowT t'->j≠g->¬(Own9 w1 B g j\/False):=by
   rintro j cs t' hb hr hne ((e | ⟨_,cs2,t2,fz,e2,e3⟩) | e)
   ·exact hne e
   ·unfold Blk at hb;rw[hb]at e2;cases e2;exact hr e3
   ·exact e
  have k2W:=h4.blk HF.out.k2 (hno HF.out.k2 (by unfold rowT;decide) HF.out.ne)
  have k3W:=h4.blk HF.out.k3 (hno HF.out.k3 (by unfold rowT;decide) fun e=>by have h9:=HF.out.k3;rw[e]at h9;exact absurd (blk_ty h9 HF.out.o.blk) (by decide))
  have h23:g2≠g3:=fun e=>by rw[e]at k2W;exact absurd (blk_ty k2W k3W) (by decide)
  have hblk:Blk W g (scells t k') 47:=by rw[<-hk'];exact h3.blk
  have ld:=load_steB hblk
  have s2:=store_ste (s:=t) (h:=k') k2W
  have k2e:=k2W.row (scells t k')
  have k3e:=k3W.rowOther (scells t k').toArray (Ne.symm h23)
  have HEND:=xF (Ye (W:=W) (g2:=g2) (g3:=g3) (D:=D) (scells t k') (.int .i64 0) (.deferred none))
  have hD2:D≠g2:=fun e=>by subst e;have h9:W.heap[D]? = _:=k2W;rw[hdf]at h9;cases h9
  have hD3:D≠g3:=fun e=>by subst e;have h9:W.heap[D]? = _:=k3W;rw[hdf]at h9;cases h9
  have hdf4:(W.setRow g2 (scells t k').toArray).heap[D]? = some (.deferred (some [])):=(setRow_other _ _ _ _ hD2).trans hdf
  obtain⟨w4,hw4⟩:∃v,v=W.setRow g2 (scells t k').toArray:=⟨_,rfl⟩
  rw[<-hw4]at s2 k2e k3e HEND hdf4
  have c3:=k3e.cell 0
  have z3:=k3e.free 0
  have hdf5:(w4.setCell ⟨g3,0,none⟩ (.int .i64 0)).heap[D]? = some (.deferred (some [])):=(Below.heap_setCell _ _ _ _ hD3).trans hdf4
  have k2f:Blk ((w4.setCell ⟨g3,0,none⟩ (.int .i64 0)).putObj D (.deferred none)) g2 (scells t k') 47:=(World.putObj_heap_other (Ne.symm hD2)).trans (k2e.setOther _ _ h23)
  have k3f:Blk ((w4.setCell ⟨g3,0,none⟩ (.int .i64 0)).putObj D (.deferred none)) g3 [.int .i64 0] 32:=(World.putObj_heap_other (Ne.symm hD3)).trans (k3e.set 0 _)
  have HR:=xF (show FoldP w B (s.run l) (.returned (.tuple #[.agg (scells t k').toArray,.int .i64 0])) ((w4.setCell ⟨g3,0,none⟩ (.int .i64 0)).putObj D (.deferred none))from by
   rw[h1]
   refine⟨r',k',rfl,hk',h3.rows.ends k2W k3W hdf HEND.out,?_⟩
   refine Zj (g:=g) (g2:=g2) (g3:=g3) (D:=D) (X:=fun j=>j=g2\/j=g3\/j=D) hw1b HF.out.lg HF.out.lg2 HF.out.lg3 (fun k e=>?_) ((h4.mono fun k _ e=>Or.inl (e.elim id False.elim)).trans (HEND.out.mono fun k _ e=>Or.inr e))
   rcases e with rfl | rfl | rfl
   ·exact HF.out.lg2
   ·exact HF.out.lg3
   ·exact Nat.le_trans hw1b.size hD)
  have HK2F:=xF k2f
  have HK3F:=xF k3f
  have HDF:=xF hdf5
  clear h1 h2 h3 h4 hk' hgd hno k2W k3W h23 hblk k2e k3e HEND hD2 hD3 hdf hdf4 hw4 k2f k3f hdf5
  gi_wp2
  refine⟨by simp,.inl ⟨_,_,rfl,run_takeDeferred HDF.out,?_⟩⟩
  exact⟨_,zV rfl _ _ g2 g3 t k' 0 rfl rfl HK2F.out (HK3F.out.cell 0),HR.out⟩
 case stop=>
  rintro D c' k W hD hk ⟨rfl,hr,k2,k3,hc⟩ hdf
  have hD2:D≠g2:=fun e=>by subst e;have h9:W.heap[D]? = _:=k2;rw[hdf]at h9;cases h9
  have hD3:D≠g3:=fun e=>by subst e;have h9:W.heap[D]? = _:=k3;rw[hdf]at h9;cases h9
  have k2f:Blk (W.putObj D (.deferred none)) g2 (scells Ste.none Hds.none) 47:=(World.putObj_heap_other (Ne.symm hD2)).trans k2
  have k3f:Blk (W.putObj D (.deferred none)) g3 [.int .i64 2] 32:=(World.putObj_heap_other (Ne.symm hD3)).trans k3
  have HR:=xF (show FoldP w B (s.run l) (.returned (.tuple #[.agg (scells Ste.none Hds.none).toArray,.int .i64 2])) (W.putObj D (.deferred none))from by
   rw[hr]
   refine⟨Rows9.none,Hds.none,rfl,by rw[scells_eq];rfl,StR.none_ _ _,?_⟩
   refine Zj (g:=g) (g2:=g2) (g3:=g3) (D:=D) (X:=fun j=>(j=g2\/j=g3)\/j=D) hw1b HF.out.lg HF.out.lg2 HF.out.lg3 (fun k e=>?_) ((hc.mono fun k _ e=>e.elim Or.inl fun e=>Or.inr (Or.inl e)).grown (grownBy_putObj' W D _) fun k e _=>by cases e;exact Or.inr (Or.inr rfl))
   rcases e with(rfl | rfl) | rfl
   ·exact HF.out.lg2
   ·exact HF.out.lg3
   ·exact Nat.le_trans hw1b.size hD)
  have HK2F:=xF k2f
  have HK3F:=xF k3f
  have HDF:=xF hdf
  clear hr k2 k3 hc hD2 hD3 k2f k3f hdf
  gi_wp2
  refine⟨by simp,.inl ⟨_,_,rfl,run_takeDeferred HDF.out,?_⟩⟩
  exact⟨_,zV rfl _ _ g2 g3 Ste.none Hds.none 2 rfl rfl HK2F.out (HK3F.out.cell 0),HR.out⟩
end
section
open Go.RowKit Sha Fct
attribute [local go_sem ↓] execOp_allocSte execOp_storeSte execOp_makeSte
theorem ZF {fn:Func} {p u:Tmp}(h:fn.results=#[.cell p 47,.tmp u])(tmps:Array Value)(w:World)(g:Nat)(s:Ste)(k:Hds)(v:Value)
 (hp:tmps.getD p undef= .pointer (some ⟨g,0,none⟩)) (hu:tmps.getD u undef=v) (hg:Blk w g (scells s k) 47):
 (results fn tmps).run Tryz.prog w= .ok (.tuple #[.agg (scells s k).toArray,v]) w:=by
 have hp':tmps[p]?.getD undef= .pointer (some ⟨g,0,none⟩):=by simpa using hp
 have hu':tmps[u]?.getD undef=v:=by simpa using hu
 have e1:=run_loadVar_row (P:=Tryz.prog) w g 47 47 (scells s k).toArray (0,0) _ hg Tryz.underlying47 rfl (ste_sizeA s k)
 simp[results,h,hp',hu',asAddr,e1]
theorem Z9 {s t:Ste} {h k:Hds}(e:scells s h=scells t k):h=k:=by
 rw[scells_eq,scells_eq]at e
 obtain⟨⟨a1,a2,a3⟩,⟨b1,b2,b3⟩,⟨c1,c2,c3⟩,⟨d1,d2,d3⟩,⟨e1,e2,e3⟩⟩:=h
 obtain⟨⟨x1,x2,x3⟩,⟨y1,y2,y3⟩,⟨z1,z2,z3⟩,⟨u1,u2,u3⟩,⟨v1,v2,v3⟩⟩:=k
 simp only[Sl3.v,List.cons.injEq,Value.slice.injEq,and_true]at e
 obtain⟨_,_,⟨rfl,rfl,rfl⟩,⟨rfl,rfl,rfl⟩,⟨rfl,rfl,rfl⟩,⟨rfl,rfl,rfl⟩,rfl,rfl,rfl⟩:=e
 rfl
theorem StR.good {w:World} {B:Nat} {s:Ste} {r:Rows9} {k:Hds}(h:StR w B s r)(hk:zh s r=scells s k):SGood w s k:=by
 obtain⟨k2,h1,h2⟩:=h.hds
 rw[hk]at h1
 rw[Z9 h1];exact h2
theorem ya {w0 w w':World} {B:Nat}(hb:Below w0.heap.size w0 w)(hB:w0.heap.size<=B)(hc:Chg (fun j=>OwnR w B j) w w'):Below w0.heap.size w0 w':=
 hb.trans ⟨hc.os,hc.tape,hc.output,hc.size,fun k hk=>hc.block k (Nat.lt_of_lt_of_le hk hb.size) fun e=>by have:=e.1;omega⟩
theorem yK (l:List Fac)(p:Option Addr)(n c:Nat)(w:World)(h:sF.Told w p n c l)(hl:l.length<=100000000):
 Calls Tryz.prog 20 #[.slice p n c] w (FSte w (Fct.fold l)):=by
 obtain⟨ys,hy,hyn,hA,hgd,_⟩:=h.rows'
 have hn:n<=100000000:=by rw[h.len];exact hl
 have al:=alloc_ste w
 have k1:Blk (w.alloc (.cells (scells Ste.none Hds.none).toArray 47)) w.heap.size (scells Ste.none Hds.none) 47:=Blk.new w _ 47
 have b1:=(qB w.heap.size w).alloc (qD _) (.cells (scells Ste.none Hds.none).toArray 47)
 obtain⟨w1,hw1⟩:∃x,x=w.alloc (.cells (scells Ste.none Hds.none).toArray 47):=⟨_,rfl⟩
 rw[<-hw1]at al k1 b1
 have b2:=b1.alloc b1.size (.cells #[.slice p n c] 30)
 have k2:=k1.old (.cells #[.slice p n c] 30)
 have hbx:=Boxed.new w1 30 (.slice p n c)
 have mk:=make_ste w1
 have HV:=xF (yu p n c w1)
 obtain⟨w2,hw2⟩:∃x,x=w1.alloc (.cells #[.slice p n c] 30):=⟨_,rfl⟩
 rw[<-hw2]at b2 k2 hbx HV
 have HF:=xF (Yp w w2 w.heap.size Ste.none Rows9.none Hds.none ys p n c w1.heap.size (StR.none_ _ _) (by rw[scells_eq];rfl) Sound.none (by have:(facts Ste.none).length=0:=rfl;omega) hyn hn hbx
  (fun W' hc=>hA.carry fun a v hv=>by
    have ha:=World.block_lt_of_cell? w a hv
    exact(World.cell?_of_block (w:=w) (a:=a) ((hc.block _ (Nat.lt_of_lt_of_le ha b2.size) fun e=>by have:=e.1;omega).trans (b2.block _ ha))).trans hv)
  hgd b2 (qD _) b2.size)
 rw[hy]at HF
 obtain⟨g,hg⟩:∃g,g=w.heap.size:=⟨_,rfl⟩
 have HG:=xF hg
 have HB2:=xF b2
 rw[<-hg]at al k2
 have HK2:=xF k2
 clear h hl hy hyn hA hgd hw1 hw2 k1 b1 b2 k2 hbx hg
 go_enter Tryz.func20,Tryz.ntmps20
 go_wp2_with fail
 refine HV.out.mono ?_
 rintro e w3 ⟨rfl,rfl⟩
 go_wp2_with fail
 refine HF.out.mono ?_
 rintro e w4 ⟨r',k',rfl,hk',hR,hC⟩
 have k4:=hC.blk HK2.out (fun⟨_,cs,t',fz,e2,e3⟩=>by
  have h9:=HK2.out
  unfold Blk at h9;rw[h9]at e2;cases e2
  rcases e3 with e3 | e3 | e3 | e3 | e3<;>exact absurd e3 (by decide))
 have st:=store_ste (s:=(Ste.none.run l).1) (h:=k') k4
 have HK5:=xF (k4.row (scells (Ste.none.run l).1 k'))
 have HB4:=xF (ya HB2.out (qD _) hC)
 have HB5:=xF (Below.setRow HB4.out (show w.heap.size<=g by rw[HG.out];exact qD _) (scells (Ste.none.run l).1 k').toArray)
 have HS5:=xF (show SGood (w4.setRow g (scells (Ste.none.run l).1 k').toArray) (Ste.none.run l).1 k' from(hR.chg (Q:=fun j=>j=g) (show Chg (fun j=>j=g) w4 (w4.setRow g (scells (Ste.none.run l).1 k').toArray)from⟨rfl,rfl,rfl,by simp[World.setRow],fun k _ hn=>setRow_other _ _ _ _ hn⟩) (fun k cs fz t hk ht e=>by
  subst e
  have h9:w4.heap[k]? = _:=k4
  rw[hk]at h9;cases h9
  rcases ht with(ht | ht | ht | ht | ht) | ht<;>exact absurd ht (by decide))).good hk')
 clear k4 hk' hR hC
 obtain⟨t,ht⟩:∃t,t=Ste.none.run l:=⟨_,rfl⟩
 rw[<-ht]at st HK5 HB5 HS5 ⊢
 have HT:=xF (show Fct.fold l=t from ht.symm)
 obtain⟨t1,t2⟩:=t
 simp only at st HK5 HB5 HS5 ⊢
 clear ht
 go_wp2_with fail
 refine bodyPost_ret (v:=.tuple #[.agg (scells t1 k').toArray,.int .i64 t2]) (ZF rfl _ _ g t1 k' (.int .i64 t2) rfl rfl HK5.out) rfl ?_
 rw[HT.out]
 exact⟨k',rfl,HS5.out,HB5.out⟩
theorem Yq:FactsFold where
 toFactsBytes:=yB
 fold l p n c w h hl _:=yK l p n c w h (Nat.le_trans hl (by decide))
end
end Go.Proofs.YtokpabkcaofahaaGreat
