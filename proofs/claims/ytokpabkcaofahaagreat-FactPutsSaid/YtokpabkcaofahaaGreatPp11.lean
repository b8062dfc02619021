/-
  What stands under factPuts_holds: part 11.
-/
import Derived.Test.YtokpabkcaofahaaGreatPp9
import Derived.Test.YtokpabkcaofahaaGreatPp10
namespace Go.Proofs.YtokpabkcaofahaaGreat
set_option linter.unusedSimpArgs false
set_option linter.unusedVariables false
set_option maxRecDepth 100000
set_option maxHeartbeats 20000000
section
open Go.RowKit Sha Fct
open Fld (Itm)
theorem kind_built (k:Int):Tryz.prog.built 28 [(0,.int .i64 k)] = some (fcells ⟨k,0,0,0,0,Fld.zero32,[]⟩ none 0).toArray:=by unfold fcells;kernel_rfl
theorem bal_built (n o:Int):Tryz.prog.built 23 [(0,.int .i64 n),(1,.int .i64 o)] = some #[.int .i64 n,.int .i64 o]:=by kernel_rfl
theorem execOp_makeBal (ρ:Operand->Value)(dst:Option Tmp)(parts:Array (Nat×Operand))(ty:TypeId)(pos:String)(after:Array Edge)(guard:Option (Nat×Bool)):
 execOp ρ {dst:=dst,op:=.build 23 parts,type:=ty,pos:=pos,after:=after,guard:=guard}= makeOp 23 (parts.map fun(i,x)=>(i,ρ x)):=by unfold makeOp;rfl
theorem execOp_storeInt (ρ:Operand->Value)(dst:Option Tmp)(x y:Operand)(ty:TypeId)(pos:String)(after:Array Edge)(guard:Option (Nat×Bool)):
 execOp ρ {dst:=dst,op:=.store 3 x y,type:=ty,pos:=pos,after:=after,guard:=guard}= storeOp 3 (ρ x) (ρ y):=by unfold storeOp;rfl
theorem execOp_storeBytes (ρ:Operand->Value)(dst:Option Tmp)(x y:Operand)(ty:TypeId)(pos:String)(after:Array Edge)(guard:Option (Nat×Bool)):
 execOp ρ {dst:=dst,op:=.store 26 x y,type:=ty,pos:=pos,after:=after,guard:=guard}= storeOp 26 (ρ x) (ρ y):=by unfold storeOp;rfl
theorem execOp_storeId (ρ:Operand->Value)(dst:Option Tmp)(x y:Operand)(ty:TypeId)(pos:String)(after:Array Edge)(guard:Option (Nat×Bool)):
 execOp ρ {dst:=dst,op:=.store 25 x y,type:=ty,pos:=pos,after:=after,guard:=guard}= storeOp 25 (ρ x) (ρ y):=by unfold storeOp;rfl
theorem execOp_storeBal (ρ:Operand->Value)(dst:Option Tmp)(x y:Operand)(ty:TypeId)(pos:String)(after:Array Edge)(guard:Option (Nat×Bool)):
 execOp ρ {dst:=dst,op:=.store 23 x y,type:=ty,pos:=pos,after:=after,guard:=guard}= storeOp 23 (ρ x) (ρ y):=by unfold storeOp;rfl
theorem StF.run {ty:TypeId} {i:Nat} {v:Value} {z z':Fac} {q q':Option Addr} {c c':Nat}(h:StF ty i v z q c z' q' c') {w:World} {g:Nat}(hb:Blk w g (fcells z q c) 28):
 ∃w',(storeOp ty (.pointer (some ⟨g,i,none⟩)) v).run Tryz.prog w= .ok .skip w'/\Blk w' g (fcells z' q' c') 28/\Touch [g] w w':=by
 obtain⟨w',hr,hk,ht⟩:=h w g hb
 refine⟨w',?_,hk,ht⟩
 unfold storeOp
 simp only[Sem.run_bind,hr,Result.andThen_ok,Sem.run_pure]
structure ItmAt (w:World)(b o:Nat)(x:Itm)(q:Option Addr)(c:Nat):Prop where
 r:w.rangeAt b o (icells x q c)
 g:GoodI w x q c
 lt:b < w.heap.size
theorem ItmAt.on {w w':World} {b o:Nat} {x:Itm} {q:Option Addr} {c:Nat}(h:ItmAt w b o x q c)(hb:Below w.heap.size w w'):ItmAt w' b o x q c:=⟨range_below h.r hb,h.g.below hb,Nat.lt_of_lt_of_le h.lt hb.size⟩
theorem ItmAt.n {w:World} {b o:Nat} {x:Itm} {q:Option Addr} {c:Nat}(h:ItmAt w b o x q c):w.cell? ⟨b,o,none⟩=some (.int .i64 x.N):=h.r 0 _ (icells_0 x q c)
theorem ItmAt.b {w:World} {b o:Nat} {x:Itm} {q:Option Addr} {c:Nat}(h:ItmAt w b o x q c):w.cell? ⟨b,o+1,none⟩=some (.slice q x.B.length c):=h.r 1 _ (icells_1 x q c)
theorem ItmAt.d {w:World} {b o:Nat} {x:Itm} {q:Option Addr} {c:Nat}(h:ItmAt w b o x q c):(loadOp 25 (.pointer (some ⟨b,o+2,none⟩))).run Tryz.prog w= .ok (.value (.agg (x.D.map v8).toArray)) w:=load_id h.g.ok h.r
theorem items_at {w:World} {p:Option Addr} {n c:Nat} {l:List Itm}(h:Told w p n c l)(h0:0 < l.length):∃b off,p=some ⟨b,off,none⟩/\∀i (hi:i < l.length),∃q d,ItmAt w b (off+i*34) l[i] q d:=by
 obtain⟨b,off,q,d,rfl,hr,hg⟩:=h.items.get 0 h0
 have hlt:b < w.heap.size:=World.block_lt_of_cell? w _ (hr 0 _ (icells_0 _ q d))
 refine⟨b,off,rfl,fun i hi=>?_⟩
 obtain⟨b2,off2,q2,d2,e,hr2,hg2⟩:=h.items.get i hi
 cases e
 exact⟨q2,d2,hr2,hg2,hlt⟩
theorem outOf_low {w:World} {q:Option Addr} {B:List Int} {r:Nat}(h:At w q (B.map v8))(hr:w.heap.size<=r):OutOf r B q:=fun hne a ha=>by
 have hl:0 < (B.map v8).length:=by rw[List.length_map];exact List.length_pos_iff.2 hne
 obtain⟨b,off,rfl,hc⟩:=h.addr hl
 cases ha
 have h1:b < w.heap.size:=World.block_lt_of_cell? w _ (hc 0 _ (List.getElem?_eq_getElem hl))
 intro e
 have e':b=r:=e
 omega
attribute [local go_sem ↓] execOp_allocFact execOp_storeFact execOp_boxFact execOp_makeFact execOp_loadFact execOp_loadId execOp_loadItem execOp_buildItems execOp_makeItem execOp_loadBal execOp_makeBal execOp_storeInt execOp_storeBytes execOp_storeId execOp_storeBal
theorem rof_1 (x:Fac)(hk:x.K=1)(p:Option Addr)(n c:Nat)(w:World)(hx:x.ok)(ht:Told w p n c (items x)):
 Calls Tryz.prog 49 #[.int .i64 x.K,.slice p n c] w (FTold (of x.K (items x)) w):=by
 rw[show items x= [] by unfold items;simp[hk]]at ht ⊢
 rw[show of x.K [] = ⟨x.K,0,0,0,0,Fld.zero32,[]⟩ by unfold of;simp[hk,iN,iB,iD]]
 have HXO:=Lib.hid hx
 clear ht
 rw[hk]
 have al:=fun w=>alloc_fact w
 have mk:∀w,(makeOp 28 #[(0,.int .i64 1)]).run Tryz.prog w= .ok (.value (.agg (fcells ⟨1,0,0,0,0,Fld.zero32,[]⟩ none 0).toArray)) w:=fun w=>run_makeOp w (kind_built 1)
 have st:=store_fact1 (w.alloc (.cells (fcells fz none 0).toArray 28)) (x:=⟨1,0,0,0,0,Fld.zero32,[]⟩) (q:=none) (c:=0) zlen
 have hb1:=(Below.refl w.heap.size w).alloc (Nat.le_refl _) (.cells (fcells fz none 0).toArray 28)
 have hz1:=World.size_alloc w (.cells (fcells fz none 0).toArray 28)
 have hr1:=Blk.new w (fcells fz none 0).toArray 28
 obtain⟨w1,hw1⟩:∃v,v=w.alloc (.cells (fcells fz none 0).toArray 28):=⟨_,rfl⟩
 rw[<-hw1]at hb1 hz1 hr1 st
 have hb2:=hb1.alloc (by omega) (.cells (fcells ⟨1,0,0,0,0,Fld.zero32,[]⟩ none 0).toArray 28)
 have hr2:=hr1.old (.cells (fcells ⟨1,0,0,0,0,Fld.zero32,[]⟩ none 0).toArray 28)
 have hg2:=Blk.new w1 (fcells ⟨1,0,0,0,0,Fld.zero32,[]⟩ none 0).toArray 28
 obtain⟨w2,hw2⟩:∃v,v=w1.alloc (.cells (fcells ⟨1,0,0,0,0,Fld.zero32,[]⟩ none 0).toArray 28):=⟨_,rfl⟩
 rw[<-hw2]at hb2 hr2 hg2 st
 have B0:=Lib.hid hb2
 have R0:=Lib.hid (show Blk w2 w.heap.size (fcells fz none 0) 28 from hr2)
 have K0:=Lib.hid (show Blk w2 w1.heap.size (fcells ⟨1,0,0,0,0,Fld.zero32,[]⟩ none 0) 28 from hg2)
 have al1:=al w
 have al2:=al w1
 rw[<-hw1]at al1
 obtain⟨r,hr⟩:∃r,r=w.heap.size:=⟨_,rfl⟩
 obtain⟨g,hg⟩:∃g,g=w1.heap.size:=⟨_,rfl⟩
 rw[<-hr]at R0 al1
 rw[<-hg]at K0 al2 st
 have HR:=Lib.hid hr
 have HG:=Lib.hid (show g=r+1 by omega)
 clear hb1 hz1 hr1 hb2 hr2 hg2 hw1 hw2 hr hg al
 have lf:=load_factB K0.out zlen
 have sf:=store_fact (q:=none) (c:=0) (x:=⟨1,0,0,0,0,Fld.zero32,[]⟩) R0.out zlen zlen
 go_enter Tryz.func49,Tryz.ntmps49
 go_wp2_with fail
 have hend:=ftold_end (q:=none) (c:=0) (x:=⟨1,0,0,0,0,Fld.zero32,[]⟩) B0.out (by have:=HR.out;omega) ⟨fact_ok0 (fit_small (by omega)) (fit_small (by omega)) (fit_small (by omega)) (fit_small (by omega)) (fit_small (by omega)) zlen z32_ok.1 (by simp),At.nil _ _,by simp[sF],by omega,fun _=>rfl⟩ (fun hne=>absurd rfl hne) R0.out
 refine bodyPost_ret (v:=.agg (fcells ⟨1,0,0,0,0,Fld.zero32,[]⟩ none 0).toArray) (results_cell_row rfl _ _ _ _ _ _ _ rfl hend.1 (Tryz.underlying28) rfl (fact_sizeA (x:=⟨1,0,0,0,0,Fld.zero32,[]⟩) zlen _ _)) rfl hend.2
theorem rof_2 (x:Fac)(hk:x.K=2)(p:Option Addr)(n c:Nat)(w:World)(hx:x.ok)(ht:Told w p n c (items x)):
 Calls Tryz.prog 49 #[.int .i64 x.K,.slice p n c] w (FTold (of x.K (items x)) w):=by
 rw[show items x= [iN x.S] by unfold items;simp[hk]]at ht ⊢
 rw[show of x.K [iN x.S] = ⟨x.K,x.S,0,0,0,Fld.zero32,[]⟩ by unfold of;simp[hk,iN,iB,iD]]
 have HXO:=Lib.hid hx
 obtain rfl:n=1:=ht.len
 have hle:=ht.le
 have hmx:=ht.max
 obtain⟨b,off,rfl,hit⟩:=items_at ht (by simp)
 obtain⟨q0,c0,h0⟩:=hit 0 (by simp)
 have I0:=Lib.hid (show ItmAt w b off (iN x.S) q0 c0 from by simpa using h0)
 clear hit ht h0
 rw[hk]
 have al:=fun w=>alloc_fact w
 have mk:∀w,(makeOp 28 #[(0,.int .i64 2)]).run Tryz.prog w= .ok (.value (.agg (fcells ⟨2,0,0,0,0,Fld.zero32,[]⟩ none 0).toArray)) w:=fun w=>run_makeOp w (kind_built 2)
 have st:=store_fact1 (w.alloc (.cells (fcells fz none 0).toArray 28)) (x:=⟨2,0,0,0,0,Fld.zero32,[]⟩) (q:=none) (c:=0) zlen
 have hb1:=(Below.refl w.heap.size w).alloc (Nat.le_refl _) (.cells (fcells fz none 0).toArray 28)
 have hz1:=World.size_alloc w (.cells (fcells fz none 0).toArray 28)
 have hr1:=Blk.new w (fcells fz none 0).toArray 28
 obtain⟨w1,hw1⟩:∃v,v=w.alloc (.cells (fcells fz none 0).toArray 28):=⟨_,rfl⟩
 rw[<-hw1]at hb1 hz1 hr1 st
 have hb2:=hb1.alloc (by omega) (.cells (fcells ⟨2,0,0,0,0,Fld.zero32,[]⟩ none 0).toArray 28)
 have hr2:=hr1.old (.cells (fcells ⟨2,0,0,0,0,Fld.zero32,[]⟩ none 0).toArray 28)
 have hg2:=Blk.new w1 (fcells ⟨2,0,0,0,0,Fld.zero32,[]⟩ none 0).toArray 28
 obtain⟨w2,hw2⟩:∃v,v=w1.alloc (.cells (fcells ⟨2,0,0,0,0,Fld.zero32,[]⟩ none 0).toArray 28):=⟨_,rfl⟩
 rw[<-hw2]at hb2 hr2 hg2 st
 have B0:=Lib.hid hb2
 have R0:=Lib.hid (show Blk w2 w.heap.size (fcells fz none 0) 28 from hr2)
 have K0:=Lib.hid (show Blk w2 w1.heap.size (fcells ⟨2,0,0,0,0,Fld.zero32,[]⟩ none 0) 28 from hg2)
 have al1:=al w
 have al2:=al w1
 rw[<-hw1]at al1
 obtain⟨r,hr⟩:∃r,r=w.heap.size:=⟨_,rfl⟩
 obtain⟨g,hg⟩:∃g,g=w1.heap.size:=⟨_,rfl⟩
 rw[<-hr]at R0 al1
 rw[<-hg]at K0 al2 st
 have HR:=Lib.hid hr
 have HG:=Lib.hid (show g=r+1 by omega)
 clear hb1 hz1 hr1 hb2 hr2 hg2 hw1 hw2 hr hg al
 have HL:=Lib.hid (show(⟨2,0,0,0,0,Fld.zero32,[]⟩:Fac).D.length=32 from zlen)
 have v0:w2.cell? ⟨b,off,none⟩=some (.int .i64 x.S):=(I0.out.on B0.out).n
 obtain⟨w3,sr0,hk,ht⟩:=(stF_S _ _ _ x.S HL.out).run K0.out
 have B1:=Lib.hid (show Below w.heap.size w w3 from B0.out.trans (ht.below (B:=w.heap.size) (by have h1:=HG.out;have h2:=HR.out;simp;omega) B0.out.size))
 have R1:=Lib.hid (show Blk w3 r (fcells fz none 0) 28 from(ht.block r R0.out.lt (by have h1:=HG.out;simp;omega)).trans R0.out)
 have K1:=Lib.hid (show Blk w3 g (fcells ⟨2,x.S,0,0,0,Fld.zero32,[]⟩ none 0) 28 from hk)
 clear hk ht HL
 have lf:=load_factB K1.out zlen
 have sf:=store_fact (q:=none) (c:=0) (x:=⟨2,x.S,0,0,0,Fld.zero32,[]⟩) R1.out zlen zlen
 go_enter Tryz.func49,Tryz.ntmps49
 go_wp2_with fail
 have hend:=ftold_end (q:=none) (c:=0) (x:=⟨2,x.S,0,0,0,Fld.zero32,[]⟩) B1.out (by have:=HR.out;omega) ⟨fact_ok0 (fit_small (by omega)) HXO.out.S (fit_small (by omega)) (fit_small (by omega)) (fit_small (by omega)) zlen z32_ok.1 (by simp),At.nil _ _,by simp[sF],by omega,fun _=>rfl⟩ (fun hne=>absurd rfl hne) R1.out
 refine bodyPost_ret (v:=.agg (fcells ⟨2,x.S,0,0,0,Fld.zero32,[]⟩ none 0).toArray) (results_cell_row rfl _ _ _ _ _ _ _ rfl hend.1 (Tryz.underlying28) rfl (fact_sizeA (x:=⟨2,x.S,0,0,0,Fld.zero32,[]⟩) zlen _ _)) rfl hend.2
theorem rof_3 (x:Fac)(hk:x.K=3)(p:Option Addr)(n c:Nat)(w:World)(hx:x.ok)(ht:Told w p n c (items x))(hsm:x.B.length<=100000):
 Calls Tryz.prog 49 #[.int .i64 x.K,.slice p n c] w (FTold (of x.K (items x)) w):=by
 rw[show items x= [iB x.B] by unfold items;simp[hk]]at ht ⊢
 rw[show of x.K [iB x.B] = ⟨x.K,0,0,0,0,(Sha.sum x.B),x.B⟩ by unfold of;simp[hk,iN,iB,iD]]
 have HXO:=Lib.hid hx
 obtain rfl:n=1:=ht.len
 have hle:=ht.le
 have hmx:=ht.max
 obtain⟨b,off,rfl,hit⟩:=items_at ht (by simp)
 obtain⟨q0,c0,h0⟩:=hit 0 (by simp)
 have I0:=Lib.hid (show ItmAt w b off (iB x.B) q0 c0 from by simpa using h0)
 clear hit ht h0
 rw[hk]
 have al:=fun w=>alloc_fact w
 have mk:∀w,(makeOp 28 #[(0,.int .i64 3)]).run Tryz.prog w= .ok (.value (.agg (fcells ⟨3,0,0,0,0,Fld.zero32,[]⟩ none 0).toArray)) w:=fun w=>run_makeOp w (kind_built 3)
 have st:=store_fact1 (w.alloc (.cells (fcells fz none 0).toArray 28)) (x:=⟨3,0,0,0,0,Fld.zero32,[]⟩) (q:=none) (c:=0) zlen
 have hb1:=(Below.refl w.heap.size w).alloc (Nat.le_refl _) (.cells (fcells fz none 0).toArray 28)
 have hz1:=World.size_alloc w (.cells (fcells fz none 0).toArray 28)
 have hr1:=Blk.new w (fcells fz none 0).toArray 28
 obtain⟨w1,hw1⟩:∃v,v=w.alloc (.cells (fcells fz none 0).toArray 28):=⟨_,rfl⟩
 rw[<-hw1]at hb1 hz1 hr1 st
 have hb2:=hb1.alloc (by omega) (.cells (fcells ⟨3,0,0,0,0,Fld.zero32,[]⟩ none 0).toArray 28)
 have hr2:=hr1.old (.cells (fcells ⟨3,0,0,0,0,Fld.zero32,[]⟩ none 0).toArray 28)
 have hg2:=Blk.new w1 (fcells ⟨3,0,0,0,0,Fld.zero32,[]⟩ none 0).toArray 28
 obtain⟨w2,hw2⟩:∃v,v=w1.alloc (.cells (fcells ⟨3,0,0,0,0,Fld.zero32,[]⟩ none 0).toArray 28):=⟨_,rfl⟩
 rw[<-hw2]at hb2 hr2 hg2 st
 have B0:=Lib.hid hb2
 have R0:=Lib.hid (show Blk w2 w.heap.size (fcells fz none 0) 28 from hr2)
 have K0:=Lib.hid (show Blk w2 w1.heap.size (fcells ⟨3,0,0,0,0,Fld.zero32,[]⟩ none 0) 28 from hg2)
 have al1:=al w
 have al2:=al w1
 rw[<-hw1]at al1
 obtain⟨r,hr⟩:∃r,r=w.heap.size:=⟨_,rfl⟩
 obtain⟨g,hg⟩:∃g,g=w1.heap.size:=⟨_,rfl⟩
 rw[<-hr]at R0 al1
 rw[<-hg]at K0 al2 st
 have HR:=Lib.hid hr
 have HG:=Lib.hid (show g=r+1 by omega)
 clear hb1 hz1 hr1 hb2 hr2 hg2 hw1 hw2 hr hg al
 obtain⟨m,hm⟩:∃m,m=x.B.length:=⟨_,rfl⟩
 have HM:=Lib.hid hm
 clear hm
 have HL:=Lib.hid (show(⟨3,0,0,0,0,Fld.zero32,[]⟩:Fac).D.length=32 from zlen)
 have v0:w2.cell? ⟨b,off+1,none⟩=some (.slice q0 m c0):=by rw[HM.out];exact(I0.out.on B0.out).b
 obtain⟨w3,sr0,hk,ht⟩:=(stF_B _ _ _ x.B m HM.out q0 c0 HL.out).run K0.out
 have B1:=Lib.hid (show Below w.heap.size w w3 from B0.out.trans (ht.below (B:=w.heap.size) (by have h1:=HG.out;have h2:=HR.out;simp;omega) B0.out.size))
 have R1:=Lib.hid (show Blk w3 r (fcells fz none 0) 28 from(ht.block r R0.out.lt (by have h1:=HG.out;simp;omega)).trans R0.out)
 have K1:=Lib.hid (show Blk w3 g (fcells ⟨3,0,0,0,0,Fld.zero32,x.B⟩ q0 c0) 28 from hk)
 clear hk ht HL
 have HL:=Lib.hid (show(⟨3,0,0,0,0,Fld.zero32,x.B⟩:Fac).D.length=32 from zlen)
 have v1:w3.cell? ⟨b,off+1,none⟩=some (.slice q0 m c0):=by rw[HM.out];exact(I0.out.on B1.out).b
 go_enter Tryz.func49,Tryz.ntmps49
 go_wp2_with fail
 rw[HM.out]
 refine(rdsum_any x.B _ q0 c0 _ rfl hsm (by intro n hn;exact HXO.out.B n hn) (I0.out.on B1.out).g.at_ (I0.out.on B1.out).g.le (I0.out.on B1.out).g.nil).mono ?_
 rintro e wy ⟨rfl,hby⟩
 rw[<-HM.out]
 have By:=Lib.hid (B1.out.trans (hby.mono B1.out.size))
 have Ky:=Lib.hid (K1.out.below hby K1.out.lt)
 have Ry:=Lib.hid (R1.out.below hby R1.out.lt)
 clear hby
 obtain⟨w4,sr1,hk,ht⟩:=(stF_D _ _ _ (Sha.sum x.B) HL.out (sum32 _)).run Ky.out
 have B2:=Lib.hid (show Below w.heap.size w w4 from By.out.trans (ht.below (B:=w.heap.size) (by have h1:=HG.out;have h2:=HR.out;simp;omega) By.out.size))
 have R2:=Lib.hid (show Blk w4 r (fcells fz none 0) 28 from(ht.block r Ry.out.lt (by have h1:=HG.out;simp;omega)).trans Ry.out)
 have K2:=Lib.hid (show Blk w4 g (fcells ⟨3,0,0,0,0,(Sha.sum x.B),x.B⟩ q0 c0) 28 from hk)
 clear hk ht HL
 have lf:=load_factB K2.out (sum32 _)
 have sf:=store_fact (q:=q0) (c:=c0) (x:=⟨3,0,0,0,0,(Sha.sum x.B),x.B⟩) R2.out zlen (sum32 _)
 go_wp2_with fail
 have hend:=ftold_end (q:=q0) (c:=c0) (x:=⟨3,0,0,0,0,(Sha.sum x.B),x.B⟩) B2.out (by have:=HR.out;omega) ⟨fact_ok0 (fit_small (by omega)) (fit_small (by omega)) (fit_small (by omega)) (fit_small (by omega)) (fit_small (by omega)) (sum32 _) (sum8 _) HXO.out.B,(I0.out.on B2.out).g.at_,(I0.out.on B2.out).g.le,(I0.out.on B2.out).g.max,(I0.out.on B2.out).g.nil⟩ (outOf_low I0.out.g.at_ (by have:=HR.out;omega)) R2.out
 refine bodyPost_ret (v:=.agg (fcells ⟨3,0,0,0,0,(Sha.sum x.B),x.B⟩ q0 c0).toArray) (results_cell_row rfl _ _ _ _ _ _ _ rfl hend.1 (Tryz.underlying28) rfl (fact_sizeA (x:=⟨3,0,0,0,0,(Sha.sum x.B),x.B⟩) (sum32 _) _ _)) rfl hend.2
theorem rof_4 (x:Fac)(hk:x.K=4)(p:Option Addr)(n c:Nat)(w:World)(hx:x.ok)(ht:Told w p n c (items x)):
 Calls Tryz.prog 49 #[.int .i64 x.K,.slice p n c] w (FTold (of x.K (items x)) w):=by
 rw[show items x= [iN x.S,iD x.D] by unfold items;simp[hk]]at ht ⊢
 rw[show of x.K [iN x.S,iD x.D] = ⟨x.K,x.S,0,0,0,x.D,[]⟩ by unfold of;simp[hk,iN,iB,iD]]
 have HXO:=Lib.hid hx
 obtain rfl:n=2:=ht.len
 have hle:=ht.le
 have hmx:=ht.max
 obtain⟨b,off,rfl,hit⟩:=items_at ht (by simp)
 obtain⟨q0,c0,h0⟩:=hit 0 (by simp)
 have I0:=Lib.hid (show ItmAt w b off (iN x.S) q0 c0 from by simpa using h0)
 obtain⟨q1,c1,h1⟩:=hit 1 (by simp)
 have I1:=Lib.hid (show ItmAt w b (off+34) (iD x.D) q1 c1 from h1)
 clear hit ht h0 h1
 rw[hk]
 have al:=fun w=>alloc_fact w
 have mk:∀w,(makeOp 28 #[(0,.int .i64 4)]).run Tryz.prog w= .ok (.value (.agg (fcells ⟨4,0,0,0,0,Fld.zero32,[]⟩ none 0).toArray)) w:=fun w=>run_makeOp w (kind_built 4)
 have st:=store_fact1 (w.alloc (.cells (fcells fz none 0).toArray 28)) (x:=⟨4,0,0,0,0,Fld.zero32,[]⟩) (q:=none) (c:=0) zlen
 have hb1:=(Below.refl w.heap.size w).alloc (Nat.le_refl _) (.cells (fcells fz none 0).toArray 28)
 have hz1:=World.size_alloc w (.cells (fcells fz none 0).toArray 28)
 have hr1:=Blk.new w (fcells fz none 0).toArray 28
 obtain⟨w1,hw1⟩:∃v,v=w.alloc (.cells (fcells fz none 0).toArray 28):=⟨_,rfl⟩
 rw[<-hw1]at hb1 hz1 hr1 st
 have hb2:=hb1.alloc (by omega) (.cells (fcells ⟨4,0,0,0,0,Fld.zero32,[]⟩ none 0).toArray 28)
 have hr2:=hr1.old (.cells (fcells ⟨4,0,0,0,0,Fld.zero32,[]⟩ none 0).toArray 28)
 have hg2:=Blk.new w1 (fcells ⟨4,0,0,0,0,Fld.zero32,[]⟩ none 0).toArray 28
 obtain⟨w2,hw2⟩:∃v,v=w1.alloc (.cells (fcells ⟨4,0,0,0,0,Fld.zero32,[]⟩ none 0).toArray 28):=⟨_,rfl⟩
 rw[<-hw2]at hb2 hr2 hg2 st
 have B0:=Lib.hid hb2
 have R0:=Lib.hid (show Blk w2 w.heap.size (fcells fz none 0) 28 from hr2)
 have K0:=Lib.hid (show Blk w2 w1.heap.size (fcells ⟨4,0,0,0,0,Fld.zero32,[]⟩ none 0) 28 from hg2)
 have al1:=al w
 have al2:=al w1
 rw[<-hw1]at al1
 obtain⟨r,hr⟩:∃r,r=w.heap.size:=⟨_,rfl⟩
 obtain⟨g,hg⟩:∃g,g=w1.heap.size:=⟨_,rfl⟩
 rw[<-hr]at R0 al1
 rw[<-hg]at K0 al2 st
 have HR:=Lib.hid hr
 have HG:=Lib.hid (show g=r+1 by omega)
 clear hb1 hz1 hr1 hb2 hr2 hg2 hw1 hw2 hr hg al
 have HL:=Lib.hid (show(⟨4,0,0,0,0,Fld.zero32,[]⟩:Fac).D.length=32 from zlen)
 have v0:w2.cell? ⟨b,off,none⟩=some (.int .i64 x.S):=(I0.out.on B0.out).n
 obtain⟨w3,sr0,hk,ht⟩:=(stF_S _ _ _ x.S HL.out).run K0.out
 have B1:=Lib.hid (show Below w.heap.size w w3 from B0.out.trans (ht.below (B:=w.heap.size) (by have h1:=HG.out;have h2:=HR.out;simp;omega) B0.out.size))
 have R1:=Lib.hid (show Blk w3 r (fcells fz none 0) 28 from(ht.block r R0.out.lt (by have h1:=HG.out;simp;omega)).trans R0.out)
 have K1:=Lib.hid (show Blk w3 g (fcells ⟨4,x.S,0,0,0,Fld.zero32,[]⟩ none 0) 28 from hk)
 clear hk ht HL
 have HL:=Lib.hid (show(⟨4,x.S,0,0,0,Fld.zero32,[]⟩:Fac).D.length=32 from zlen)
 have v1:(loadOp 25 (.pointer (some ⟨b,off+36,none⟩))).run Tryz.prog w3= .ok (.value (.agg (x.D.map v8).toArray)) w3:=(I1.out.on B1.out).d
 obtain⟨w4,sr1,hk,ht⟩:=(stF_D _ _ _ x.D HL.out HXO.out.len).run K1.out
 have B2:=Lib.hid (show Below w.heap.size w w4 from B1.out.trans (ht.below (B:=w.heap.size) (by have h1:=HG.out;have h2:=HR.out;simp;omega) B1.out.size))
 have R2:=Lib.hid (show Blk w4 r (fcells fz none 0) 28 from(ht.block r R1.out.lt (by have h1:=HG.out;simp;omega)).trans R1.out)
 have K2:=Lib.hid (show Blk w4 g (fcells ⟨4,x.S,0,0,0,x.D,[]⟩ none 0) 28 from hk)
 clear hk ht HL
 have lf:=load_factB K2.out HXO.out.len
 have sf:=store_fact (q:=none) (c:=0) (x:=⟨4,x.S,0,0,0,x.D,[]⟩) R2.out zlen HXO.out.len
 go_enter Tryz.func49,Tryz.ntmps49
 go_wp2_with fail
 have hend:=ftold_end (q:=none) (c:=0) (x:=⟨4,x.S,0,0,0,x.D,[]⟩) B2.out (by have:=HR.out;omega) ⟨fact_ok0 (fit_small (by omega)) HXO.out.S (fit_small (by omega)) (fit_small (by omega)) (fit_small (by omega)) HXO.out.len HXO.out.D (by simp),At.nil _ _,by simp[sF],by omega,fun _=>rfl⟩ (fun hne=>absurd rfl hne) R2.out
 refine bodyPost_ret (v:=.agg (fcells ⟨4,x.S,0,0,0,x.D,[]⟩ none 0).toArray) (results_cell_row rfl _ _ _ _ _ _ _ rfl hend.1 (Tryz.underlying28) rfl (fact_sizeA (x:=⟨4,x.S,0,0,0,x.D,[]⟩) HXO.out.len _ _)) rfl hend.2
theorem rof_5 (x:Fac)(hk:x.K=5)(p:Option Addr)(n c:Nat)(w:World)(hx:x.ok)(ht:Told w p n c (items x)):
 Calls Tryz.prog 49 #[.int .i64 x.K,.slice p n c] w (FTold (of x.K (items x)) w):=by
 rw[show items x= [iN x.H,iN x.S,iD x.D] by unfold items;simp[hk]]at ht ⊢
 rw[show of x.K [iN x.H,iN x.S,iD x.D] = ⟨x.K,x.S,x.H,0,0,x.D,[]⟩ by unfold of;simp[hk,iN,iB,iD]]
 have HXO:=Lib.hid hx
 obtain rfl:n=3:=ht.len
 have hle:=ht.le
 have hmx:=ht.max
 obtain⟨b,off,rfl,hit⟩:=items_at ht (by simp)
 obtain⟨q0,c0,h0⟩:=hit 0 (by simp)
 have I0:=Lib.hid (show ItmAt w b off (iN x.H) q0 c0 from by simpa using h0)
 obtain⟨q1,c1,h1⟩:=hit 1 (by simp)
 have I1:=Lib.hid (show ItmAt w b (off+34) (iN x.S) q1 c1 from h1)
 obtain⟨q2,c2,h2⟩:=hit 2 (by simp)
 have I2:=Lib.hid (show ItmAt w b (off+68) (iD x.D) q2 c2 from h2)
 clear hit ht h0 h1 h2
 rw[hk]
 have al:=fun w=>alloc_fact w
 have mk:∀w,(makeOp 28 #[(0,.int .i64 5)]).run Tryz.prog w= .ok (.value (.agg (fcells ⟨5,0,0,0,0,Fld.zero32,[]⟩ none 0).toArray)) w:=fun w=>run_makeOp w (kind_built 5)
 have st:=store_fact1 (w.alloc (.cells (fcells fz none 0).toArray 28)) (x:=⟨5,0,0,0,0,Fld.zero32,[]⟩) (q:=none) (c:=0) zlen
 have hb1:=(Below.refl w.heap.size w).alloc (Nat.le_refl _) (.cells (fcells fz none 0).toArray 28)
 have hz1:=World.size_alloc w (.cells (fcells fz none 0).toArray 28)
 have hr1:=Blk.new w (fcells fz none 0).toArray 28
 obtain⟨w1,hw1⟩:∃v,v=w.alloc (.cells (fcells fz none 0).toArray 28):=⟨_,rfl⟩
 rw[<-hw1]at hb1 hz1 hr1 st
 have hb2:=hb1.alloc (by omega) (.cells (fcells ⟨5,0,0,0,0,Fld.zero32,[]⟩ none 0).toArray 28)
 have hr2:=hr1.old (.cells (fcells ⟨5,0,0,0,0,Fld.zero32,[]⟩ none 0).toArray 28)
 have hg2:=Blk.new w1 (fcells ⟨5,0,0,0,0,Fld.zero32,[]⟩ none 0).toArray 28
 obtain⟨w2,hw2⟩:∃v,v=w1.alloc (.cells (fcells ⟨5,0,0,0,0,Fld.zero32,[]⟩ none 0).toArray 28):=⟨_,rfl⟩
 rw[<-hw2]at hb2 hr2 hg2 st
 have B0:=Lib.hid hb2
 have R0:=Lib.hid (show Blk w2 w.heap.size (fcells fz none 0) 28 from hr2)
 have K0:=Lib.hid (show Blk w2 w1.heap.size (fcells ⟨5,0,0,0,0,Fld.zero32,[]⟩ none 0) 28 from hg2)
 have al1:=al w
 have al2:=al w1
 rw[<-hw1]at al1
 obtain⟨r,hr⟩:∃r,r=w.heap.size:=⟨_,rfl⟩
 obtain⟨g,hg⟩:∃g,g=w1.heap.size:=⟨_,rfl⟩
 rw[<-hr]at R0 al1
 rw[<-hg]at K0 al2 st
 have HR:=Lib.hid hr
 have HG:=Lib.hid (show g=r+1 by omega)
 clear hb1 hz1 hr1 hb2 hr2 hg2 hw1 hw2 hr hg al
 have HL:=Lib.hid (show(⟨5,0,0,0,0,Fld.zero32,[]⟩:Fac).D.length=32 from zlen)
 have v0:w2.cell? ⟨b,off,none⟩=some (.int .i64 x.H):=(I0.out.on B0.out).n
 obtain⟨w3,sr0,hk,ht⟩:=(stF_H _ _ _ x.H HL.out).run K0.out
 have B1:=Lib.hid (show Below w.heap.size w w3 from B0.out.trans (ht.below (B:=w.heap.size) (by have h1:=HG.out;have h2:=HR.out;simp;omega) B0.out.size))
 have R1:=Lib.hid (show Blk w3 r (fcells fz none 0) 28 from(ht.block r R0.out.lt (by have h1:=HG.out;simp;omega)).trans R0.out)
 have K1:=Lib.hid (show Blk w3 g (fcells ⟨5,0,x.H,0,0,Fld.zero32,[]⟩ none 0) 28 from hk)
 clear hk ht HL
 have HL:=Lib.hid (show(⟨5,0,x.H,0,0,Fld.zero32,[]⟩:Fac).D.length=32 from zlen)
 have v1:w3.cell? ⟨b,off+34,none⟩=some (.int .i64 x.S):=(I1.out.on B1.out).n
 obtain⟨w4,sr1,hk,ht⟩:=(stF_S _ _ _ x.S HL.out).run K1.out
 have B2:=Lib.hid (show Below w.heap.size w w4 from B1.out.trans (ht.below (B:=w.heap.size) (by have h1:=HG.out;have h2:=HR.out;simp;omega) B1.out.size))
 have R2:=Lib.hid (show Blk w4 r (fcells fz none 0) 28 from(ht.block r R1.out.lt (by have h1:=HG.out;simp;omega)).trans R1.out)
 have K2:=Lib.hid (show Blk w4 g (fcells ⟨5,x.S,x.H,0,0,Fld.zero32,[]⟩ none 0) 28 from hk)
 clear hk ht HL
 have HL:=Lib.hid (show(⟨5,x.S,x.H,0,0,Fld.zero32,[]⟩:Fac).D.length=32 from zlen)
 have v2:(loadOp 25 (.pointer (some ⟨b,off+70,none⟩))).run Tryz.prog w4= .ok (.value (.agg (x.D.map v8).toArray)) w4:=(I2.out.on B2.out).d
 obtain⟨w5,sr2,hk,ht⟩:=(stF_D _ _ _ x.D HL.out HXO.out.len).run K2.out
 have B3:=Lib.hid (show Below w.heap.size w w5 from B2.out.trans (ht.below (B:=w.heap.size) (by have h1:=HG.out;have h2:=HR.out;simp;omega) B2.out.size))
 have R3:=Lib.hid (show Blk w5 r (fcells fz none 0) 28 from(ht.block r R2.out.lt (by have h1:=HG.out;simp;omega)).trans R2.out)
 have K3:=Lib.hid (show Blk w5 g (fcells ⟨5,x.S,x.H,0,0,x.D,[]⟩ none 0) 28 from hk)
 clear hk ht HL
 have lf:=load_factB K3.out HXO.out.len
 have sf:=store_fact (q:=none) (c:=0) (x:=⟨5,x.S,x.H,0,0,x.D,[]⟩) R3.out zlen HXO.out.len
 go_enter Tryz.func49,Tryz.ntmps49
 go_wp2_with fail
 have hend:=ftold_end (q:=none) (c:=0) (x:=⟨5,x.S,x.H,0,0,x.D,[]⟩) B3.out (by have:=HR.out;omega) ⟨fact_ok0 (fit_small (by omega)) HXO.out.S HXO.out.H (fit_small (by omega)) (fit_small (by omega)) HXO.out.len HXO.out.D (by simp),At.nil _ _,by simp[sF],by omega,fun _=>rfl⟩ (fun hne=>absurd rfl hne) R3.out
 refine bodyPost_ret (v:=.agg (fcells ⟨5,x.S,x.H,0,0,x.D,[]⟩ none 0).toArray) (results_cell_row rfl _ _ _ _ _ _ _ rfl hend.1 (Tryz.underlying28) rfl (fact_sizeA (x:=⟨5,x.S,x.H,0,0,x.D,[]⟩) HXO.out.len _ _)) rfl hend.2
theorem rof_6 (x:Fac)(hk:x.K=6)(p:Option Addr)(n c:Nat)(w:World)(hx:x.ok)(ht:Told w p n c (items x)):
 Calls Tryz.prog 49 #[.int .i64 x.K,.slice p n c] w (FTold (of x.K (items x)) w):=by
 rw[show items x= [iN x.H,iN x.S,iD x.D] by unfold items;simp[hk]]at ht ⊢
 rw[show of x.K [iN x.H,iN x.S,iD x.D] = ⟨x.K,x.S,x.H,0,0,x.D,[]⟩ by unfold of;simp[hk,iN,iB,iD]]
 have HXO:=Lib.hid hx
 obtain rfl:n=3:=ht.len
 have hle:=ht.le
 have hmx:=ht.max
 obtain⟨b,off,rfl,hit⟩:=items_at ht (by simp)
 obtain⟨q0,c0,h0⟩:=hit 0 (by simp)
 have I0:=Lib.hid (show ItmAt w b off (iN x.H) q0 c0 from by simpa using h0)
 obtain⟨q1,c1,h1⟩:=hit 1 (by simp)
 have I1:=Lib.hid (show ItmAt w b (off+34) (iN x.S) q1 c1 from h1)
 obtain⟨q2,c2,h2⟩:=hit 2 (by simp)
 have I2:=Lib.hid (show ItmAt w b (off+68) (iD x.D) q2 c2 from h2)
 clear hit ht h0 h1 h2
 rw[hk]
 have al:=fun w=>alloc_fact w
 have mk:∀w,(makeOp 28 #[(0,.int .i64 6)]).run Tryz.prog w= .ok (.value (.agg (fcells ⟨6,0,0,0,0,Fld.zero32,[]⟩ none 0).toArray)) w:=fun w=>run_makeOp w (kind_built 6)
 have st:=store_fact1 (w.alloc (.cells (fcells fz none 0).toArray 28)) (x:=⟨6,0,0,0,0,Fld.zero32,[]⟩) (q:=none) (c:=0) zlen
 have hb1:=(Below.refl w.heap.size w).alloc (Nat.le_refl _) (.cells (fcells fz none 0).toArray 28)
 have hz1:=World.size_alloc w (.cells (fcells fz none 0).toArray 28)
 have hr1:=Blk.new w (fcells fz none 0).toArray 28
 obtain⟨w1,hw1⟩:∃v,v=w.alloc (.cells (fcells fz none 0).toArray 28):=⟨_,rfl⟩
 rw[<-hw1]at hb1 hz1 hr1 st
 have hb2:=hb1.alloc (by omega) (.cells (fcells ⟨6,0,0,0,0,Fld.zero32,[]⟩ none 0).toArray 28)
 have hr2:=hr1.old (.cells (fcells ⟨6,0,0,0,0,Fld.zero32,[]⟩ none 0).toArray 28)
 have hg2:=Blk.new w1 (fcells ⟨6,0,0,0,0,Fld.zero32,[]⟩ none 0).toArray 28
 obtain⟨w2,hw2⟩:∃v,v=w1.alloc (.cells (fcells ⟨6,0,0,0,0,Fld.zero32,[]⟩ none 0).toArray 28):=⟨_,rfl⟩
 rw[<-hw2]at hb2 hr2 hg2 st
 have B0:=Lib.hid hb2
 have R0:=Lib.hid (show Blk w2 w.heap.size (fcells fz none 0) 28 from hr2)
 have K0:=Lib.hid (show Blk w2 w1.heap.size (fcells ⟨6,0,0,0,0,Fld.zero32,[]⟩ none 0) 28 from hg2)
 have al1:=al w
 have al2:=al w1
 rw[<-hw1]at al1
 obtain⟨r,hr⟩:∃r,r=w.heap.size:=⟨_,rfl⟩
 obtain⟨g,hg⟩:∃g,g=w1.heap.size:=⟨_,rfl⟩
 rw[<-hr]at R0 al1
 rw[<-hg]at K0 al2 st
 have HR:=Lib.hid hr
 have HG:=Lib.hid (show g=r+1 by omega)
 clear hb1 hz1 hr1 hb2 hr2 hg2 hw1 hw2 hr hg al
 have HL:=Lib.hid (show(⟨6,0,0,0,0,Fld.zero32,[]⟩:Fac).D.length=32 from zlen)
 have v0:w2.cell? ⟨b,off,none⟩=some (.int .i64 x.H):=(I0.out.on B0.out).n
 obtain⟨w3,sr0,hk,ht⟩:=(stF_H _ _ _ x.H HL.out).run K0.out
 have B1:=Lib.hid (show Below w.heap.size w w3 from B0.out.trans (ht.below (B:=w.heap.size) (by have h1:=HG.out;have h2:=HR.out;simp;omega) B0.out.size))
 have R1:=Lib.hid (show Blk w3 r (fcells fz none 0) 28 from(ht.block r R0.out.lt (by have h1:=HG.out;simp;omega)).trans R0.out)
 have K1:=Lib.hid (show Blk w3 g (fcells ⟨6,0,x.H,0,0,Fld.zero32,[]⟩ none 0) 28 from hk)
 clear hk ht HL
 have HL:=Lib.hid (show(⟨6,0,x.H,0,0,Fld.zero32,[]⟩:Fac).D.length=32 from zlen)
 have v1:w3.cell? ⟨b,off+34,none⟩=some (.int .i64 x.S):=(I1.out.on B1.out).n
 obtain⟨w4,sr1,hk,ht⟩:=(stF_S _ _ _ x.S HL.out).run K1.out
 have B2:=Lib.hid (show Below w.heap.size w w4 from B1.out.trans (ht.below (B:=w.heap.size) (by have h1:=HG.out;have h2:=HR.out;simp;omega) B1.out.size))
 have R2:=Lib.hid (show Blk w4 r (fcells fz none 0) 28 from(ht.block r R1.out.lt (by have h1:=HG.out;simp;omega)).trans R1.out)
 have K2:=Lib.hid (show Blk w4 g (fcells ⟨6,x.S,x.H,0,0,Fld.zero32,[]⟩ none 0) 28 from hk)
 clear hk ht HL
 have HL:=Lib.hid (show(⟨6,x.S,x.H,0,0,Fld.zero32,[]⟩:Fac).D.length=32 from zlen)
 have v2:(loadOp 25 (.pointer (some ⟨b,off+70,none⟩))).run Tryz.prog w4= .ok (.value (.agg (x.D.map v8).toArray)) w4:=(I2.out.on B2.out).d
 obtain⟨w5,sr2,hk,ht⟩:=(stF_D _ _ _ x.D HL.out HXO.out.len).run K2.out
 have B3:=Lib.hid (show Below w.heap.size w w5 from B2.out.trans (ht.below (B:=w.heap.size) (by have h1:=HG.out;have h2:=HR.out;simp;omega) B2.out.size))
 have R3:=Lib.hid (show Blk w5 r (fcells fz none 0) 28 from(ht.block r R2.out.lt (by have h1:=HG.out;simp;omega)).trans R2.out)
 have K3:=Lib.hid (show Blk w5 g (fcells ⟨6,x.S,x.H,0,0,x.D,[]⟩ none 0) 28 from hk)
 clear hk ht HL
 have lf:=load_factB K3.out HXO.out.len
 have sf:=store_fact (q:=none) (c:=0) (x:=⟨6,x.S,x.H,0,0,x.D,[]⟩) R3.out zlen HXO.out.len
 go_enter Tryz.func49,Tryz.ntmps49
 go_wp2_with fail
 have hend:=ftold_end (q:=none) (c:=0) (x:=⟨6,x.S,x.H,0,0,x.D,[]⟩) B3.out (by have:=HR.out;omega) ⟨fact_ok0 (fit_small (by omega)) HXO.out.S HXO.out.H (fit_small (by omega)) (fit_small (by omega)) HXO.out.len HXO.out.D (by simp),At.nil _ _,by simp[sF],by omega,fun _=>rfl⟩ (fun hne=>absurd rfl hne) R3.out
 refine bodyPost_ret (v:=.agg (fcells ⟨6,x.S,x.H,0,0,x.D,[]⟩ none 0).toArray) (results_cell_row rfl _ _ _ _ _ _ _ rfl hend.1 (Tryz.underlying28) rfl (fact_sizeA (x:=⟨6,x.S,x.H,0,0,x.D,[]⟩) HXO.out.len _ _)) rfl hend.2
theorem rof_7 (x:Fac)(hk:x.K=7)(p:Option Addr)(n c:Nat)(w:World)(hx:x.ok)(ht:Told w p n c (items x)):
 Calls Tryz.prog 49 #[.int .i64 x.K,.slice p n c] w (FTold (of x.K (items x)) w):=by
 rw[show items x= [iN x.S,iN x.N,iN x.O] by unfold items;simp[hk]]at ht ⊢
 rw[show of x.K [iN x.S,iN x.N,iN x.O] = ⟨x.K,x.S,0,x.N,x.O,Fld.zero32,[]⟩ by unfold of;simp[hk,iN,iB,iD]]
 have HXO:=Lib.hid hx
 obtain rfl:n=3:=ht.len
 have hle:=ht.le
 have hmx:=ht.max
 obtain⟨b,off,rfl,hit⟩:=items_at ht (by simp)
 obtain⟨q0,c0,h0⟩:=hit 0 (by simp)
 have I0:=Lib.hid (show ItmAt w b off (iN x.S) q0 c0 from by simpa using h0)
 obtain⟨q1,c1,h1⟩:=hit 1 (by simp)
 have I1:=Lib.hid (show ItmAt w b (off+34) (iN x.N) q1 c1 from h1)
 obtain⟨q2,c2,h2⟩:=hit 2 (by simp)
 have I2:=Lib.hid (show ItmAt w b (off+68) (iN x.O) q2 c2 from h2)
 clear hit ht h0 h1 h2
 rw[hk]
 have al:=fun w=>alloc_fact w
 have mk:∀w,(makeOp 28 #[(0,.int .i64 7)]).run Tryz.prog w= .ok (.value (.agg (fcells ⟨7,0,0,0,0,Fld.zero32,[]⟩ none 0).toArray)) w:=fun w=>run_makeOp w (kind_built 7)
 have st:=store_fact1 (w.alloc (.cells (fcells fz none 0).toArray 28)) (x:=⟨7,0,0,0,0,Fld.zero32,[]⟩) (q:=none) (c:=0) zlen
 have hb1:=(Below.refl w.heap.size w).alloc (Nat.le_refl _) (.cells (fcells fz none 0).toArray 28)
 have hz1:=World.size_alloc w (.cells (fcells fz none 0).toArray 28)
 have hr1:=Blk.new w (fcells fz none 0).toArray 28
 obtain⟨w1,hw1⟩:∃v,v=w.alloc (.cells (fcells fz none 0).toArray 28):=⟨_,rfl⟩
 rw[<-hw1]at hb1 hz1 hr1 st
 have hb2:=hb1.alloc (by omega) (.cells (fcells ⟨7,0,0,0,0,Fld.zero32,[]⟩ none 0).toArray 28)
 have hr2:=hr1.old (.cells (fcells ⟨7,0,0,0,0,Fld.zero32,[]⟩ none 0).toArray 28)
 have hg2:=Blk.new w1 (fcells ⟨7,0,0,0,0,Fld.zero32,[]⟩ none 0).toArray 28
 obtain⟨w2,hw2⟩:∃v,v=w1.alloc (.cells (fcells ⟨7,0,0,0,0,Fld.zero32,[]⟩ none 0).toArray 28):=⟨_,rfl⟩
 rw[<-hw2]at hb2 hr2 hg2 st
 have B0:=Lib.hid hb2
 have R0:=Lib.hid (show Blk w2 w.heap.size (fcells fz none 0) 28 from hr2)
 have K0:=Lib.hid (show Blk w2 w1.heap.size (fcells ⟨7,0,0,0,0,Fld.zero32,[]⟩ none 0) 28 from hg2)
 have al1:=al w
 have al2:=al w1
 rw[<-hw1]at al1
 obtain⟨r,hr⟩:∃r,r=w.heap.size:=⟨_,rfl⟩
 obtain⟨g,hg⟩:∃g,g=w1.heap.size:=⟨_,rfl⟩
 rw[<-hr]at R0 al1
 rw[<-hg]at K0 al2 st
 have HR:=Lib.hid hr
 have HG:=Lib.hid (show g=r+1 by omega)
 clear hb1 hz1 hr1 hb2 hr2 hg2 hw1 hw2 hr hg al
 have HL:=Lib.hid (show(⟨7,0,0,0,0,Fld.zero32,[]⟩:Fac).D.length=32 from zlen)
 have v0:w2.cell? ⟨b,off,none⟩=some (.int .i64 x.S):=(I0.out.on B0.out).n
 obtain⟨w3,sr0,hk,ht⟩:=(stF_S _ _ _ x.S HL.out).run K0.out
 have B1:=Lib.hid (show Below w.heap.size w w3 from B0.out.trans (ht.below (B:=w.heap.size) (by have h1:=HG.out;have h2:=HR.out;simp;omega) B0.out.size))
 have R1:=Lib.hid (show Blk w3 r (fcells fz none 0) 28 from(ht.block r R0.out.lt (by have h1:=HG.out;simp;omega)).trans R0.out)
 have K1:=Lib.hid (show Blk w3 g (fcells ⟨7,x.S,0,0,0,Fld.zero32,[]⟩ none 0) 28 from hk)
 clear hk ht HL
 go_enter Tryz.func49,Tryz.ntmps49
 go_wp2_with fail
 have Bx:=Lib.hid (show Below w.heap.size w w3.drew from B1.out.drew)
 have Kx:=Lib.hid (show Blk w3.drew g (fcells ⟨7,x.S,0,0,0,Fld.zero32,[]⟩ none 0) 28 from K1.out.drew)
 have Rx:=Lib.hid (show Blk w3.drew r (fcells fz none 0) 28 from R1.out.drew)
 refine region_tail 10 (by kernel_rfl) (by kernel_rfl) ?_
 simp only[List.take_succ_cons,List.take_zero,List.drop_succ_cons,List.drop_zero]
 generalize w3.drew=wx at *
 have HL:=Lib.hid (show(⟨7,x.S,0,0,0,Fld.zero32,[]⟩:Fac).D.length=32 from zlen)
 have v1_1:wx.cell? ⟨b,off+34,none⟩=some (.int .i64 x.N):=(I1.out.on Bx.out).n
 have v1_2:wx.cell? ⟨b,off+68,none⟩=some (.int .i64 x.O):=(I2.out.on Bx.out).n
 have mb:(makeOp 23 #[(0,.int .i64 x.N),(1,.int .i64 x.O)]).run Tryz.prog wx= .ok (.value (.agg #[.int .i64 x.N,.int .i64 x.O])) wx:=run_makeOp wx (bal_built x.N x.O)
 repeat(go_big_quiet_step (fail))
 refine wpQuiet_nil ?_
 obtain⟨w4,sr1,hk,ht⟩:=(stF_L _ _ _ x.N x.O HL.out).run Kx.out
 have B2:=Lib.hid (show Below w.heap.size w w4 from Bx.out.trans (ht.below (B:=w.heap.size) (by have h1:=HG.out;have h2:=HR.out;simp;omega) Bx.out.size))
 have R2:=Lib.hid (show Blk w4 r (fcells fz none 0) 28 from(ht.block r Rx.out.lt (by have h1:=HG.out;simp;omega)).trans Rx.out)
 have K2:=Lib.hid (show Blk w4 g (fcells ⟨7,x.S,0,x.N,x.O,Fld.zero32,[]⟩ none 0) 28 from hk)
 clear hk ht HL
 have lf:=load_factB K2.out zlen
 have sf:=store_fact (q:=none) (c:=0) (x:=⟨7,x.S,0,x.N,x.O,Fld.zero32,[]⟩) R2.out zlen zlen
 go_wp2_with fail
 have hend:=ftold_end (q:=none) (c:=0) (x:=⟨7,x.S,0,x.N,x.O,Fld.zero32,[]⟩) B2.out (by have:=HR.out;omega) ⟨fact_ok0 (fit_small (by omega)) HXO.out.S (fit_small (by omega)) HXO.out.N HXO.out.O zlen z32_ok.1 (by simp),At.nil _ _,by simp[sF],by omega,fun _=>rfl⟩ (fun hne=>absurd rfl hne) R2.out
 refine bodyPost_ret (v:=.agg (fcells ⟨7,x.S,0,x.N,x.O,Fld.zero32,[]⟩ none 0).toArray) (results_cell_row rfl _ _ _ _ _ _ _ rfl hend.1 (Tryz.underlying28) rfl (fact_sizeA (x:=⟨7,x.S,0,x.N,x.O,Fld.zero32,[]⟩) zlen _ _)) rfl hend.2
theorem rof_8 (x:Fac)(hk:x.K=8)(p:Option Addr)(n c:Nat)(w:World)(hx:x.ok)(ht:Told w p n c (items x)):
 Calls Tryz.prog 49 #[.int .i64 x.K,.slice p n c] w (FTold (of x.K (items x)) w):=by
 rw[show items x= [iN x.S,iN x.N,iN x.O,iB x.B] by unfold items;simp[hk]]at ht ⊢
 rw[show of x.K [iN x.S,iN x.N,iN x.O,iB x.B] = ⟨x.K,x.S,0,x.N,x.O,Fld.zero32,x.B⟩ by unfold of;simp[hk,iN,iB,iD]]
 have HXO:=Lib.hid hx
 obtain rfl:n=4:=ht.len
 have hle:=ht.le
 have hmx:=ht.max
 obtain⟨b,off,rfl,hit⟩:=items_at ht (by simp)
 obtain⟨q0,c0,h0⟩:=hit 0 (by simp)
 have I0:=Lib.hid (show ItmAt w b off (iN x.S) q0 c0 from by simpa using h0)
 obtain⟨q1,c1,h1⟩:=hit 1 (by simp)
 have I1:=Lib.hid (show ItmAt w b (off+34) (iN x.N) q1 c1 from h1)
 obtain⟨q2,c2,h2⟩:=hit 2 (by simp)
 have I2:=Lib.hid (show ItmAt w b (off+68) (iN x.O) q2 c2 from h2)
 obtain⟨q3,c3,h3⟩:=hit 3 (by simp)
 have I3:=Lib.hid (show ItmAt w b (off+102) (iB x.B) q3 c3 from h3)
 clear hit ht h0 h1 h2 h3
 rw[hk]
 have al:=fun w=>alloc_fact w
 have mk:∀w,(makeOp 28 #[(0,.int .i64 8)]).run Tryz.prog w= .ok (.value (.agg (fcells ⟨8,0,0,0,0,Fld.zero32,[]⟩ none 0).toArray)) w:=fun w=>run_makeOp w (kind_built 8)
 have st:=store_fact1 (w.alloc (.cells (fcells fz none 0).toArray 28)) (x:=⟨8,0,0,0,0,Fld.zero32,[]⟩) (q:=none) (c:=0) zlen
 have hb1:=(Below.refl w.heap.size w).alloc (Nat.le_refl _) (.cells (fcells fz none 0).toArray 28)
 have hz1:=World.size_alloc w (.cells (fcells fz none 0).toArray 28)
 have hr1:=Blk.new w (fcells fz none 0).toArray 28
 obtain⟨w1,hw1⟩:∃v,v=w.alloc (.cells (fcells fz none 0).toArray 28):=⟨_,rfl⟩
 rw[<-hw1]at hb1 hz1 hr1 st
 have hb2:=hb1.alloc (by omega) (.cells (fcells ⟨8,0,0,0,0,Fld.zero32,[]⟩ none 0).toArray 28)
 have hr2:=hr1.old (.cells (fcells ⟨8,0,0,0,0,Fld.zero32,[]⟩ none 0).toArray 28)
 have hg2:=Blk.new w1 (fcells ⟨8,0,0,0,0,Fld.zero32,[]⟩ none 0).toArray 28
 obtain⟨w2,hw2⟩:∃v,v=w1.alloc (.cells (fcells ⟨8,0,0,0,0,Fld.zero32,[]⟩ none 0).toArray 28):=⟨_,rfl⟩
 rw[<-hw2]at hb2 hr2 hg2 st
 have B0:=Lib.hid hb2
 have R0:=Lib.hid (show Blk w2 w.heap.size (fcells fz none 0) 28 from hr2)
 have K0:=Lib.hid (show Blk w2 w1.heap.size (fcells ⟨8,0,0,0,0,Fld.zero32,[]⟩ none 0) 28 from hg2)
 have al1:=al w
 have al2:=al w1
 rw[<-hw1]at al1
 obtain⟨r,hr⟩:∃r,r=w.heap.size:=⟨_,rfl⟩
 obtain⟨g,hg⟩:∃g,g=w1.heap.size:=⟨_,rfl⟩
 rw[<-hr]at R0 al1
 rw[<-hg]at K0 al2 st
 have HR:=Lib.hid hr
 have HG:=Lib.hid (show g=r+1 by omega)
 clear hb1 hz1 hr1 hb2 hr2 hg2 hw1 hw2 hr hg al
 obtain⟨m,hm⟩:∃m,m=x.B.length:=⟨_,rfl⟩
 have HM:=Lib.hid hm
 clear hm
 have HL:=Lib.hid (show(⟨8,0,0,0,0,Fld.zero32,[]⟩:Fac).D.length=32 from zlen)
 have v0:w2.cell? ⟨b,off,none⟩=some (.int .i64 x.S):=(I0.out.on B0.out).n
 obtain⟨w3,sr0,hk,ht⟩:=(stF_S _ _ _ x.S HL.out).run K0.out
 have B1:=Lib.hid (show Below w.heap.size w w3 from B0.out.trans (ht.below (B:=w.heap.size) (by have h1:=HG.out;have h2:=HR.out;simp;omega) B0.out.size))
 have R1:=Lib.hid (show Blk w3 r (fcells fz none 0) 28 from(ht.block r R0.out.lt (by have h1:=HG.out;simp;omega)).trans R0.out)
 have K1:=Lib.hid (show Blk w3 g (fcells ⟨8,x.S,0,0,0,Fld.zero32,[]⟩ none 0) 28 from hk)
 clear hk ht HL
 go_enter Tryz.func49,Tryz.ntmps49
 go_wp2_with fail
 have Bx:=Lib.hid (show Below w.heap.size w w3.drew from B1.out.drew)
 have Kx:=Lib.hid (show Blk w3.drew g (fcells ⟨8,x.S,0,0,0,Fld.zero32,[]⟩ none 0) 28 from K1.out.drew)
 have Rx:=Lib.hid (show Blk w3.drew r (fcells fz none 0) 28 from R1.out.drew)
 refine region_tail 10 (by kernel_rfl) (by kernel_rfl) ?_
 simp only[List.take_succ_cons,List.take_zero,List.drop_succ_cons,List.drop_zero]
 generalize w3.drew=wx at *
 have HL:=Lib.hid (show(⟨8,x.S,0,0,0,Fld.zero32,[]⟩:Fac).D.length=32 from zlen)
 have v1_1:wx.cell? ⟨b,off+34,none⟩=some (.int .i64 x.N):=(I1.out.on Bx.out).n
 have v1_2:wx.cell? ⟨b,off+68,none⟩=some (.int .i64 x.O):=(I2.out.on Bx.out).n
 have mb:(makeOp 23 #[(0,.int .i64 x.N),(1,.int .i64 x.O)]).run Tryz.prog wx= .ok (.value (.agg #[.int .i64 x.N,.int .i64 x.O])) wx:=run_makeOp wx (bal_built x.N x.O)
 repeat(go_big_quiet_step (fail))
 refine wpQuiet_nil ?_
 obtain⟨w4,sr1,hk,ht⟩:=(stF_L _ _ _ x.N x.O HL.out).run Kx.out
 have B2:=Lib.hid (show Below w.heap.size w w4 from Bx.out.trans (ht.below (B:=w.heap.size) (by have h1:=HG.out;have h2:=HR.out;simp;omega) Bx.out.size))
 have R2:=Lib.hid (show Blk w4 r (fcells fz none 0) 28 from(ht.block r Rx.out.lt (by have h1:=HG.out;simp;omega)).trans Rx.out)
 have K2:=Lib.hid (show Blk w4 g (fcells ⟨8,x.S,0,x.N,x.O,Fld.zero32,[]⟩ none 0) 28 from hk)
 clear hk ht HL
 have HL:=Lib.hid (show(⟨8,x.S,0,x.N,x.O,Fld.zero32,[]⟩:Fac).D.length=32 from zlen)
 have v2:w4.cell? ⟨b,off+103,none⟩=some (.slice q3 m c3):=by rw[HM.out];exact(I3.out.on B2.out).b
 obtain⟨w5,sr2,hk,ht⟩:=(stF_B _ _ _ x.B m HM.out q3 c3 HL.out).run K2.out
 have B3:=Lib.hid (show Below w.heap.size w w5 from B2.out.trans (ht.below (B:=w.heap.size) (by have h1:=HG.out;have h2:=HR.out;simp;omega) B2.out.size))
 have R3:=Lib.hid (show Blk w5 r (fcells fz none 0) 28 from(ht.block r R2.out.lt (by have h1:=HG.out;simp;omega)).trans R2.out)
 have K3:=Lib.hid (show Blk w5 g (fcells ⟨8,x.S,0,x.N,x.O,Fld.zero32,x.B⟩ q3 c3) 28 from hk)
 clear hk ht HL
 have lf:=load_factB K3.out zlen
 have sf:=store_fact (q:=q3) (c:=c3) (x:=⟨8,x.S,0,x.N,x.O,Fld.zero32,x.B⟩) R3.out zlen zlen
 go_wp2_with fail
 have hend:=ftold_end (q:=q3) (c:=c3) (x:=⟨8,x.S,0,x.N,x.O,Fld.zero32,x.B⟩) B3.out (by have:=HR.out;omega) ⟨fact_ok0 (fit_small (by omega)) HXO.out.S (fit_small (by omega)) HXO.out.N HXO.out.O zlen z32_ok.1 HXO.out.B,(I3.out.on B3.out).g.at_,(I3.out.on B3.out).g.le,(I3.out.on B3.out).g.max,(I3.out.on B3.out).g.nil⟩ (outOf_low I3.out.g.at_ (by have:=HR.out;omega)) R3.out
 refine bodyPost_ret (v:=.agg (fcells ⟨8,x.S,0,x.N,x.O,Fld.zero32,x.B⟩ q3 c3).toArray) (results_cell_row rfl _ _ _ _ _ _ _ rfl hend.1 (Tryz.underlying28) rfl (fact_sizeA (x:=⟨8,x.S,0,x.N,x.O,Fld.zero32,x.B⟩) zlen _ _)) rfl hend.2
theorem rof_9 (x:Fac)(hk:x.K=9)(p:Option Addr)(n c:Nat)(w:World)(hx:x.ok)(ht:Told w p n c (items x)):
 Calls Tryz.prog 49 #[.int .i64 x.K,.slice p n c] w (FTold (of x.K (items x)) w):=by
 rw[show items x= [iN x.S,iB x.B] by unfold items;simp[hk]]at ht ⊢
 rw[show of x.K [iN x.S,iB x.B] = ⟨x.K,x.S,0,0,0,Fld.zero32,x.B⟩ by unfold of;simp[hk,iN,iB,iD]]
 have HXO:=Lib.hid hx
 obtain rfl:n=2:=ht.len
 have hle:=ht.le
 have hmx:=ht.max
 obtain⟨b,off,rfl,hit⟩:=items_at ht (by simp)
 obtain⟨q0,c0,h0⟩:=hit 0 (by simp)
 have I0:=Lib.hid (show ItmAt w b off (iN x.S) q0 c0 from by simpa using h0)
 obtain⟨q1,c1,h1⟩:=hit 1 (by simp)
 have I1:=Lib.hid (show ItmAt w b (off+34) (iB x.B) q1 c1 from h1)
 clear hit ht h0 h1
 rw[hk]
 have al:=fun w=>alloc_fact w
 have mk:∀w,(makeOp 28 #[(0,.int .i64 9)]).run Tryz.prog w= .ok (.value (.agg (fcells ⟨9,0,0,0,0,Fld.zero32,[]⟩ none 0).toArray)) w:=fun w=>run_makeOp w (kind_built 9)
 have st:=store_fact1 (w.alloc (.cells (fcells fz none 0).toArray 28)) (x:=⟨9,0,0,0,0,Fld.zero32,[]⟩) (q:=none) (c:=0) zlen
 have hb1:=(Below.refl w.heap.size w).alloc (Nat.le_refl _) (.cells (fcells fz none 0).toArray 28)
 have hz1:=World.size_alloc w (.cells (fcells fz none 0).toArray 28)
 have hr1:=Blk.new w (fcells fz none 0).toArray 28
 obtain⟨w1,hw1⟩:∃v,v=w.alloc (.cells (fcells fz none 0).toArray 28):=⟨_,rfl⟩
 rw[<-hw1]at hb1 hz1 hr1 st
 have hb2:=hb1.alloc (by omega) (.cells (fcells ⟨9,0,0,0,0,Fld.zero32,[]⟩ none 0).toArray 28)
 have hr2:=hr1.old (.cells (fcells ⟨9,0,0,0,0,Fld.zero32,[]⟩ none 0).toArray 28)
 have hg2:=Blk.new w1 (fcells ⟨9,0,0,0,0,Fld.zero32,[]⟩ none 0).toArray 28
 obtain⟨w2,hw2⟩:∃v,v=w1.alloc (.cells (fcells ⟨9,0,0,0,0,Fld.zero32,[]⟩ none 0).toArray 28):=⟨_,rfl⟩
 rw[<-hw2]at hb2 hr2 hg2 st
 have B0:=Lib.hid hb2
 have R0:=Lib.hid (show Blk w2 w.heap.size (fcells fz none 0) 28 from hr2)
 have K0:=Lib.hid (show Blk w2 w1.heap.size (fcells ⟨9,0,0,0,0,Fld.zero32,[]⟩ none 0) 28 from hg2)
 have al1:=al w
 have al2:=al w1
 rw[<-hw1]at al1
 obtain⟨r,hr⟩:∃r,r=w.heap.size:=⟨_,rfl⟩
 obtain⟨g,hg⟩:∃g,g=w1.heap.size:=⟨_,rfl⟩
 rw[<-hr]at R0 al1
 rw[<-hg]at K0 al2 st
 have HR:=Lib.hid hr
 have HG:=Lib.hid (show g=r+1 by omega)
 clear hb1 hz1 hr1 hb2 hr2 hg2 hw1 hw2 hr hg al
 obtain⟨m,hm⟩:∃m,m=x.B.length:=⟨_,rfl⟩
 have HM:=Lib.hid hm
 clear hm
 have HL:=Lib.hid (show(⟨9,0,0,0,0,Fld.zero32,[]⟩:Fac).D.length=32 from zlen)
 have v0:w2.cell? ⟨b,off,none⟩=some (.int .i64 x.S):=(I0.out.on B0.out).n
 obtain⟨w3,sr0,hk,ht⟩:=(stF_S _ _ _ x.S HL.out).run K0.out
 have B1:=Lib.hid (show Below w.heap.size w w3 from B0.out.trans (ht.below (B:=w.heap.size) (by have h1:=HG.out;have h2:=HR.out;simp;omega) B0.out.size))
 have R1:=Lib.hid (show Blk w3 r (fcells fz none 0) 28 from(ht.block r R0.out.lt (by have h1:=HG.out;simp;omega)).trans R0.out)
 have K1:=Lib.hid (show Blk w3 g (fcells ⟨9,x.S,0,0,0,Fld.zero32,[]⟩ none 0) 28 from hk)
 clear hk ht HL
 have HL:=Lib.hid (show(⟨9,x.S,0,0,0,Fld.zero32,[]⟩:Fac).D.length=32 from zlen)
 have v1:w3.cell? ⟨b,off+35,none⟩=some (.slice q1 m c1):=by rw[HM.out];exact(I1.out.on B1.out).b
 obtain⟨w4,sr1,hk,ht⟩:=(stF_B _ _ _ x.B m HM.out q1 c1 HL.out).run K1.out
 have B2:=Lib.hid (show Below w.heap.size w w4 from B1.out.trans (ht.below (B:=w.heap.size) (by have h1:=HG.out;have h2:=HR.out;simp;omega) B1.out.size))
 have R2:=Lib.hid (show Blk w4 r (fcells fz none 0) 28 from(ht.block r R1.out.lt (by have h1:=HG.out;simp;omega)).trans R1.out)
 have K2:=Lib.hid (show Blk w4 g (fcells ⟨9,x.S,0,0,0,Fld.zero32,x.B⟩ q1 c1) 28 from hk)
 clear hk ht HL
 have lf:=load_factB K2.out zlen
 have sf:=store_fact (q:=q1) (c:=c1) (x:=⟨9,x.S,0,0,0,Fld.zero32,x.B⟩) R2.out zlen zlen
 go_enter Tryz.func49,Tryz.ntmps49
 go_wp2_with fail
 have hend:=ftold_end (q:=q1) (c:=c1) (x:=⟨9,x.S,0,0,0,Fld.zero32,x.B⟩) B2.out (by have:=HR.out;omega) ⟨fact_ok0 (fit_small (by omega)) HXO.out.S (fit_small (by omega)) (fit_small (by omega)) (fit_small (by omega)) zlen z32_ok.1 HXO.out.B,(I1.out.on B2.out).g.at_,(I1.out.on B2.out).g.le,(I1.out.on B2.out).g.max,(I1.out.on B2.out).g.nil⟩ (outOf_low I1.out.g.at_ (by have:=HR.out;omega)) R2.out
 refine bodyPost_ret (v:=.agg (fcells ⟨9,x.S,0,0,0,Fld.zero32,x.B⟩ q1 c1).toArray) (results_cell_row rfl _ _ _ _ _ _ _ rfl hend.1 (Tryz.underlying28) rfl (fact_sizeA (x:=⟨9,x.S,0,0,0,Fld.zero32,x.B⟩) zlen _ _)) rfl hend.2
theorem rof_10 (x:Fac)(hk:x.K=10)(p:Option Addr)(n c:Nat)(w:World)(hx:x.ok)(ht:Told w p n c (items x)):
 Calls Tryz.prog 49 #[.int .i64 x.K,.slice p n c] w (FTold (of x.K (items x)) w):=by
 rw[show items x= [iN x.S] by unfold items;simp[hk]]at ht ⊢
 rw[show of x.K [iN x.S] = ⟨x.K,x.S,0,0,0,Fld.zero32,[]⟩ by unfold of;simp[hk,iN,iB,iD]]
 have HXO:=Lib.hid hx
 obtain rfl:n=1:=ht.len
 have hle:=ht.le
 have hmx:=ht.max
 obtain⟨b,off,rfl,hit⟩:=items_at ht (by simp)
 obtain⟨q0,c0,h0⟩:=hit 0 (by simp)
 have I0:=Lib.hid (show ItmAt w b off (iN x.S) q0 c0 from by simpa using h0)
 clear hit ht h0
 rw[hk]
 have al:=fun w=>alloc_fact w
 have mk:∀w,(makeOp 28 #[(0,.int .i64 10)]).run Tryz.prog w= .ok (.value (.agg (fcells ⟨10,0,0,0,0,Fld.zero32,[]⟩ none 0).toArray)) w:=fun w=>run_makeOp w (kind_built 10)
 have st:=store_fact1 (w.alloc (.cells (fcells fz none 0).toArray 28)) (x:=⟨10,0,0,0,0,Fld.zero32,[]⟩) (q:=none) (c:=0) zlen
 have hb1:=(Below.refl w.heap.size w).alloc (Nat.le_refl _) (.cells (fcells fz none 0).toArray 28)
 have hz1:=World.size_alloc w (.cells (fcells fz none 0).toArray 28)
 have hr1:=Blk.new w (fcells fz none 0).toArray 28
 obtain⟨w1,hw1⟩:∃v,v=w.alloc (.cells (fcells fz none 0).toArray 28):=⟨_,rfl⟩
 rw[<-hw1]at hb1 hz1 hr1 st
 have hb2:=hb1.alloc (by omega) (.cells (fcells ⟨10,0,0,0,0,Fld.zero32,[]⟩ none 0).toArray 28)
 have hr2:=hr1.old (.cells (fcells ⟨10,0,0,0,0,Fld.zero32,[]⟩ none 0).toArray 28)
 have hg2:=Blk.new w1 (fcells ⟨10,0,0,0,0,Fld.zero32,[]⟩ none 0).toArray 28
 obtain⟨w2,hw2⟩:∃v,v=w1.alloc (.cells (fcells ⟨10,0,0,0,0,Fld.zero32,[]⟩ none 0).toArray 28):=⟨_,rfl⟩
 rw[<-hw2]at hb2 hr2 hg2 st
 have B0:=Lib.hid hb2
 have R0:=Lib.hid (show Blk w2 w.heap.size (fcells fz none 0) 28 from hr2)
 have K0:=Lib.hid (show Blk w2 w1.heap.size (fcells ⟨10,0,0,0,0,Fld.zero32,[]⟩ none 0) 28 from hg2)
 have al1:=al w
 have al2:=al w1
 rw[<-hw1]at al1
 obtain⟨r,hr⟩:∃r,r=w.heap.size:=⟨_,rfl⟩
 obtain⟨g,hg⟩:∃g,g=w1.heap.size:=⟨_,rfl⟩
 rw[<-hr]at R0 al1
 rw[<-hg]at K0 al2 st
 have HR:=Lib.hid hr
 have HG:=Lib.hid (show g=r+1 by omega)
 clear hb1 hz1 hr1 hb2 hr2 hg2 hw1 hw2 hr hg al
 have HL:=Lib.hid (show(⟨10,0,0,0,0,Fld.zero32,[]⟩:Fac).D.length=32 from zlen)
 have v0:w2.cell? ⟨b,off,none⟩=some (.int .i64 x.S):=(I0.out.on B0.out).n
 obtain⟨w3,sr0,hk,ht⟩:=(stF_S _ _ _ x.S HL.out).run K0.out
 have B1:=Lib.hid (show Below w.heap.size w w3 from B0.out.trans (ht.below (B:=w.heap.size) (by have h1:=HG.out;have h2:=HR.out;simp;omega) B0.out.size))
 have R1:=Lib.hid (show Blk w3 r (fcells fz none 0) 28 from(ht.block r R0.out.lt (by have h1:=HG.out;simp;omega)).trans R0.out)
 have K1:=Lib.hid (show Blk w3 g (fcells ⟨10,x.S,0,0,0,Fld.zero32,[]⟩ none 0) 28 from hk)
 clear hk ht HL
 have lf:=load_factB K1.out zlen
 have sf:=store_fact (q:=none) (c:=0) (x:=⟨10,x.S,0,0,0,Fld.zero32,[]⟩) R1.out zlen zlen
 go_enter Tryz.func49,Tryz.ntmps49
 go_wp2_with fail
 have hend:=ftold_end (q:=none) (c:=0) (x:=⟨10,x.S,0,0,0,Fld.zero32,[]⟩) B1.out (by have:=HR.out;omega) ⟨fact_ok0 (fit_small (by omega)) HXO.out.S (fit_small (by omega)) (fit_small (by omega)) (fit_small (by omega)) zlen z32_ok.1 (by simp),At.nil _ _,by simp[sF],by omega,fun _=>rfl⟩ (fun hne=>absurd rfl hne) R1.out
 refine bodyPost_ret (v:=.agg (fcells ⟨10,x.S,0,0,0,Fld.zero32,[]⟩ none 0).toArray) (results_cell_row rfl _ _ _ _ _ _ _ rfl hend.1 (Tryz.underlying28) rfl (fact_sizeA (x:=⟨10,x.S,0,0,0,Fld.zero32,[]⟩) zlen _ _)) rfl hend.2
theorem rof_any (x:Fac)(hk:1<=x.K/\x.K < 11)(p:Option Addr)(n c:Nat)(w:World)(hx:x.ok)(ht:Told w p n c (items x))(hsm:x.B.length<=100000):
 Calls Tryz.prog 49 #[.int .i64 x.K,.slice p n c] w (FTold (of x.K (items x)) w):=by
 rcases kinds hk with e | e | e | e | e | e | e | e | e | e
 ·exact rof_1 x e p n c w hx ht
 ·exact rof_2 x e p n c w hx ht
 ·exact rof_3 x e p n c w hx ht hsm
 ·exact rof_4 x e p n c w hx ht
 ·exact rof_5 x e p n c w hx ht
 ·exact rof_6 x e p n c w hx ht
 ·exact rof_7 x e p n c w hx ht
 ·exact rof_8 x e p n c w hx ht
 ·exact rof_9 x e p n c w hx ht
 ·exact rof_10 x e p n c w hx ht
end
end Go.Proofs.YtokpabkcaofahaaGreat
