/-
  What stands under factPuts_holds: part 9.
-/
import Derived.Test.YtokpabkcaofahaaGreatPp8
import Derived.Test.YtokpabkcaofahaaGreatPp1
import Derived.Test.YtokpabkcaofahaaGreatPp2
import Derived.Test.YtokpabkcaofahaaGreatPp5
import Derived.Deep.AppendLies
import Derived.Deep.RegionHeld3
import Derived.Deep.RegionLaw
namespace Go.Proofs.YtokpabkcaofahaaGreat
set_option linter.unusedSimpArgs false
set_option linter.unusedVariables false
set_option maxRecDepth 100000
set_option maxHeartbeats 20000000
section
open Go.RowKit Sha Fct
open Fld (Itm)
theorem at_cells (w:World)(cs:List Value)(t:TypeId)(fr:Nat×Nat):At (w.alloc (.cells cs.toArray t fr)) (some ⟨w.heap.size,0,none⟩) cs:=by
 refine Or.inr ⟨_,0,rfl,fun i v hi=>?_⟩
 rw[Nat.zero_add,cell_of_row _ _ i _ t fr (heap_alloc_new w _)]
 simpa using hi
theorem build_at9 (w:World)(ys:List Hdr)(n:Nat)(parts:Array (Nat×Value))(hp:parts=((ys.map cellsI).zipIdx.map fun c=>(c.2,Value.agg c.1.toArray)).toArray)(hn:n=ys.length)(hg:∀y∈ys,y.1.ok)(h0:n<=1000):
 ∃w' g,(buildOp 81 n parts).run Tryz.prog w= .ok (.value (.slice (some ⟨g,0,none⟩) n n)) w'/\At w' (some ⟨g,0,none⟩) (ys.flatMap cellsI)/\Below w.heap.size w w':=by
 subst hp hn
 have h:=run_build_items (P:=Tryz.prog) w 81 83 34 _ (by omega) Tryz.underlying81 item_all (ys.map cellsI) (by
  intro c hc;obtain⟨y,hy,rfl⟩:=List.mem_map.1 hc;exact icells_length (hg y hy) _ _) (by simp;omega)
 rw[List.length_map]at h
 refine⟨_,_,run_buildOp h,?_,(Below.refl _ _).alloc (Nat.le_refl _) _⟩
 rw[<-List.flatMap_def]
 exact at_cells w _ _ _
def iNh (n:Int):Hdr:=(iN n,none,0)
def iDh (D:List Int):Hdr:=(iD D,none,0)
def itemsH (x:Fac)(q:Option Addr)(c:Nat):List Hdr:=
 if x.K=2 then [iNh x.S]else if x.K=3 then [(iB x.B,q,c)]else if x.K=4 then [iNh x.S,iDh x.D]else if x.K=5 then [iNh x.H,iNh x.S,iDh x.D]else if x.K=6 then [iNh x.H,iNh x.S,iDh x.D]else
 if x.K=7 then [iNh x.S,iNh x.N,iNh x.O]else if x.K=8 then [iNh x.S,iNh x.N,iNh x.O,(iB x.B,q,c)]else if x.K=9 then [iNh x.S,(iB x.B,q,c)]else if x.K=10 then [iNh x.S]else []
theorem itemsH_map (x:Fac)(q:Option Addr)(c:Nat):(itemsH x q c).map (·.1)=items x:=by
 unfold itemsH items
 (repeat' split)<;>rfl
theorem execOp_makeItem (ρ:Operand->Value)(dst:Option Tmp)(parts:Array (Nat×Operand))(ty:TypeId)(pos:String)(after:Array Edge)(guard:Option (Nat×Bool)):
 execOp ρ {dst:=dst,op:=.build 83 parts,type:=ty,pos:=pos,after:=after,guard:=guard}= makeOp 83 (parts.map fun(i,x)=>(i,ρ x)):=by unfold makeOp;rfl
theorem item_bN (n:Int):Tryz.prog.built 83 [(0,.int .i64 n)] = some (icells (iN n) none 0).toArray:=by unfold icells;kernel_rfl
theorem item_bB (b:List Int)(q:Option Addr)(n c:Nat)(hn:n=b.length):Tryz.prog.built 83 [(1,.slice q n c)] = some (icells (iB b) q c).toArray:=by subst hn;unfold icells;kernel_rfl
theorem item_bD (D:List Int)(h:D.length=32):Tryz.prog.built 83 [(2,.agg (D.map v8).toArray)] = some (icells (iD D) none 0).toArray:=by
 obtain⟨a0,a1,a2,a3,a4,a5,a6,a7,a8,a9,a10,a11,a12,a13,a14,a15,a16,a17,a18,a19,a20,a21,a22,a23,a24,a25,a26,a27,a28,a29,a30,a31,rfl⟩:=len32 D h
 unfold icells
 kernel_rfl
theorem make_iN (n:Int)(w:World):(makeOp 83 #[(0,.int .i64 n)]).run Tryz.prog w= .ok (.value (.agg (icells (iN n) none 0).toArray)) w:=run_makeOp w (item_bN n)
theorem make_iB (b:List Int)(q:Option Addr)(n c:Nat)(hn:n=b.length)(w:World):(makeOp 83 #[(1,.slice q n c)]).run Tryz.prog w= .ok (.value (.agg (icells (iB b) q c).toArray)) w:=run_makeOp w (item_bB b q n c hn)
theorem make_iD (D:List Int)(h:D.length=32)(w:World):(makeOp 83 #[(2,.agg (D.map v8).toArray)]).run Tryz.prog w= .ok (.value (.agg (icells (iD D) none 0).toArray)) w:=run_makeOp w (item_bD D h)
theorem z32_ok:(∀n∈Fld.zero32,0<=n/\n<=255)/\Fld.zero32.length=32:=⟨by intro n hn;unfold Fld.zero32 at hn;have:=(List.mem_replicate.1 hn).2;omega,Fld.zero32_length⟩
theorem iN_good (w:World) {n:Int}(h:fit n):GoodI w (iN n) none 0:=⟨⟨h.1,h.2,by simp[iN],z32_ok.1,z32_ok.2⟩,At.nil _ _,by simp[iN],by omega,fun _=>rfl⟩
theorem iD_good (w:World) {D:List Int}(h:∀n∈D,0<=n/\n<=255)(hl:D.length=32):GoodI w (iD D) none 0:=⟨⟨by simp[iD],by simp[iD],by simp[iD],h,hl⟩,At.nil _ _,by simp[iD],by omega,fun _=>rfl⟩
theorem iB_good {w:World} {x:Fac} {q:Option Addr} {c:Nat}(h:sF.Good w x q c):GoodI w (iB x.B) q c:=⟨⟨by simp[iB],by simp[iB],h.ok.B,z32_ok.1,z32_ok.2⟩,h.at_,h.le,h.max,h.nil⟩
theorem itemsH_good {w:World} {x:Fac} {q:Option Addr} {c:Nat}(h:sF.Good w x q c):∀z∈itemsH x q c,GoodI w z.1 z.2.1 z.2.2:=by
 have gS:=iN_good w h.ok.S
 have gH:=iN_good w h.ok.H
 have gN:=iN_good w h.ok.N
 have gO:=iN_good w h.ok.O
 have gD:=iD_good w h.ok.D h.ok.len
 have gB:=iB_good h
 intro z hz
 unfold itemsH iNh iDh at hz
 (repeat' split at hz)<;>simp only[List.mem_cons,List.not_mem_nil,or_false]at hz<;>(first | (rcases hz with rfl | rfl | rfl | rfl) | (rcases hz with rfl | rfl | rfl) | (rcases hz with rfl | rfl) | (obtain rfl:=hz))<;>assumption
def RItemsH (x:Fac)(q:Option Addr)(c:Nat)(w:World)(e:Ending)(w':World):Prop:=∃p n,e= .returned (.slice p n n)/\n=(itemsH x q c).length/\At w' p ((itemsH x q c).flatMap cellsI)/\(p=none->n=0)/\Below w.heap.size w w'
def RItems (x:Fac)(w:World)(e:Ending)(w':World):Prop:=∃p n,e= .returned (.slice p n n)/\Told w' p n n (items x)/\Below w.heap.size w w'
attribute [local go_sem ↓] execOp_allocFact execOp_storeFact execOp_boxFact execOp_makeFact execOp_loadFact execOp_loadId execOp_loadItem execOp_buildItems execOp_makeItem
theorem ritemsH_any (x:Fac)(q:Option Addr)(c:Nat)(w:World)(hx:sF.Good w x q c)(hk:1<=x.K/\x.K < 11):
 Calls Tryz.prog 47 #[.agg (fcells x q c).toArray] w (RItemsH x q c w):=by
 have bx:=run_boxOp (P:=Tryz.prog) (t:=28) (cs:=(fcells x q c).toArray) w
 have hb0:=(Below.refl w.heap.size w).alloc (Nat.le_refl _) (.cells (fcells x q c).toArray 28)
 have hB0:=Blk.new w (fcells x q c).toArray 28
 obtain⟨w1,hw1⟩:∃v,v=w.alloc (.cells (fcells x q c).toArray 28):=⟨_,rfl⟩
 rw[<-hw1]at hb0 hB0 bx
 have HB0:=Lib.hid hb0
 have HB1:=Lib.hid (show Blk w1 w.heap.size (fcells x q c) 28 from hB0)
 have HX:=Lib.hid (hx.below hb0)
 obtain⟨m,hm⟩:∃m,m=x.B.length:=⟨_,rfl⟩
 have HM:=Lib.hid hm
 have HK:=Lib.hid hk
 obtain⟨g0,hg0⟩:∃g0,g0=w.heap.size:=⟨_,rfl⟩
 rw[<-hg0]at HB1 bx
 clear hx hm hb0 hB0 hk hw1
 go_enter Tryz.func47,Tryz.ntmps47
 go_wp2_with fail
 obtain⟨I,W,hC⟩:=cls_of w1
 have hne:Nonempty I:=hC.ne
 have c1:=hC.cell ((HB1.out.cell 1).trans (fcells_S x q c))
 have c2:=hC.cell ((HB1.out.cell 2).trans (fcells_H x q c))
 have c5:∀n,(W n).cell? ⟨g0,37,none⟩=some (.slice q m c):=hC.cell (by rw[HM.out];exact(HB1.out.cell 37).trans (fcells_B HX.out.ok.len q c))
 have lI:∀n,(loadOp 25 (.pointer (some ⟨g0,5,none⟩))).run Tryz.prog (W n)= .ok (.value (.agg (x.D.map v8).toArray)) (W n):=fun n=>load_fid (o:=0) HX.out.ok.len (HB1.out.below (hC.back n) HB1.out.lt).range
 have mS:=fun n=>make_iN x.S (W n)
 have mH:=fun n=>make_iN x.H (W n)
 have mD:=fun n=>make_iD x.D HX.out.ok.len (W n)
 have mB:=fun n=>make_iB x.B q m c HM.out (W n)
 have HCL:=Lib.hid hC
 rw[<-hg0]
 clear hC hg0
 refine wp_region_items (n:=12) (m:=16) (L:=[(12,16,3,(iN x.S,none,0)),(13,17,4,(iN x.H,none,0)),(14,18,5,(iD x.D,none,0)),(15,19,6,(iB x.B,q,c))]) (by kernel_rfl) (by omega) (by simp) (by kernel_rfl) (by kernel_rfl) (by
  intro y hy
  simp only[List.mem_cons,List.not_mem_nil,or_false]at hy
  rcases hy with rfl | rfl | rfl | rfl
  ·exact(iN_good w1 HX.out.ok.S).ok
  ·exact(iN_good w1 HX.out.ok.H).ok
  ·exact(iD_good w1 HX.out.ok.D HX.out.ok.len).ok
  ·exact(iB_good HX.out).ok) HCL.out ?_
 simp only[List.take_succ_cons,List.take_zero,List.drop_succ_cons,List.drop_zero]
 repeat(go_big_quiet_step (fail))
 refine wpQuiet_nil ?_
 refine⟨rfl,fun g3=>⟨rfl,fun g4=>⟨rfl,fun g5=>⟨rfl,fun g6=>⟨⟨_,_,_,_,rfl,rfl,rfl,rfl,rfl⟩,⟨_,_,_,_,rfl,rfl,rfl,rfl,rfl⟩,⟨_,_,_,_,rfl,rfl,rfl,rfl,rfl⟩,⟨_,_,_,_,rfl,rfl,rfl,rfl,rfl⟩,fun w2 hb2 hn2 hd2=>?_⟩⟩⟩⟩⟩
 have hk3:Blk w2 g3 (icells (iN x.S) none 0) 83:=by
  obtain⟨g,e,_,hk⟩:=newEnd_items hn2 (12,16,3,(iN x.S,none,0)) (by simp)
  cases(show ptrN g3=ptrN g from e)
  exact hk
 have hk4:Blk w2 g4 (icells (iN x.H) none 0) 83:=by
  obtain⟨g,e,_,hk⟩:=newEnd_items hn2 (13,17,4,(iN x.H,none,0)) (by simp)
  cases(show ptrN g4=ptrN g from e)
  exact hk
 have hk5:Blk w2 g5 (icells (iD x.D) none 0) 83:=by
  obtain⟨g,e,_,hk⟩:=newEnd_items hn2 (14,18,5,(iD x.D,none,0)) (by simp)
  cases(show ptrN g5=ptrN g from e)
  exact hk
 have hk6:Blk w2 g6 (icells (iB x.B) q c) 83:=by
  obtain⟨g,e,_,hk⟩:=newEnd_items hn2 (15,19,6,(iB x.B,q,c)) (by simp)
  cases(show ptrN g6=ptrN g from e)
  exact hk
 have K3:=Lib.hid hk3
 have K4:=Lib.hid hk4
 have K5:=Lib.hid hk5
 have K6:=Lib.hid hk6
 have HB2:=Lib.hid hb2
 have HX2:=Lib.hid (HX.out.below hb2)
 have HF2:=Lib.hid (HB1.out.below hb2 HB1.out.lt)
 clear hk3 hk4 hk5 hk6 hn2 hd2 hb2 c1 c2 c5 lI mS mH mD mB HCL hne bx
 simp only[Act.put,List.setIfInBounds_toArray,List.set_cons_succ,List.set_cons_zero,ptrN]
 clear W
 obtain⟨I,W,hC⟩:=cls_of w2
 have hne:Nonempty I:=hC.ne
 have c3:=hC.cell ((HF2.out.cell 3).trans (fcells_N x q c))
 have c4:=hC.cell ((HF2.out.cell 4).trans (fcells_O x q c))
 have mN:=fun n=>make_iN x.N (W n)
 have mO:=fun n=>make_iN x.O (W n)
 have HCL:=Lib.hid hC
 clear hC
 go_wp2_with fail
 refine wp_region_items (n:=8) (m:=10) (L:=[(8,10,7,(iN x.N,none,0)),(9,11,8,(iN x.O,none,0))]) (by kernel_rfl) (by omega) (by simp) (by kernel_rfl) (by kernel_rfl) (by
  intro y hy
  simp only[List.mem_cons,List.not_mem_nil,or_false]at hy
  rcases hy with rfl | rfl
  ·exact(iN_good w1 HX.out.ok.N).ok
  ·exact(iN_good w1 HX.out.ok.O).ok) HCL.out ?_
 simp only[List.take_succ_cons,List.take_zero,List.drop_succ_cons,List.drop_zero]
 repeat(go_big_quiet_step (fail))
 refine wpQuiet_nil ?_
 refine⟨rfl,fun g7=>⟨rfl,fun g8=>⟨⟨_,_,_,_,rfl,rfl,rfl,rfl,rfl⟩,⟨_,_,_,_,rfl,rfl,rfl,rfl,rfl⟩,fun w3 hb3 hn3 hd3=>?_⟩⟩⟩
 have hk7:Blk w3 g7 (icells (iN x.N) none 0) 83:=by
  obtain⟨g,e,_,hk⟩:=newEnd_items hn3 (8,10,7,(iN x.N,none,0)) (by simp)
  cases(show ptrN g7=ptrN g from e)
  exact hk
 have hk8:Blk w3 g8 (icells (iN x.O) none 0) 83:=by
  obtain⟨g,e,_,hk⟩:=newEnd_items hn3 (9,11,8,(iN x.O,none,0)) (by simp)
  cases(show ptrN g8=ptrN g from e)
  exact hk
 have HX3:=HX2.out.below hb3
 have HF3:=HF2.out.below hb3 HF2.out.lt
 have lS:=load_item (iN_good w3 HX3.ok.S).ok (K3.out.below hb3 K3.out.lt)
 have lH:=load_item (iN_good w3 HX3.ok.H).ok (K4.out.below hb3 K4.out.lt)
 have lD:=load_item (iD_good w3 HX3.ok.D HX3.ok.len).ok (K5.out.below hb3 K5.out.lt)
 have lB:=load_item (iB_good HX3).ok (K6.out.below hb3 K6.out.lt)
 have lN:=load_item (iN_good w3 HX3.ok.N).ok hk7
 have lO:=load_item (iN_good w3 HX3.ok.O).ok hk8
 have HX4:=Lib.hid HX3
 have HB3:=Lib.hid (HB0.out.trans ((HB2.out.trans (hb3.mono HB2.out.size)).mono HB0.out.size))
 have c0:w3.cell? ⟨g0,0,none⟩=some (.int .i64 x.K):=(HF3.cell 0).trans (fcells_K x q c)
 clear hk7 hk8 hn3 hd3 hb3 HX3 HF3 K3 K4 K5 K6 HB2 HX2 HF2 HX c3 c4 mN mO HCL hne HB0 HB1 W I HM
 simp only[Act.put,List.setIfInBounds_toArray,List.set_cons_succ,List.set_cons_zero,ptrN]
 rcases kinds HK.out with e | e | e | e | e | e | e | e | e | e
 ·rw[e]at c0
  have HQ:=Lib.hid (show itemsH x q c= [] by unfold itemsH;simp[e])
  clear e HX4 HK
  go_wp2_with fail
  go_ret
  exact⟨none,0,rfl,by rw[HQ.out];rfl,by rw[HQ.out];exact At.nil _ _,fun _=>rfl,HB3.out⟩
 ·rw[e]at c0
  obtain⟨w4,p4,hr,ha,hb4⟩:=build_at9 w3 [(iN x.S,none,0)] 1 #[(0,Value.agg (icells (iN x.S) none 0).toArray)] rfl rfl (by
   intro y hy
   simp only[List.mem_cons,List.not_mem_nil,or_false]at hy
   rcases hy with rfl
   ·exact(iN_good w3 HX4.out.ok.S).ok) (by omega)
  have HQ:=Lib.hid (show itemsH x q c= [(iN x.S,none,0)] by unfold itemsH;simp[e,iNh,iDh])
  have HT:=Lib.hid (show At w4 (some ⟨p4,0,none⟩) ((itemsH x q c).flatMap cellsI) by rw[HQ.out];exact ha)
  have HB4:=Lib.hid (HB3.out.trans (hb4.mono HB3.out.size))
  clear e ha hb4 HB3 HX4 HK
  go_wp2_with fail
  go_ret
  exact⟨_,1,rfl,by rw[HQ.out];rfl,HT.out,(fun h=>by cases h),HB4.out⟩
 ·rw[e]at c0
  obtain⟨w4,p4,hr,ha,hb4⟩:=build_at9 w3 [(iB x.B,q,c)] 1 #[(0,Value.agg (icells (iB x.B) q c).toArray)] rfl rfl (by
   intro y hy
   simp only[List.mem_cons,List.not_mem_nil,or_false]at hy
   rcases hy with rfl
   ·exact(iB_good HX4.out).ok) (by omega)
  have HQ:=Lib.hid (show itemsH x q c= [(iB x.B,q,c)] by unfold itemsH;simp[e,iNh,iDh])
  have HT:=Lib.hid (show At w4 (some ⟨p4,0,none⟩) ((itemsH x q c).flatMap cellsI) by rw[HQ.out];exact ha)
  have HB4:=Lib.hid (HB3.out.trans (hb4.mono HB3.out.size))
  clear e ha hb4 HB3 HX4 HK
  go_wp2_with fail
  go_ret
  exact⟨_,1,rfl,by rw[HQ.out];rfl,HT.out,(fun h=>by cases h),HB4.out⟩
 ·rw[e]at c0
  obtain⟨w4,p4,hr,ha,hb4⟩:=build_at9 w3 [(iN x.S,none,0),(iD x.D,none,0)] 2 #[(0,Value.agg (icells (iN x.S) none 0).toArray),(1,Value.agg (icells (iD x.D) none 0).toArray)] rfl rfl (by
   intro y hy
   simp only[List.mem_cons,List.not_mem_nil,or_false]at hy
   rcases hy with rfl | rfl
   ·exact(iN_good w3 HX4.out.ok.S).ok
   ·exact(iD_good w3 HX4.out.ok.D HX4.out.ok.len).ok) (by omega)
  have HQ:=Lib.hid (show itemsH x q c= [(iN x.S,none,0),(iD x.D,none,0)] by unfold itemsH;simp[e,iNh,iDh])
  have HT:=Lib.hid (show At w4 (some ⟨p4,0,none⟩) ((itemsH x q c).flatMap cellsI) by rw[HQ.out];exact ha)
  have HB4:=Lib.hid (HB3.out.trans (hb4.mono HB3.out.size))
  clear e ha hb4 HB3 HX4 HK
  go_wp2_with fail
  go_ret
  exact⟨_,2,rfl,by rw[HQ.out];rfl,HT.out,(fun h=>by cases h),HB4.out⟩
 ·rw[e]at c0
  obtain⟨w4,p4,hr,ha,hb4⟩:=build_at9 w3 [(iN x.H,none,0),(iN x.S,none,0),(iD x.D,none,0)] 3 #[(0,Value.agg (icells (iN x.H) none 0).toArray),(1,Value.agg (icells (iN x.S) none 0).toArray),(2,Value.agg (icells (iD x.D) none 0).toArray)] rfl rfl (by
   intro y hy
   simp only[List.mem_cons,List.not_mem_nil,or_false]at hy
   rcases hy with rfl | rfl | rfl
   ·exact(iN_good w3 HX4.out.ok.H).ok
   ·exact(iN_good w3 HX4.out.ok.S).ok
   ·exact(iD_good w3 HX4.out.ok.D HX4.out.ok.len).ok) (by omega)
  have HQ:=Lib.hid (show itemsH x q c= [(iN x.H,none,0),(iN x.S,none,0),(iD x.D,none,0)] by unfold itemsH;simp[e,iNh,iDh])
  have HT:=Lib.hid (show At w4 (some ⟨p4,0,none⟩) ((itemsH x q c).flatMap cellsI) by rw[HQ.out];exact ha)
  have HB4:=Lib.hid (HB3.out.trans (hb4.mono HB3.out.size))
  clear e ha hb4 HB3 HX4 HK
  go_wp2_with fail
  go_ret
  exact⟨_,3,rfl,by rw[HQ.out];rfl,HT.out,(fun h=>by cases h),HB4.out⟩
 ·rw[e]at c0
  obtain⟨w4,p4,hr,ha,hb4⟩:=build_at9 w3 [(iN x.H,none,0),(iN x.S,none,0),(iD x.D,none,0)] 3 #[(0,Value.agg (icells (iN x.H) none 0).toArray),(1,Value.agg (icells (iN x.S) none 0).toArray),(2,Value.agg (icells (iD x.D) none 0).toArray)] rfl rfl (by
   intro y hy
   simp only[List.mem_cons,List.not_mem_nil,or_false]at hy
   rcases hy with rfl | rfl | rfl
   ·exact(iN_good w3 HX4.out.ok.H).ok
   ·exact(iN_good w3 HX4.out.ok.S).ok
   ·exact(iD_good w3 HX4.out.ok.D HX4.out.ok.len).ok) (by omega)
  have HQ:=Lib.hid (show itemsH x q c= [(iN x.H,none,0),(iN x.S,none,0),(iD x.D,none,0)] by unfold itemsH;simp[e,iNh,iDh])
  have HT:=Lib.hid (show At w4 (some ⟨p4,0,none⟩) ((itemsH x q c).flatMap cellsI) by rw[HQ.out];exact ha)
  have HB4:=Lib.hid (HB3.out.trans (hb4.mono HB3.out.size))
  clear e ha hb4 HB3 HX4 HK
  go_wp2_with fail
  go_ret
  exact⟨_,3,rfl,by rw[HQ.out];rfl,HT.out,(fun h=>by cases h),HB4.out⟩
 ·rw[e]at c0
  obtain⟨w4,p4,hr,ha,hb4⟩:=build_at9 w3 [(iN x.S,none,0),(iN x.N,none,0),(iN x.O,none,0)] 3 #[(0,Value.agg (icells (iN x.S) none 0).toArray),(1,Value.agg (icells (iN x.N) none 0).toArray),(2,Value.agg (icells (iN x.O) none 0).toArray)] rfl rfl (by
   intro y hy
   simp only[List.mem_cons,List.not_mem_nil,or_false]at hy
   rcases hy with rfl | rfl | rfl
   ·exact(iN_good w3 HX4.out.ok.S).ok
   ·exact(iN_good w3 HX4.out.ok.N).ok
   ·exact(iN_good w3 HX4.out.ok.O).ok) (by omega)
  have HQ:=Lib.hid (show itemsH x q c= [(iN x.S,none,0),(iN x.N,none,0),(iN x.O,none,0)] by unfold itemsH;simp[e,iNh,iDh])
  have HT:=Lib.hid (show At w4 (some ⟨p4,0,none⟩) ((itemsH x q c).flatMap cellsI) by rw[HQ.out];exact ha)
  have HB4:=Lib.hid (HB3.out.trans (hb4.mono HB3.out.size))
  clear e ha hb4 HB3 HX4 HK
  go_wp2_with fail
  go_ret
  exact⟨_,3,rfl,by rw[HQ.out];rfl,HT.out,(fun h=>by cases h),HB4.out⟩
 ·rw[e]at c0
  obtain⟨w4,p4,hr,ha,hb4⟩:=build_at9 w3 [(iN x.S,none,0),(iN x.N,none,0),(iN x.O,none,0),(iB x.B,q,c)] 4 #[(0,Value.agg (icells (iN x.S) none 0).toArray),(1,Value.agg (icells (iN x.N) none 0).toArray),(2,Value.agg (icells (iN x.O) none 0).toArray),(3,Value.agg (icells (iB x.B) q c).toArray)] rfl rfl (by
   intro y hy
   simp only[List.mem_cons,List.not_mem_nil,or_false]at hy
   rcases hy with rfl | rfl | rfl | rfl
   ·exact(iN_good w3 HX4.out.ok.S).ok
   ·exact(iN_good w3 HX4.out.ok.N).ok
   ·exact(iN_good w3 HX4.out.ok.O).ok
   ·exact(iB_good HX4.out).ok) (by omega)
  have HQ:=Lib.hid (show itemsH x q c= [(iN x.S,none,0),(iN x.N,none,0),(iN x.O,none,0),(iB x.B,q,c)] by unfold itemsH;simp[e,iNh,iDh])
  have HT:=Lib.hid (show At w4 (some ⟨p4,0,none⟩) ((itemsH x q c).flatMap cellsI) by rw[HQ.out];exact ha)
  have HB4:=Lib.hid (HB3.out.trans (hb4.mono HB3.out.size))
  clear e ha hb4 HB3 HX4 HK
  go_wp2_with fail
  go_ret
  exact⟨_,4,rfl,by rw[HQ.out];rfl,HT.out,(fun h=>by cases h),HB4.out⟩
 ·rw[e]at c0
  obtain⟨w4,p4,hr,ha,hb4⟩:=build_at9 w3 [(iN x.S,none,0),(iB x.B,q,c)] 2 #[(0,Value.agg (icells (iN x.S) none 0).toArray),(1,Value.agg (icells (iB x.B) q c).toArray)] rfl rfl (by
   intro y hy
   simp only[List.mem_cons,List.not_mem_nil,or_false]at hy
   rcases hy with rfl | rfl
   ·exact(iN_good w3 HX4.out.ok.S).ok
   ·exact(iB_good HX4.out).ok) (by omega)
  have HQ:=Lib.hid (show itemsH x q c= [(iN x.S,none,0),(iB x.B,q,c)] by unfold itemsH;simp[e,iNh,iDh])
  have HT:=Lib.hid (show At w4 (some ⟨p4,0,none⟩) ((itemsH x q c).flatMap cellsI) by rw[HQ.out];exact ha)
  have HB4:=Lib.hid (HB3.out.trans (hb4.mono HB3.out.size))
  clear e ha hb4 HB3 HX4 HK
  go_wp2_with fail
  go_ret
  exact⟨_,2,rfl,by rw[HQ.out];rfl,HT.out,(fun h=>by cases h),HB4.out⟩
 ·rw[e]at c0
  obtain⟨w4,p4,hr,ha,hb4⟩:=build_at9 w3 [(iN x.S,none,0)] 1 #[(0,Value.agg (icells (iN x.S) none 0).toArray)] rfl rfl (by
   intro y hy
   simp only[List.mem_cons,List.not_mem_nil,or_false]at hy
   rcases hy with rfl
   ·exact(iN_good w3 HX4.out.ok.S).ok) (by omega)
  have HQ:=Lib.hid (show itemsH x q c= [(iN x.S,none,0)] by unfold itemsH;simp[e,iNh,iDh])
  have HT:=Lib.hid (show At w4 (some ⟨p4,0,none⟩) ((itemsH x q c).flatMap cellsI) by rw[HQ.out];exact ha)
  have HB4:=Lib.hid (HB3.out.trans (hb4.mono HB3.out.size))
  clear e ha hb4 HB3 HX4 HK
  go_wp2_with fail
  go_ret
  exact⟨_,1,rfl,by rw[HQ.out];rfl,HT.out,(fun h=>by cases h),HB4.out⟩
theorem ritems_any (x:Fac)(q:Option Addr)(c:Nat)(w:World)(hx:sF.Good w x q c)(hk:1<=x.K/\x.K < 11):
 Calls Tryz.prog 47 #[.agg (fcells x q c).toArray] w (RItems x w):=by
 refine(ritemsH_any x q c w hx hk).mono ?_
 rintro e w' ⟨p,n,rfl,hn,hA,hp,hb⟩
 have hm:=itemsH_map x q c
 have hl:(itemsH x q c).length<=4:=by unfold itemsH;(repeat' split)<;>simp
 exact⟨p,n,rfl,⟨by rw[hn,<-hm,List.length_map],Nat.le_refl _,by omega,hp,⟨itemsH x q c,hm,hA,itemsH_good (hx.below hb)⟩⟩,hb⟩
end
section
open Go.RowKit
structure Touch (fp:List Nat)(w w':World):Prop where
 os:w'.os=w.os
 tape:w'.tape=w.tape
 output:w'.output=w.output
 size:w.heap.size<=w'.heap.size
 block:∀k,k < w.heap.size->k∉fp->w'.heap[k]? = w.heap[k]?
theorem Touch.of_below {fp:List Nat} {w w':World}(h:Below w.heap.size w w'):Touch fp w w':=⟨h.os,h.tape,h.output,h.size,fun k hk _=>h.block k hk⟩
def From (fp fp':List Nat)(w:World):Prop:=∀k∈fp',k∈fp\/w.heap.size<=k
theorem From.refl (fp:List Nat)(w:World):From fp fp w:=fun _ h=>.inl h
theorem Touch.trans {fp fp1:List Nat} {a b c:World}(h:Touch fp a b)(k:Touch fp1 b c)(hf:From fp fp1 a):Touch fp a c:=
 ⟨k.os.trans h.os,k.tape.trans h.tape,k.output.trans h.output,Nat.le_trans h.size k.size,fun i hi hn=>(k.block i (Nat.lt_of_lt_of_le hi h.size) fun e=>by rcases hf i e with h' | h';exact hn h';omega).trans (h.block i hi hn)⟩
theorem Touch.below {fp:List Nat} {w w':World} {B:Nat}(h:Touch fp w w')(hf:∀k∈fp,B<=k)(hB:B<=w.heap.size):Below B w w':=
 ⟨h.os,h.tape,h.output,h.size,fun k hk=>h.block k (by omega) fun e=>by have:=hf k e;omega⟩
theorem Touch.setCell {fp:List Nat} {w:World} {g i:Nat} {v:Value}(hg:g∈fp):Touch fp w (w.setCell ⟨g,i,none⟩ v):=by
 have h:=(Below.refl g w).setCell (p:=⟨g,i,none⟩) (Nat.le_refl _) v
 exact⟨h.os,h.tape,h.output,h.size,fun k hk hn=>Below.heap_setCell w ⟨g,i,none⟩ v k (fun e=>hn (by rw[e];exact hg))⟩
end
section
open Go.RowKit Sha Fct
open Fld (Itm)
section
variable {P:Program}
theorem run_storeAt_one (w:World)(b o:Nat)(ty:TypeId)(v:Value)(ht:w.there b o 1)(hi:(P.info? ty).map (·.size)=some 1)(hv:v.cells=#[v])(h1:v.oneCell'=true):
 (Instr.storeAt ty (.pointer (some ⟨b,o,none⟩)) v).run P w= .ok () (w.setCell ⟨b,o,none⟩ v):=by
 have:=run_storeCells_cells (P:=P) b o [v] 0 w (fun j hj=>by simpa using(ht j (by simpa using hj)).1) (fun j hj=>by simpa using(ht j (by simpa using hj)).2) (by simpa using h1)
 cases hq:P.info? ty with
 | none=>simp[hq]at hi
 | some i=>
    have hs:i.size=1:=by simpa[hq]using hi
    simp only[Nat.add_zero]at this
    simp[Instr.storeAt,Instr.sureAddr,storeVar,sizeOf,typeInfo,hq,hv,hs,this,World.setCells]
end
def StF (ty:TypeId)(i:Nat)(v:Value)(z:Fac)(q:Option Addr)(c:Nat)(z':Fac)(q':Option Addr)(c':Nat):Prop:=
 ∀(w:World) (g:Nat),Blk w g (fcells z q c) 28->∃w',(Instr.storeAt ty (.pointer (some ⟨g,i,none⟩)) v).run Tryz.prog w= .ok () w'/\Blk w' g (fcells z' q' c') 28/\Touch [g] w w'
theorem int_size1:(Tryz.prog.info? 3).map (·.size)=some 1:=by kernel_rfl
theorem bytes_size1:(Tryz.prog.info? 26).map (·.size)=some 1:=by kernel_rfl
theorem stF_one {ty:TypeId} {i:Nat} {v:Value} {z z':Fac} {q q':Option Addr} {c c':Nat}(hi:(Tryz.prog.info? ty).map (·.size)=some 1)(hv:v.cells=#[v])(h1:v.oneCell'=true)(hz:z.D.length=32)(hlt:i < 38)(he:(fcells z q c).set i v=fcells z' q' c'):StF ty i v z q c z' q' c':=by
 intro w g hb
 refine⟨_,run_storeAt_one w g i ty v (hb.there i 1 (by rw[fcells_length hz];omega)) hi hv h1,?_,Touch.setCell (by simp)⟩
 rw[<-he]
 exact hb.set i v
theorem stF_S (z:Fac)(q:Option Addr)(c:Nat)(n:Int)(hz:z.D.length=32):StF 3 1 (.int .i64 n) z q c {z with S:=n} q c:=stF_one int_size1 rfl rfl hz (by omega) rfl
theorem stF_H (z:Fac)(q:Option Addr)(c:Nat)(n:Int)(hz:z.D.length=32):StF 3 2 (.int .i64 n) z q c {z with H:=n} q c:=stF_one int_size1 rfl rfl hz (by omega) rfl
theorem stF_B (z:Fac)(q:Option Addr)(c:Nat)(b:List Int)(m:Nat)(hm:m=b.length)(q':Option Addr)(c':Nat)(hz:z.D.length=32):StF 26 37 (.slice q' m c') z q c {z with B:=b} q' c':=by
 subst hm
 refine stF_one bytes_size1 rfl rfl hz (by omega) ?_
 unfold fcells
 simp only[List.set_cons_succ]
 rw[List.set_append_right _ _ (by simp[hz])]
 simp[hz]
theorem stF_D (z:Fac)(q:Option Addr)(c:Nat)(D:List Int)(hz:z.D.length=32)(hD:D.length=32):StF 25 5 (.agg (D.map v8).toArray) z q c {z with D:=D} q c:=by
 intro w g hb
 refine⟨_,run_storeAt_mid w g 5 25 (D.map v8).toArray (hb.there 5 _ (by rw[fcells_length hz];simp[hD])) (by rw[id_size];simp[hD]) (v8_one D),?_,?_⟩
 ·have e:∀(z:Fac),fcells z q c= [i64c z.K,i64c z.S,i64c z.H,i64c z.N,i64c z.O]++z.D.map v8++[.slice q z.B.length c]:=fun z=>by unfold fcells;simp
  rw[e]at hb ⊢
  exact Blk.setCells (D.map v8) 5 w _ (z.D.map v8) _ hb rfl (by simp[hz,hD])
 ·have h:=setCells_below (a:=w) (B:=g) (Nat.le_refl _) (D.map v8).toArray.toList 5 w (Below.refl _ _)
  exact⟨h.os,h.tape,h.output,h.size,fun k hk hn=>setCells_heap g _ 5 w k (by simpa using hn)⟩
theorem stF_L (z:Fac)(q:Option Addr)(c:Nat)(n o:Int)(hz:z.D.length=32):StF 23 3 (.agg #[.int .i64 n,.int .i64 o]) z q c {z with N:=n,O:=o} q c:=by
 intro w g hb
 refine⟨_,run_storeAt_mid w g 3 23 #[.int .i64 n,.int .i64 o] (hb.there 3 _ (by rw[fcells_length hz];simp)) (by rw[bal_size];rfl) (by simp[Value.oneCell']),?_,?_⟩
 ·have e:∀(z:Fac),fcells z q c= [i64c z.K,i64c z.S,i64c z.H]++[i64c z.N,i64c z.O]++(z.D.map v8++[.slice q z.B.length c]):=fun z=>by unfold fcells;simp
  rw[e]at hb ⊢
  exact Blk.setCells [i64c n,i64c o] 3 w _ [i64c z.N,i64c z.O] _ hb rfl rfl
 ·have h:=setCells_below (a:=w) (B:=g) (Nat.le_refl _) [i64c n,i64c o] 3 w (Below.refl _ _)
  exact⟨h.os,h.tape,h.output,h.size,fun k hk hn=>setCells_heap g _ 3 w k (by simpa using hn)⟩
section
variable {ops:Array Oper} {rest:List Oper} {o:Oper} {a:Act} {w:World} {Q:Exit->Act->World->Prop}
end
end
section
namespace Sha
theorem getD_set_ne' {α:Type}(l:List α)(i j:Nat)(x d:α)(h:i≠j):(l.set i x).getD j d=l.getD j d:=by
 rw[List.getD_eq_getElem?_getD,List.getD_eq_getElem?_getD,List.getElem?_set_ne h]
theorem getD_set_eq' {α:Type}(l:List α)(i:Nat)(x d:α)(h:i < l.length):(l.set i x).getD i d=x:=by
 rw[List.getD_eq_getElem?_getD,List.getElem?_set_self h];rfl
theorem fill_other (zs:List Int)(i t:Nat)(h:i / 4≠t):(fill zs (i+1)).getD t 0=(fill zs i).getD t 0:=by
 rw[fill,fillStep,getD_set_ne' _ _ _ _ _ h]
theorem fill_early (zs:List Int)(t:Nat)(ht:t < 64):∀i,i<=4*t->(fill zs i).getD t 0=0#32
 | 0,_=>by rw[fill,List.getD_eq_getElem?_getD,List.getElem?_replicate,if_pos ht];rfl
 | i+1,h=>by rw[fill_other zs i t (by omega)];exact fill_early zs t ht i (by omega)
theorem fill_late (zs:List Int)(t:Nat):∀j,(fill zs (4*t+4+j)).getD t 0=(fill zs (4*t+4)).getD t 0
 | 0=>rfl
 | j+1=>by rw[show 4*t+4+(j+1)=(4*t+4+j)+1 by omega,fill_other zs _ t (by omega)];exact fill_late zs t j
def shin (x:W)(c:Int):W:=x <<< 8 ||| BitVec.ofInt 32 c
theorem fill_own (zs:List Int)(i t:Nat)(ht:t < 64)(h:i / 4=t):(fill zs (i+1)).getD t 0=shin ((fill zs i).getD t 0) (zs.getD i 0):=by
 subst h
 rw[fill,fillStep,getD_set_eq' _ _ _ _ (by rw[fill_length];exact ht)];rfl
theorem fill_four (zs:List Int)(t:Nat)(ht:t < 16):(fill zs 64).getD t 0=shin (shin (shin (shin 0#32 (zs.getD (4*t) 0)) (zs.getD (4*t+1) 0)) (zs.getD (4*t+2) 0)) (zs.getD (4*t+3) 0):=by
 have h:=fill_late zs t (60 - 4*t)
 rw[show 4*t+4+(60 - 4*t)=64 by omega]at h
 rw[h,fill_own zs (4*t+3) t (by omega) (by omega),fill_own zs (4*t+2) t (by omega) (by omega),fill_own zs (4*t+1) t (by omega) (by omega),fill_own zs (4*t) t (by omega) (by omega),fill_early zs t (by omega) _ (Nat.le_refl _)]
theorem shin_U (x:W)(c:Int)(hx:U x < 16777216)(hc:0<=c/\c<=255):U (shin x c)=U x*256+c:=by
 obtain⟨k,rfl⟩:=Int.eq_ofNat_of_zero_le hc.1
 unfold shin U at *
 have hk:(BitVec.ofInt 32 (k:Int)).toNat=k:=by simp;omega
 rw[BitVec.toNat_or,BitVec.toNat_shiftLeft,hk,Nat.mod_eq_of_lt (by rw[Nat.shiftLeft_eq];omega),<-Nat.shiftLeft_add_eq_or_of_lt (by omega),Nat.shiftLeft_eq]
 omega
theorem four_U (a b c d:Int)(ha:0<=a/\a<=255)(hb:0<=b/\b<=255)(hc:0<=c/\c<=255)(hd:0<=d/\d<=255):
 U (shin (shin (shin (shin 0#32 a) b) c) d)=((a*256+b)*256+c)*256+d:=by
 have h0:U 0#32=0:=by decide
 have h1:=shin_U 0#32 a (by omega) ha
 have h2:=shin_U (shin 0#32 a) b (by omega) hb
 have h3:=shin_U (shin (shin 0#32 a) b) c (by omega) hc
 have h4:=shin_U (shin (shin (shin 0#32 a) b) c) d (by omega) hd
 omega
theorem ext_other (l:List W)(k j:Nat)(h:k+16≠j):(ext l (k+1)).getD j 0=(ext l k).getD j 0:=by
 rw[ext,extStep,getD_set_ne' _ _ _ _ _ h]
theorem ext_late (l:List W)(k j:Nat)(h:j < k+16):∀n,(ext l (k+n)).getD j 0=(ext l k).getD j 0
 | 0=>rfl
 | n+1=>by rw[show k+(n+1)=(k+n)+1 by omega,ext_other l _ j (by omega)];exact ext_late l k j h n
theorem ext_own (l:List W)(k:Nat)(h:k+16 < l.length):(ext l (k+1)).getD (k+16) 0=(ext l k).getD k 0+small0 ((ext l k).getD (k+1) 0)+(ext l k).getD (k+9) 0+small1 ((ext l k).getD (k+14) 0):=by
 rw[ext,extStep,getD_set_eq' _ _ _ _ (by rw[ext_length];exact h)]
theorem words_low (zs:List Int)(t:Nat)(ht:t < 16):(wordsOf zs).getD t 0=shin (shin (shin (shin 0#32 (zs.getD (4*t) 0)) (zs.getD (4*t+1) 0)) (zs.getD (4*t+2) 0)) (zs.getD (4*t+3) 0):=by
 rw[wordsOf_eq,<-fill_four zs t ht]
 have:=ext_late (fill zs 64) 0 t (by omega) 48
 rw[Nat.zero_add]at this
 rw[this,ext]
theorem words_high (zs:List Int)(k:Nat)(hk:k < 48):(wordsOf zs).getD (k+16) 0=(wordsOf zs).getD k 0+small0 ((wordsOf zs).getD (k+1) 0)+(wordsOf zs).getD (k+9) 0+small1 ((wordsOf zs).getD (k+14) 0):=by
 rw[wordsOf_eq]
 have e:∀j,j < k+16->(ext (fill zs 64) 48).getD j 0=(ext (fill zs 64) k).getD j 0:=fun j hj=>by
  have:=ext_late (fill zs 64) k j hj (48 - k)
  rwa [show k+(48 - k)=48 by omega]at this
 have e2:(ext (fill zs 64) 48).getD (k+16) 0=(ext (fill zs 64) (k+1)).getD (k+16) 0:=by
  have:=ext_late (fill zs 64) (k+1) (k+16) (by omega) (48 - (k+1))
  rwa [show k+1+(48 - (k+1))=48 by omega]at this
 rw[e2,ext_own _ _ (by rw[fill_length];omega),e k (by omega),e (k+1) (by omega),e (k+9) (by omega),e (k+14) (by omega)]
theorem take_next {α:Type}(l:List α)(k:Nat)(d:α)(x:α)(hk:k < l.length)(hx:x=l.getD k d):l.take (k+1)=l.take k++[x]:=by
 rw[List.take_succ_eq_append_getElem hk,hx,List.getD_eq_getElem?_getD,List.getElem?_eq_getElem hk];rfl
theorem add_other (l r:List W)(i j:Nat)(h:i≠j):(addUpto l r (i+1)).getD j 0=(addUpto l r i).getD j 0:=by
 rw[addUpto,addStep,getD_set_ne' _ _ _ _ _ h]
theorem add_early (l r:List W)(j:Nat):∀i,i<=j->(addUpto l r i).getD j 0=l.getD j 0
 | 0,_=>by rw[addUpto_zero]
 | i+1,h=>by rw[add_other l r i j (by omega)];exact add_early l r j i (by omega)
theorem add_late (l r:List W)(j:Nat):∀n,(addUpto l r (j+1+n)).getD j 0=(addUpto l r (j+1)).getD j 0
 | 0=>rfl
 | n+1=>by rw[show j+1+(n+1)=(j+1+n)+1 by omega,add_other l r _ j (by omega)];exact add_late l r j n
theorem add_get (l r:List W)(j:Nat)(hj:j < 8)(hl:l.length=8):(addUpto l r 8).getD j 0=l.getD j 0+r.getD j 0:=by
 have:=add_late l r j (7 - j)
 rw[show j+1+(7 - j)=8 by omega]at this
 rw[this,addUpto,addStep,getD_set_eq' _ _ _ _ (by rw[addUpto_length,hl];exact hj),add_early l r j j (Nat.le_refl _)]
def filled (zs:List Int):List Int:=zs++[128]++List.replicate (noughts (zs.length % 64)) 0++lenUpto zs.length 8
theorem filled_eq (zs:List Int):filled zs=zs++[128]++List.replicate (noughts (zs.length % 64)) 0++lenUpto zs.length 8:=rfl
theorem filled_split (zs:List Int):filled zs=zs.take (wholeOf zs)++ending (zs.drop (wholeOf zs)) zs.length:=by
 have hl:(zs.drop (wholeOf zs)).length=zs.length % 64:=by rw[List.length_drop];unfold wholeOf;omega
 rw[filled_eq,ending_eq,hl,<-List.append_assoc,<-List.append_assoc,<-List.append_assoc,List.take_append_drop]
theorem part_left (a b:List Int)(k:Nat)(h:(k+1)*64<=a.length):part (a++b) k=part a k:=by
 unfold part
 rw[List.take_append_of_le_length h]
theorem part_right (a b:List Int)(m k:Nat)(h:a.length=m*64):part (a++b) (m+k)=part b k:=by
 unfold part
 rw[List.take_append,List.drop_append,List.take_of_length_le (by omega),List.drop_eq_nil_of_le (by omega),List.nil_append,h,show(m+k+1)*64 - m*64=(k+1)*64 by omega,show(m+k)*64 - m*64=k*64 by omega]
theorem thru_left (s ks:List W)(a b:List Int):∀k,k*64<=a.length->thru s ks (a++b) k=thru s ks a k
 | 0,_=>by rw[thru_zero,thru_zero]
 | k+1,h=>by rw[thru_succ,thru_succ,thru_left s ks a b k (by omega),part_left a b k h]
theorem thru_right (s ks:List W)(a b:List Int)(m:Nat)(h:a.length=m*64):∀k,thru s ks (a++b) (m+k)=thru (thru s ks a m) ks b k
 | 0=>by rw[Nat.add_zero,thru_left s ks a b m (by omega),thru_zero]
 | k+1=>by rw[<-Nat.add_assoc,thru_succ,thru_right s ks a b m h k,part_right a b m k h,thru_succ]
theorem filled_length (zs:List Int):(filled zs).length % 64=0/\(filled zs).length<=zs.length+72:=by
 rw[filled_eq]
 simp only[List.length_append,List.length_replicate,lenUpto_length,List.length_singleton]
 have h1:zs.length % 64 < 64:=Nat.mod_lt _ (by omega)
 unfold noughts
 split<;>omega
theorem sum_filled (zs:List Int):sum zs=tellUpto (thru first8 kList (filled zs) ((filled zs).length / 64)) 32:=by
 have hw:(zs.take (wholeOf zs)).length=wholeOf zs:=by rw[List.length_take];unfold wholeOf;omega
 have hd:wholeOf zs=wholeOf zs / 64*64:=by unfold wholeOf;omega
 have hlen:(filled zs).length / 64=wholeOf zs / 64+(ending (zs.drop (wholeOf zs)) zs.length).length / 64:=by
  rw[filled_split,List.length_append,hw];omega
 rw[sum_eq,hlen,filled_split,thru_right _ _ _ _ _ (by rw[hw];exact hd),hw]
theorem filled_bd (zs:List Int)(h:∀n∈zs,0<=n/\n<=255):∀n∈filled zs,0<=n/\n<=255:=by
 intro n hn
 rw[filled_split,List.mem_append]at hn
 rcases hn with hn | hn
 ·exact h n (List.mem_of_mem_take hn)
 ·exact ending_bd _ _ (fun m hm=>h m (List.mem_of_mem_drop hm)) n hn
theorem noughts_mod (n k:Nat)(h:k < noughts (n % 64)):(n+1+k) % 64≠56:=by
 have:=noughts_lt (n % 64) k (Nat.mod_lt _ (by omega)) h
 omega
theorem noughts_end (n:Nat):(n+1+noughts (n % 64)) % 64=56:=by
 have:=noughts_eq (n % 64) (Nat.mod_lt _ (by omega))
 omega
theorem noughts_bd (n:Nat):noughts (n % 64)<=120:=by
 have:=noughts_le (n % 64) (Nat.mod_lt _ (by omega))
 omega
end Sha
end
section
open Go.RowKit Sha
attribute [local go_sem] U_and U_or U_xor U_add U_shl8 U_shr3 U_shr10 U_not U_notmax U_or_int
theorem rturned_any (x:W)(n:Int)(w:World)(hn:1<=n/\n<=31):
 Calls Tryz.prog 148 #[v32 x,.int .u64 n] w fun e w'=>e= .returned (v32 (rotr x n.toNat))/\w=w':=by
 obtain⟨n,rfl⟩:=Int.eq_ofNat_of_zero_le (show 0<=n by omega)
 go_enter Tryz.func148,Tryz.ntmps148
 go_wp2
 go_ret
 exact⟨ret_int (by rw[U_shr,U_shl,U_or,BitVec.or_comm,rot x n (by omega),Int.toNat_natCast]),rfl⟩
theorem rturned_still (x:W)(n:Int)(w:World)(hn:1<=n/\n<=31):
 Calls Tryz.prog 148 #[v32 x,.int .u64 n] w fun e w'=>e= .returned (v32 (rotr x n.toNat))/\w'=w:=(rturned_any x n w hn).mono fun _ _ ⟨h,h'⟩=>⟨h,h'.symm⟩
theorem at_lit {w:World} {cs:Array Value} {t:TypeId} {l:List Value}(h:l.toArray=cs):At (w.alloc (.cells cs t)) (some ⟨w.heap.size,0,none⟩) l:=by
 subst h
 refine Or.inr ⟨_,0,rfl,fun i v hi=>?_⟩
 rw[Nat.zero_add,(Blk.new w l.toArray t).cell];exact hi
theorem rfirst_any (w:World):
 Calls Tryz.prog 123 #[] w fun e w'=>∃g,e= .returned (.slice (some ⟨g,0,none⟩) 8 8)/\At w' (some ⟨g,0,none⟩) (first8.map v32)/\Below w.heap.size w w':=by
 go_enter Tryz.func123,Tryz.ntmps123
 go_wp2
 go_ret
 exact⟨_,rfl,at_lit (by kernel_rfl),(Below.refl _ _).alloc (Nat.le_refl _) _⟩
theorem rconst_any (w:World):
 Calls Tryz.prog 124 #[] w fun e w'=>∃g,e= .returned (.slice (some ⟨g,0,none⟩) 64 64)/\At w' (some ⟨g,0,none⟩) (kList.map v32)/\Below w.heap.size w w':=by
 go_enter Tryz.func124,Tryz.ntmps124
 go_wp2
 go_ret
 exact⟨_,rfl,at_lit (by kernel_rfl),(Below.refl _ _).alloc (Nat.le_refl _) _⟩
end
section
open Go.RowKit Sha
attribute [local go_sem] U_and U_or U_xor U_add U_shl8 U_shr3 U_shr10 U_not U_notmax U_or_int
theorem word_info:(Tryz.prog.info? 151).map (fun i=>(i.zero,i.size,i.bytes))=some (some (.int .u32 0),1,4):=by kernel_rfl
theorem one32l (l:List W):∀u∈l.map v32,u.oneCell'=true:=by simp[Value.oneCell']
theorem own_cell32 {w:World} {B n g c:Nat} {e:TypeId} {l:List W}(h:w.ownsRow B e 1 (.slice (some ⟨g,0,none⟩) n c) n (l.map v32))(i:Nat)(hi:i < l.length):w.cell? ⟨g,i,none⟩=some (v32 (l.getD i 0)):=by
 obtain⟨p,cap,hv,_,_,hA,_⟩:=own_at h
 cases hv
 rcases hA with hA | ⟨b,off,ha,hc⟩
 ·rw[List.map_eq_nil_iff]at hA;subst hA;simp at hi
 ·cases ha
  have:=hc i (v32 (l.getD i 0)) (by rw[List.getElem?_map,List.getElem?_eq_getElem hi,List.getD_eq_getElem?_getD,List.getElem?_eq_getElem hi];rfl)
  rwa [Nat.zero_add]at this
theorem own_cast {w:World} {B n:Nat} {e:TypeId} {v:Value} {xs:List Value} {a b:Value}(h:w.ownsRow B e 1 v n (xs++[a]))(hab:a=b):w.ownsRow B e 1 v n (xs++[b]):=by rw[<-hab];exact h
theorem at_cell8 {w:World} {b off:Nat} {l:List Int}(h:At w (some ⟨b,off,none⟩) (l.map v8))(i:Nat)(hi:i < l.length):w.cell? ⟨b,off+i,none⟩=some (v8 (l.getD i 0)):=by
 rcases h with hA | ⟨b',off',ha,hc⟩
 ·rw[List.map_eq_nil_iff]at hA;subst hA;simp at hi
 ·cases ha
  exact hc i _ (by rw[List.getElem?_map,List.getElem?_eq_getElem hi,List.getD_eq_getElem?_getD,List.getElem?_eq_getElem hi];rfl)
theorem getD_bd8 {l:List Int}(h:∀n∈l,0<=n/\n<=255)(i:Nat)(hi:i < l.length):0<=l.getD i 0/\l.getD i 0<=255:=h _ (by rw[List.getD_eq_getElem?_getD,List.getElem?_eq_getElem hi];simp)
theorem rwords_any (zs:List Int)(p:Option Addr)(cap:Nat)(w:World)(hl:zs.length=64)(hz:∀n∈zs,0<=n/\n<=255)(hA:At w p (zs.map v8)):
 Calls Tryz.prog 147 #[.slice p 64 cap] w
  fun e w'=>∃g c,e= .returned (.slice (some ⟨g,0,none⟩) 64 c)/\w'.ownsRow w.heap.size 151 1 (.slice (some ⟨g,0,none⟩) 64 c) 64 ((wordsOf zs).map v32)/\Below w.heap.size w w':=by
 obtain⟨b,off,rfl,_⟩:=hA.addr (by rw[List.length_map];omega)
 have HA:=Lib.hid hA
 have Hl:=Lib.hid hl
 have HW:=Lib.hid (wordsOf_length zs)
 clear hA hl
 obtain⟨i0,hi0,hz0,hz1,hz2⟩:=info_parts word_info
 go_enter Tryz.func147,Tryz.ntmps147
 go_wp2_with fail
 go_loopw [3,4] (fun v i wr=>∃(k:Nat) (v0:Value),k<=16/\i= .int .i64 k/\v0=v/\wr.ownsRow w.heap.size 151 1 v0 k (((wordsOf zs).take k).map v32)/\Below w.heap.size w wr/\w.heap.size<=wr.heap.size) (fun _ i _=>16 - (intOf i).toNat)
 case atStart=>exact⟨0,_,by omega,rfl,rfl,by rw[List.take_zero];exact World.ownsRow_nil _ _ _ _,Below.refl _ _,Nat.le_refl _⟩
 case round=>
  obtain⟨k,v3,hk,rfl,rfl,hown,hb,hs⟩:=hrel
  have HO:=Lib.hid hown
  clear hown
  by_cases hlt:k < 16
  ·have ha:=HA.out.below hb
   have c0:=at_cell8 ha (4*k) (by rw[Hl.out];omega)
   have c1:=at_cell8 ha (4*k+1) (by rw[Hl.out];omega)
   have c2:=at_cell8 ha (4*k+2) (by rw[Hl.out];omega)
   have c3:=at_cell8 ha (4*k+3) (by rw[Hl.out];omega)
   have d0:=getD_bd8 hz (4*k) (by rw[Hl.out];omega)
   have d1:=getD_bd8 hz (4*k+1) (by rw[Hl.out];omega)
   have d2:=getD_bd8 hz (4*k+2) (by rw[Hl.out];omega)
   have d3:=getD_bd8 hz (4*k+3) (by rw[Hl.out];omega)
   have HL:=Lib.hid (words_low zs k hlt)
   generalize zs.getD (4*k) 0=b0 at *
   generalize zs.getD (4*k+1) 0=b1 at *
   generalize zs.getD (4*k+2) 0=b2 at *
   generalize zs.getD (4*k+3) 0=b3 at *
   have HV:Hid (v32 ((wordsOf zs).getD k 0)= .int .u32 (IntKind.u32.wrap (IntKind.u32.wrap (IntKind.u32.wrap (IntKind.u32.wrap (IntKind.u32.wrap b0*16777216)+IntKind.u32.wrap (IntKind.u32.wrap b1*65536))+IntKind.u32.wrap (IntKind.u32.wrap b2*256))+IntKind.u32.wrap b3))):=by
    show _=_
    rw[HL.out];unfold v32;rw[four_U b0 b1 b2 b3 d0 d1 d2 d3];simp only[IntKind.wrap_u32];congr 1;omega
   have HT:=Lib.hid (take_next (wordsOf zs) k 0 _ (by rw[HW.out];omega) rfl)
   clear ha
   have lb:b < wr.heap.size:=World.block_lt_of_cell? wr _ c0
   have lbw:b < w.heap.size:=World.block_lt_of_cell? w _ (at_cell8 HA.out 0 (by rw[Hl.out];omega))
   have AV:v3.ownBlock≠some b:=fun h=>by have:=(HO.out.lt b h).1;omega
   have AVH:=Lib.hid AV
   clear AV
   have g0:(0:Int)<=4*(k:Int):=by omega
   have g1:4*(k:Int) < 61:=by omega
   have hB:=Lib.hid (And.intro hk (And.intro hs hlt))
   have e0:IntKind.i64.wrap (4*(k:Int))=4*(k:Int):=IntWalk.i64_in _ (by omega)
   have e1:IntKind.i64.wrap (4*(k:Int)+1)=4*(k:Int)+1:=IntWalk.i64_in _ (by omega)
   have e2:IntKind.i64.wrap (4*(k:Int)+2)=4*(k:Int)+2:=IntWalk.i64_in _ (by omega)
   have e3:IntKind.i64.wrap (4*(k:Int)+3)=4*(k:Int)+3:=IntWalk.i64_in _ (by omega)
   have a0:(4*(k:Int)).toNat=4*k:=by omega
   have a1:(4*(k:Int)+1).toNat=4*k+1:=by omega
   have a2:(4*(k:Int)+2).toNat=4*k+2:=by omega
   have a3:(4*(k:Int)+3).toNat=4*k+3:=by omega
   have b0':(0:Int)<=4*(k:Int)+1:=by omega
   have b1':(0:Int)<=4*(k:Int)+2:=by omega
   have b2':(0:Int)<=4*(k:Int)+3:=by omega
   have q0:4*(k:Int) < 64:=by omega
   have q1:4*(k:Int)+1 < 64:=by omega
   have q2:4*(k:Int)+2 < 64:=by omega
   have q3:4*(k:Int)+3 < 64:=by omega
   clear g1
   go_wp2_with fail
   go_region_held3 (fun w'=>w'.cell? ⟨b,off+4*k,none⟩=some (v8 b0)/\w'.cell? ⟨b,off+(4*k+1),none⟩=some (v8 b1)/\w'.cell? ⟨b,off+(4*k+2),none⟩=some (v8 b2)/\w'.cell? ⟨b,off+(4*k+3),none⟩=some (v8 b3))
    (first
      | go_keep
      | (go_split_ands
         refine⟨?_,?_,?_,?_⟩
         ·(rw[hgrow.cell_far _ (by simp;omega) (Ne.symm AVH.out)];assumption)
         ·(rw[hgrow.cell_far _ (by simp;omega) (Ne.symm AVH.out)];assumption)
         ·(rw[hgrow.cell_far _ (by simp;omega) (Ne.symm AVH.out)];assumption)
         ·(rw[hgrow.cell_far _ (by simp;omega) (Ne.symm AVH.out)];assumption)))
    ((refine step_append_lies _ (by rfl) _ _ _ (by rfl) w.heap.size 151 i0 _ 1 4 Tryz.underlying172 hi0 hz0 hz1 hz2 rfl (by omega) v3 k _ (by rfl) ((HO.out.alloc _).drew)
       ⟨wr.heap.size,0,none⟩ 1 1 [_] (by rfl) (by rfl) (World.news_of_block (cs:=#[_]) (t:=151) (fr:=(0,0)) (heap_alloc_new wr _)) (by simp[Value.oneCell'])
       (by omega) (by unfold maxLen;omega) (by omega) (by simp;omega) (wr.heap.size+1) (by simp) ?_;intro gg cap w1 hown1 hgrow hat hlt))
   clear e0 e1 e2 e3 a0 a1 a2 a3 b0' b1' b2' q0 q1 q2 q3
   go_wp2_with fail
   go_roundw
   case rel=>
    refine⟨k+1,_,by omega,by go_num,rfl,?_,(((hb.alloc hs _).drew).grown hgrow (by simp;omega) (fun j hj=>(HO.out.lt j hj).1)),by have:=hgrow.size;simp at this;omega⟩
    rw[HT.out,List.map_append,List.map_cons,List.map_nil,HV.out]
    exact hown1
   case measure=>simp[intOf];omega
  ·obtain rfl:k=16:=by omega
   clear hlt hk
   rw[show((16:Nat):Int)=(16:Int)from rfl]
   go_wp2_with fail
   go_loopw [3,5] (fun v i wr=>∃(k:Nat) (v0:Value),k<=48/\i= .int .i64 (k+16)/\v0=v/\wr.ownsRow w.heap.size 151 1 v0 (k+16) (((wordsOf zs).take (k+16)).map v32)/\Below w.heap.size w wr/\w.heap.size<=wr.heap.size) (fun _ i _=>64 - (intOf i).toNat)
   case atStart=>exact⟨0,_,by omega,rfl,rfl,HO.out,hb,hs⟩
   case round=>
    clear HO hb hs
    obtain⟨k,v0,hk,rfl,rfl,hown,hb,hs⟩:=hrel
    obtain⟨g,c,rfl,hg,hmc,hcm,hgs⟩:=own_form hown (by omega)
    have HO:=Lib.hid hown
    clear hown
    by_cases hlt:k < 48
    ·have ll:((wordsOf zs).take (k+16)).length=k+16:=by rw[List.length_take,HW.out];omega
     have gt:∀j,j < k+16->((wordsOf zs).take (k+16)).getD j 0=(wordsOf zs).getD j 0:=fun j hj=>by
      rw[List.getD_eq_getElem?_getD,List.getElem?_take,if_pos hj,<-List.getD_eq_getElem?_getD]
     have c0:=own_cell32 HO.out k (by omega)
     have c1:=own_cell32 HO.out (k+1) (by omega)
     have c9:=own_cell32 HO.out (k+9) (by omega)
     have c14:=own_cell32 HO.out (k+14) (by omega)
     rw[gt _ (by omega)]at c0 c1 c9 c14
     have HH:=Lib.hid (words_high zs k hlt)
     have HT:=Lib.hid (take_next (wordsOf zs) (k+16) 0 _ (by rw[HW.out];omega) rfl)
     generalize(wordsOf zs).getD k 0=x0 at *
     generalize(wordsOf zs).getD (k+1) 0=x1 at *
     generalize(wordsOf zs).getD (k+9) 0=x9 at *
     generalize(wordsOf zs).getD (k+14) 0=x14 at *
     clear ll gt
     go_wp2_with fail
     go_quiet (fail)
     go_wp2_with (go_at_call 148;refine(rturned_any _ _ _ (by omega)).mono ?_;rintro e w' ⟨rfl,rfl⟩)
     have cq0:(wr.drewN nq).cell? ⟨g,k,none⟩=some (v32 x0):=c0
     have cq9:(wr.drewN nq).cell? ⟨g,k+9,none⟩=some (v32 x9):=c9
     have HQ:Hid ((wr.drewN nq).ownsRow w.heap.size 151 1 (.slice (some ⟨g,0,none⟩) (k+16) c) (k+16) (((wordsOf zs).take (k+16)).map v32)):=HO.out
     have hbq:Below w.heap.size w (wr.drewN nq):=below_drewN hb nq
     have hsq:w.heap.size<=(wr.drewN nq).heap.size:=hs
     have hgq:g < (wr.drewN nq).heap.size:=hgs
     clear c0 c1 c9 c14 HO hb hs hgs
     generalize wr.drewN nq=wq at *
     have hB:=Lib.hid (And.intro hk (And.intro hsq hlt))
     have e0:IntKind.i64.wrap ((k:Int)+16 - 16)=(k:Int):=by rw[show(k:Int)+16 - 16=(k:Int) by omega];exact IntWalk.i64_in _ (by omega)
     have e1:IntKind.i64.wrap ((k:Int)+16 - 7)=(k:Int)+9:=by rw[show(k:Int)+16 - 7=(k:Int)+9 by omega];exact IntWalk.i64_in _ (by omega)
     have a1:((k:Int)+9).toNat=k+9:=by omega
     have b1':(0:Int)<=(k:Int)+9:=by omega
     have q0:(k:Int) < ((k+16:Nat):Int):=by omega
     have q1:(k:Int)+9 < ((k+16:Nat):Int):=by omega
     have q2:(k:Int) < (k:Int)+16:=by omega
     have q3:(k:Int)+9 < (k:Int)+16:=by omega
     have e2:IntKind.i64.wrap (k:Int)=(k:Int):=IntWalk.i64_in _ (by omega)
     have e3:IntKind.i64.wrap ((k:Int)+9)=(k:Int)+9:=IntWalk.i64_in _ (by omega)
     go_region_law ((refine step_append_lies _ (by rfl) _ _ _ (by rfl) w.heap.size 151 i0 _ 1 4 Tryz.underlying172 hi0 hz0 hz1 hz2 rfl (by omega) (.slice (some ⟨g,0,none⟩) (k+16) c) (k+16) _ (by rfl) ((HQ.out.alloc _).drew) ⟨wq.heap.size,0,none⟩ 1 1 [_] (by rfl) (by rfl) (World.news_of_block (cs:=#[_]) (t:=151) (fr:=(0,0)) (heap_alloc_new wq _)) (by simp[Value.oneCell']) (by omega) (by unfold maxLen;omega) (by omega) (by simp;omega) (wq.heap.size+1) (by simp) ?_;intro gg cap w1 hown1 hgrow hat hlt))
     all_goals
      clear e0 e1 e2 e3 a1 b1' q0 q1 q2 q3
      go_wp2_with fail
      go_roundw
      case rel=>
       refine⟨k+1,_,by omega,by rw[show((k+1:Nat):Int)+16=(k:Int)+16+1 by omega],rfl,?_,(((hbq.alloc hsq _).drew).grown hgrow (by simp;omega) (fun j hj=>(HQ.out.lt j hj).1)),by have:=hgrow.size;simp at this;omega⟩
       rw[show k+1+16=k+16+1 by omega,HT.out,List.map_append,List.map_cons,List.map_nil,HH.out]
       refine own_cast hown1 ?_
       unfold v32 small0 small1
       simp only[u32_wrap,BitVec.ofInt_add,ofInt_U]
      case measure=>simp[intOf];omega
    ·obtain rfl:k=48:=by omega
     have HZ:Hid ((wordsOf zs).take (48+16)=wordsOf zs):=List.take_of_length_le (by rw[HW.out];omega)
     go_wp2_with fail
     go_ret
     exact⟨g,c,rfl,by have:=HO.out;rwa [HZ.out]at this,hb⟩
end
section
open Go.RowKit Sha
theorem U_self (x:W):U x % (4294967296:Int)=U x:=by rw[U_mod,ofInt_U]
attribute [local go_sem] U_self U_and U_or U_xor U_add U_shl8 U_shr3 U_shr10 U_not U_notmax U_or_int
theorem at_cell32 {w:World} {g:Nat} {l:List W}(h:At w (some ⟨g,0,none⟩) (l.map v32))(i:Nat)(hi:i < l.length):w.cell? ⟨g,i,none⟩=some (v32 (l.getD i 0)):=by
 rcases h with hA | ⟨b',off',ha,hc⟩
 ·rw[List.map_eq_nil_iff]at hA;subst hA;simp at hi
 ·cases ha
  have:=hc i (v32 (l.getD i 0)) (by rw[List.getElem?_map,List.getElem?_eq_getElem hi,List.getD_eq_getElem?_getD,List.getElem?_eq_getElem hi];rfl)
  rwa [Nat.zero_add]at this
theorem own_at_g32 {w:World} {B n g c:Nat} {e:TypeId} {xs:List Value}(h:w.ownsRow B e 1 (.slice (some ⟨g,0,none⟩) n c) n xs):At w (some ⟨g,0,none⟩) xs:=by
 obtain⟨p,cap,hv,_,_,hA,_⟩:=own_at h
 cases hv;exact hA
def RRound (ws:List W)(r0:R8)(w3:World)(v i:Value)(wr:World):Prop:=
 ∃(k:Nat) (g cc:Nat) (a b c d e f gg h:W),k<=64/\i= .int .i64 k/\v= .slice (some ⟨g,0,none⟩) 8 cc/\Hid (At wr (some ⟨g,0,none⟩) ([a,b,c,d,e,f,gg,h].map v32))/\Hid (rounds kList ws r0 k=⟨a,b,c,d,e,f,gg,h⟩)/\Hid (Below w3.heap.size w3 wr)
theorem at_eight {w:World} {g:Nat} {a b c d e f gg h:W}(hA:At w (some ⟨g,0,none⟩) ([a,b,c,d,e,f,gg,h].map v32)):
 w.cell? ⟨g,0,none⟩=some (v32 a)/\w.cell? ⟨g,1,none⟩=some (v32 b)/\w.cell? ⟨g,2,none⟩=some (v32 c)/\w.cell? ⟨g,3,none⟩=some (v32 d)/\w.cell? ⟨g,4,none⟩=some (v32 e)/\w.cell? ⟨g,5,none⟩=some (v32 f)/\w.cell? ⟨g,6,none⟩=some (v32 gg)/\w.cell? ⟨g,7,none⟩=some (v32 h):=
 ⟨at_cell32 hA 0 (by simp),at_cell32 hA 1 (by simp),at_cell32 hA 2 (by simp),at_cell32 hA 3 (by simp),at_cell32 hA 4 (by simp),at_cell32 hA 5 (by simp),at_cell32 hA 6 (by simp),at_cell32 hA 7 (by simp)⟩
theorem rblock_any (s:List W)(zs:List Int)(gs cs gk:Nat)(p:Option Addr)(cap:Nat)(w:World)(hs:s.length=8)(hl:zs.length=64)(hz:∀n∈zs,0<=n/\n<=255)
 (hS:At w (some ⟨gs,0,none⟩) (s.map v32)) (hK:At w (some ⟨gk,0,none⟩) (kList.map v32)) (hA:At w p (zs.map v8)) (hcs:8<=cs):
 Calls Tryz.prog 126 #[.slice (some ⟨gs,0,none⟩) 8 cs,.slice (some ⟨gk,0,none⟩) 64 64,.slice p 64 cap] w
  fun e w'=>∃g c,e= .returned (.slice (some ⟨g,0,none⟩) 8 c)/\8<=c/\At w' (some ⟨g,0,none⟩) ((behindOf s kList zs).map v32)/\Below w.heap.size w w':=by
 have Hs:=Lib.hid hs
 have HS:=Lib.hid hS
 have HK:=Lib.hid hK
 have HA:=Lib.hid hA
 clear hs hS hK hA
 go_enter Tryz.func126,Tryz.ntmps126
 go_wp2_with fail
 refine(rwords_any zs p cap w hl hz HA.out).mono ?_
 rintro e w1 ⟨gw,cw,rfl,how,hb1⟩
 have HW:=Lib.hid (own_at_g32 how)
 have hs1:=hb1.size
 have hown0:=World.ownsRow_made (base:=w1.heap.size) (size:=1) (e:=151) w1 #[] 0 (Nat.le_refl _) (by decide) rfl
 have HO0:=Lib.hid hown0
 have HS1:=Lib.hid (HS.out.below hb1)
 have HK1:=Lib.hid (HK.out.below hb1)
 have HB1:=Lib.hid hb1
 clear how hown0 hb1
 go_wp2_with (at_builtin;refine wpList_app rfl (.tmp 19) (.tmp 20) 172 rfl w1.heap.size 151 Tryz.underlying172 word_info rfl _ 0 [] rfl HO0.out (some ⟨gs,0,none⟩) 8 cs (s.map v32) rfl (HS1.out.alloc _) (by simp[Hs.out]) (fun h=>by cases h) hcs (one32l _) (by omega) (by unfold maxLen;omega) (by simp) ?_;intro v2 w3 hown2 _ hb3 hs3 _;simp only[Nat.zero_add,List.nil_append]at hown2)
 obtain⟨gv,cv,rfl,hgv,hvc,hvm,hgs3⟩:=own_form hown2 (by omega)
 have hb13:Below w1.heap.size w1 w3:=((Below.refl w1.heap.size w1).alloc (Nat.le_refl _) _).trans hb3
 have HV:=Lib.hid (own_at_g32 hown2)
 have HS3:=Lib.hid (HS1.out.below hb13)
 have HK3:=Lib.hid (HK1.out.below hb13)
 have HW3:=Lib.hid (HW.out.below hb13)
 have HB3:=Lib.hid (HB1.out.trans (hb13.mono hs1))
 clear hown2 hb3 hb13 HO0 HS1 HK1 HW HB1
 obtain⟨a0,a1,a2,a3,a4,a5,a6,a7,hs8⟩:=eight s Hs.out
 obtain⟨r0,hr0⟩:∃r:R8,r=R8.get s:=⟨_,rfl⟩
 have Hr0:Hid (rounds kList (wordsOf zs) r0 0=⟨a0,a1,a2,a3,a4,a5,a6,a7⟩):=by show _=_;rw[Sha.rounds_zero,hr0,hs8,get_eight]
 have HR0:=Lib.hid hr0
 have HV8:Hid (At w3 (some ⟨gv,0,none⟩) ([a0,a1,a2,a3,a4,a5,a6,a7].map v32)):=by show At _ _ _;rw[<-hs8];exact HV.out
 clear hr0 hs8 HV
 go_loopw [8,9] (fun v i wr=>RRound (wordsOf zs) r0 w3 v i wr) (fun _ i _=>64 - (intOf i).toNat)
 case atStart=>exact⟨0,gv,cv,_,_,_,_,_,_,_,_,by omega,rfl,rfl,HV8,Hr0,Below.refl _ _⟩
 case round=>
  clear HV8 Hr0
  obtain⟨k,g,cc,a,b,c,d,e,f,gg,h,hk,rfl,rfl,HV,HR,HB⟩:=hrel
  by_cases hlt:k < 64
  ·obtain⟨c0,c1,c2,c3,c4,c5,c6,c7⟩:=at_eight HV.out
   have ck:=at_cell32 (HK3.out.below HB.out) k (by rw[kList_length];exact hlt)
   have cw':=at_cell32 (HW3.out.below HB.out) k (by rw[wordsOf_length];exact hlt)
   have HRS:=Lib.hid (Sha.rounds_succ kList (wordsOf zs) r0 k a b c d e f gg h _ _ HR.out rfl rfl)
   generalize kList.getD k 0=kx at *
   generalize(wordsOf zs).getD k 0=wx at *
   clear HV
   go_wp2_with fail
   go_quiet ((refine Calls.quiet_of_same (rturned_still _ _ _ (by omega))))
   have c0:(wr.drewN nq).cell? ⟨g,0,none⟩=some (v32 a):=c0
   have c1:(wr.drewN nq).cell? ⟨g,1,none⟩=some (v32 b):=c1
   have c2:(wr.drewN nq).cell? ⟨g,2,none⟩=some (v32 c):=c2
   have c3:(wr.drewN nq).cell? ⟨g,3,none⟩=some (v32 d):=c3
   have c4:(wr.drewN nq).cell? ⟨g,4,none⟩=some (v32 e):=c4
   have c5:(wr.drewN nq).cell? ⟨g,5,none⟩=some (v32 f):=c5
   have c6:(wr.drewN nq).cell? ⟨g,6,none⟩=some (v32 gg):=c6
   have c7:(wr.drewN nq).cell? ⟨g,7,none⟩=some (v32 h):=c7
   have ck:(wr.drewN nq).cell? ⟨gk,k,none⟩=some (v32 kx):=ck
   have cw':(wr.drewN nq).cell? ⟨gw,k,none⟩=some (v32 wx):=cw'
   have HB:Hid (Below w3.heap.size w3 (wr.drewN nq)):=below_drewN HB.out nq
   generalize wr.drewN nq=wa at *
   go_wp2_with fail
   go_quiet (fail)
   have c0:(wa.drewN nq).cell? ⟨g,0,none⟩=some (v32 a):=c0
   have c1:(wa.drewN nq).cell? ⟨g,1,none⟩=some (v32 b):=c1
   have c2:(wa.drewN nq).cell? ⟨g,2,none⟩=some (v32 c):=c2
   have c3:(wa.drewN nq).cell? ⟨g,3,none⟩=some (v32 d):=c3
   have c4:(wa.drewN nq).cell? ⟨g,4,none⟩=some (v32 e):=c4
   have c5:(wa.drewN nq).cell? ⟨g,5,none⟩=some (v32 f):=c5
   have c6:(wa.drewN nq).cell? ⟨g,6,none⟩=some (v32 gg):=c6
   have c7:(wa.drewN nq).cell? ⟨g,7,none⟩=some (v32 h):=c7
   have ck:(wa.drewN nq).cell? ⟨gk,k,none⟩=some (v32 kx):=ck
   have cw':(wa.drewN nq).cell? ⟨gw,k,none⟩=some (v32 wx):=cw'
   have HB:Hid (Below w3.heap.size w3 (wa.drewN nq)):=below_drewN HB.out nq
   generalize wa.drewN nq=wb at *
   go_wp2_with fail
   go_quiet (fail)
   have c0:(wb.drewN nq).cell? ⟨g,0,none⟩=some (v32 a):=c0
   have c1:(wb.drewN nq).cell? ⟨g,1,none⟩=some (v32 b):=c1
   have c2:(wb.drewN nq).cell? ⟨g,2,none⟩=some (v32 c):=c2
   have c3:(wb.drewN nq).cell? ⟨g,3,none⟩=some (v32 d):=c3
   have c4:(wb.drewN nq).cell? ⟨g,4,none⟩=some (v32 e):=c4
   have c5:(wb.drewN nq).cell? ⟨g,5,none⟩=some (v32 f):=c5
   have c6:(wb.drewN nq).cell? ⟨g,6,none⟩=some (v32 gg):=c6
   have c7:(wb.drewN nq).cell? ⟨g,7,none⟩=some (v32 h):=c7
   have ck:(wb.drewN nq).cell? ⟨gk,k,none⟩=some (v32 kx):=ck
   have cw':(wb.drewN nq).cell? ⟨gw,k,none⟩=some (v32 wx):=cw'
   have HB:Hid (Below w3.heap.size w3 (wb.drewN nq)):=below_drewN HB.out nq
   generalize wb.drewN nq=wc at *
   go_wp2_with fail
   go_quiet ((refine Calls.quiet_of_same (rturned_still _ _ _ (by omega))))
   have c0:(wc.drewN nq).cell? ⟨g,0,none⟩=some (v32 a):=c0
   have c1:(wc.drewN nq).cell? ⟨g,1,none⟩=some (v32 b):=c1
   have c2:(wc.drewN nq).cell? ⟨g,2,none⟩=some (v32 c):=c2
   have c3:(wc.drewN nq).cell? ⟨g,3,none⟩=some (v32 d):=c3
   have c4:(wc.drewN nq).cell? ⟨g,4,none⟩=some (v32 e):=c4
   have c5:(wc.drewN nq).cell? ⟨g,5,none⟩=some (v32 f):=c5
   have c6:(wc.drewN nq).cell? ⟨g,6,none⟩=some (v32 gg):=c6
   have c7:(wc.drewN nq).cell? ⟨g,7,none⟩=some (v32 h):=c7
   have ck:(wc.drewN nq).cell? ⟨gk,k,none⟩=some (v32 kx):=ck
   have cw':(wc.drewN nq).cell? ⟨gw,k,none⟩=some (v32 wx):=cw'
   have HB:Hid (Below w3.heap.size w3 (wc.drewN nq)):=below_drewN HB.out nq
   generalize wc.drewN nq=wd at *
   go_wp2_with fail
   go_quiet (fail)
   have c0:(wd.drewN nq).cell? ⟨g,0,none⟩=some (v32 a):=c0
   have c1:(wd.drewN nq).cell? ⟨g,1,none⟩=some (v32 b):=c1
   have c2:(wd.drewN nq).cell? ⟨g,2,none⟩=some (v32 c):=c2
   have c3:(wd.drewN nq).cell? ⟨g,3,none⟩=some (v32 d):=c3
   have c4:(wd.drewN nq).cell? ⟨g,4,none⟩=some (v32 e):=c4
   have c5:(wd.drewN nq).cell? ⟨g,5,none⟩=some (v32 f):=c5
   have c6:(wd.drewN nq).cell? ⟨g,6,none⟩=some (v32 gg):=c6
   have c7:(wd.drewN nq).cell? ⟨g,7,none⟩=some (v32 h):=c7
   have ck:(wd.drewN nq).cell? ⟨gk,k,none⟩=some (v32 kx):=ck
   have cw':(wd.drewN nq).cell? ⟨gw,k,none⟩=some (v32 wx):=cw'
   have HB:Hid (Below w3.heap.size w3 (wd.drewN nq)):=below_drewN HB.out nq
   generalize wd.drewN nq=we at *
   go_wp2_with fail
   refine region_tail 28 (by kernel_rfl) (by kernel_rfl) ?_
   simp only[List.take_succ_cons,List.take_zero,List.drop_succ_cons,List.drop_zero]
   repeat(go_big_quiet_step (fail))
   refine wpQuiet_nil ?_
   go_wp2_with fail
   go_roundw
   case rel=>
    refine⟨k+1,_,_,_,_,_,_,_,_,_,_,by omega,by go_num,rfl,?_,HRS.out,(HB.out.drew).alloc HB.out.size _⟩
    refine at_lit ?_
    simp only[List.map_cons,List.map_nil,U_add,BitVec.add_assoc]
   case measure=>simp[intOf];omega
  ·obtain rfl:k=64:=by omega
   have HAt:Hid (At wr (some ⟨g,0,none⟩) ([a,b,c,d,e,f,gg,h].map v32)):=HV
   have HS4:=Lib.hid (HS3.out.below HB.out)
   have HB4:=Lib.hid (HB3.out.trans (HB.out.mono HB3.out.size))
   have hfin:behindOf s kList zs=addUpto s [a,b,c,d,e,f,gg,h] 8:=by
    rw[behindOf_eq,<-HR0.out,HR.out];rfl
   obtain⟨out,hout⟩:∃l,l=behindOf s kList zs:=⟨_,rfl⟩
   rw[<-hout]at hfin
   have HOUT:=Lib.hid hout
   have hget:∀j,j < 8->out.getD j 0=s.getD j 0+([a,b,c,d,e,f,gg,h]:List W).getD j 0:=fun j hj=>by rw[hfin];exact add_get _ _ j hj Hs.out
   have hlen:out.length=8:=by rw[hfin,addUpto_length,Hs.out]
   obtain⟨V,hV⟩:∃V,V=([a,b,c,d,e,f,gg,h]:List W):=⟨_,rfl⟩
   have hVl:V.length=8:=by rw[hV];rfl
   rw[<-hV]at HAt hget
   have HG:=Lib.hid hget
   have HL:=Lib.hid hlen
   have HVl:=Lib.hid hVl
   clear hfin hout hget hlen hV hVl HV HR
   rw[show((64:Nat):Int)=(64:Int)from rfl]
   go_wp2_with fail
   have zz:=HB4.out.size
   obtain⟨wo,rfl⟩:∃wo:World,wo=wr:=⟨_,rfl⟩
   go_loopw [15,16] (fun v i wq=>∃(k:Nat) (v0:Value),k<=8/\i= .int .i64 k/\v0=v/\wq.ownsRow wo.heap.size 151 1 v0 k ((out.take k).map v32)/\Below wo.heap.size wo wq/\wo.heap.size<=wq.heap.size) (fun _ i _=>8 - (intOf i).toNat)
   case atStart=>exact⟨0,_,by omega,rfl,rfl,by rw[List.take_zero];exact World.ownsRow_nil _ _ _ _,Below.refl _ _,Nat.le_refl _⟩
   case round=>
    obtain⟨k,v0,hk,rfl,rfl,hown,hb,hs⟩:=hrel
    have HO:=Lib.hid hown
    clear hown
    by_cases hlt:k < 8
    ·have c0:=at_cell32 (HS4.out.below hb) k (by rw[Hs.out];exact hlt)
     have c1:=at_cell32 (HAt.out.below hb) k (by rw[HVl.out];exact hlt)
     have HT:=Lib.hid (take_next out k 0 _ (by rw[HL.out];omega) (HG.out k hlt).symm)
     generalize s.getD k 0=x0 at *
     generalize V.getD k 0=x1 at *
     obtain⟨i0,hi0,hz0,hz1,hz2⟩:=info_parts word_info
     have hB:=Lib.hid (And.intro hk (And.intro hs hlt))
     have q0:(k:Int) < (8:Int):=by omega
     have q1:(0:Int)<=(k:Int):=by omega
     go_wp2_with fail
     go_region_law ((refine step_append_lies _ (by rfl) _ _ _ (by rfl) wo.heap.size 151 i0 _ 1 4 Tryz.underlying172 hi0 hz0 hz1 hz2 rfl (by omega) v0 k _ (by rfl) ((HO.out.alloc _).drew) ⟨wr.heap.size,0,none⟩ 1 1 [_] (by rfl) (by rfl) (World.news_of_block (cs:=#[_]) (t:=151) (fr:=(0,0)) (heap_alloc_new wr _)) (by simp[Value.oneCell']) (by omega) (by unfold maxLen;omega) (by omega) (by simp;omega) (wr.heap.size+1) (by simp) ?_;intro ga cap w5 hown1 hgrow hat hlt5))
     all_goals
      go_wp2_with fail
      go_roundw
      case rel=>
       refine⟨k+1,_,by omega,by go_num,rfl,?_,(((hb.alloc hs _).drew).grown hgrow (by simp;omega) (fun j hj=>(HO.out.lt j hj).1)),by have:=hgrow.size;simp at this;omega⟩
       rw[HT.out,List.map_append,List.map_cons,List.map_nil]
       refine own_cast hown1 ?_
       unfold v32
       simp only[u32_wrap,BitVec.ofInt_add,ofInt_U]
      case measure=>simp[intOf];omega
    ·obtain rfl:k=8:=by omega
     obtain⟨ga,ca,rfl,_,hca,_,_⟩:=own_form HO.out (by omega)
     have HZ:Hid (out.take 8=out):=List.take_of_length_le (by rw[HL.out];omega)
     go_wp2_with fail
     go_ret
     refine⟨ga,ca,rfl,hca,?_,HB4.out.trans (hb.mono zz)⟩
     have:=own_at_g32 HO.out
     rwa [HZ.out,HOUT.out]at this
end
end Go.Proofs.YtokpabkcaofahaaGreat
