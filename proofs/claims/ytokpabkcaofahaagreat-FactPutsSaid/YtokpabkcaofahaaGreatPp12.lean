/-
  What stands under factPuts_holds: part 12.
-/
import Derived.Test.YtokpabkcaofahaaGreatPp5
import Derived.Test.YtokpabkcaofahaaGreatPp11
import Derived.Test.YtokpabkcaofahaaGreatPp7
import Derived.Deep.RegionHeld3
import Derived.Test.YtokpabkcaofahaaGreatPp1
import Derived.Test.YtokpabkcaofahaaGreatPp4
import Derived.Test.YtokpabkcaofahaaGreatRows
import Derived.Lib.OthersKept
import Derived.Deep.LoopGhost
import Derived.WalkSpells
import Derived.IntWalk
import Derived.WalkLawsBesides
import Derived.Test.YtokpabkcaofahaaGreatPp2
import Derived.Test.YtokpabkcaofahaaGreatPp3
namespace Go.Proofs.YtokpabkcaofahaaGreat
set_option linter.unusedSimpArgs false
set_option linter.unusedVariables false
set_option maxRecDepth 100000
set_option maxHeartbeats 20000000
section
open Go.RowKit Sha Fct
open Fld (Itm)
abbrev itz:Itm:=⟨0,[],Fld.zero32⟩
theorem item_zero1:(Tryz.prog.info? 83).map (fun i=>i.zero)=some (some (.agg (icells itz none 0).toArray)):=by unfold icells;kernel_rfl
theorem itz_ok:itz.ok:=(iN_good (World.settled Tryz.prog default) (n:=0) ⟨by omega,by omega⟩).ok
theorem item_sizeA {x:Itm}(hx:x.ok)(q:Option Addr)(c:Nat):(Tryz.prog.info? 83).map (fun i=>i.size)=some (icells x q c).toArray.size:=by
 rw[item_size,List.size_toArray,icells_length hx]
theorem item_sizeE {x y:Itm}(hx:x.ok)(hy:y.ok)(q r:Option Addr)(c d:Nat):(icells x q c).toArray.size=(icells y r d).toArray.size:=by
 rw[List.size_toArray,List.size_toArray,icells_length hx,icells_length hy]
theorem item_all1 (x:Itm)(q:Option Addr)(c:Nat):(icells x q c).toArray.all (·.oneCell')=true:=by
 rw[Array.all_eq_true_iff_forall_mem];intro v hv;exact icells_one x q c v (by simpa using hv)
theorem execOp_allocItem (ρ:Operand->Value)(dst:Option Tmp)(ty:TypeId)(pos:String)(after:Array Edge)(guard:Option (Nat×Bool)):
 execOp ρ {dst:=dst,op:=.alloc 83,type:=ty,pos:=pos,after:=after,guard:=guard}= allocOp 83:=by unfold allocOp;rfl
theorem execOp_storeItem (ρ:Operand->Value)(dst:Option Tmp)(x y:Operand)(ty:TypeId)(pos:String)(after:Array Edge)(guard:Option (Nat×Bool)):
 execOp ρ {dst:=dst,op:=.store 83 x y,type:=ty,pos:=pos,after:=after,guard:=guard}= storeOp 83 (ρ x) (ρ y):=by unfold storeOp;rfl
theorem execOp_boxItem (ρ:Operand->Value)(dst:Option Tmp)(x:Operand)(ty:TypeId)(pos:String)(after:Array Edge)(guard:Option (Nat×Bool)):
 execOp ρ {dst:=dst,op:=.box 83 x,type:=ty,pos:=pos,after:=after,guard:=guard}= boxOp 83 (ρ x):=by unfold boxOp;rfl
theorem alloc_item (w:World):(allocOp 83).run Tryz.prog w= .ok (.value (.pointer (some ⟨w.heap.size,0,none⟩))) (w.alloc (.cells (icells itz none 0).toArray 83)):=run_allocOp w item_zero1
theorem store_item1 (w:World) {x:Itm} {q:Option Addr} {c:Nat}(hx:x.ok):(storeOp 83 (.pointer (some ⟨w.heap.size,0,none⟩)) (.agg (icells x q c).toArray)).run Tryz.prog (w.alloc (.cells (icells itz none 0).toArray 83))= .ok .skip (w.alloc (.cells (icells x q c).toArray 83)):=
 run_storeNew w (item_sizeA hx q c) (item_sizeE itz_ok hx ..) (item_all1 ..)
def hdrOf (x:Fac)(q:Option Addr)(c:Nat)(l:Int):Hdr:=
 if l=115 then iNh x.S else if l=104 then iNh x.H else if l=110 then iNh x.N else if l=111 then iNh x.O else if l=105 then iDh x.D else(iB x.B,q,c)
def isHas (l:Int):Prop:=l=115\/l=104\/l=110\/l=111\/l=105\/l=99\/l=100
theorem hasL_is (k:Int):∀l∈hasL k,isHas l:=by
 intro l hl
 unfold hasL at hl
 (repeat' split at hl)<;>simp at hl<;>unfold isHas<;>omega
theorem hdrOf_map (x:Fac)(q:Option Addr)(c:Nat):(hasL x.K).map (hdrOf x q c)=itemsH x q c:=by
 unfold hasL itemsH
 (repeat' split)<;>simp[hdrOf]
theorem hdrOf_good {w:World} {x:Fac} {q:Option Addr} {c:Nat}(h:sF.Good w x q c)(l:Int):GoodI w (hdrOf x q c l).1 (hdrOf x q c l).2.1 (hdrOf x q c l).2.2:=by
 have gS:=iN_good w h.ok.S
 have gH:=iN_good w h.ok.H
 have gN:=iN_good w h.ok.N
 have gO:=iN_good w h.ok.O
 have gD:=iD_good w h.ok.D h.ok.len
 have gB:=iB_good h
 unfold hdrOf iNh iDh
 (repeat' split)<;>assumption
def IDone (y:Hdr)(w:World)(e:Ending)(w':World):Prop:=e= .returned (.agg (cellsI y).toArray)/\Below w.heap.size w w'
attribute [local go_sem ↓] execOp_boxFact execOp_loadId execOp_makeItem execOp_allocItem execOp_storeItem
theorem itemOf_S (x:Fac)(q:Option Addr)(c:Nat)(w:World)(h:sF.Good w x q c):
 Calls Tryz.prog 85 #[.agg (fcells x q c).toArray,.int .i32 115] w (IDone (iN x.S,none,0) w):=by
 have bx:=run_boxOp (P:=Tryz.prog) (t:=28) (cs:=(fcells x q c).toArray) w
 have hz1:(w.alloc (Obj.cells (fcells x q c).toArray 28)).heap.size=w.heap.size+1:=World.size_alloc ..
 have hy:(iN x.S:Itm).ok:=(hdrOf_good h 115).ok
 have st:=store_item1 (w.alloc (.cells (fcells x q c).toArray 28)) (x:=iN x.S) (q:=none) (c:=0) hy
 have al:=alloc_item (w.alloc (.cells (fcells x q c).toArray 28))
 have hb1:=(Below.refl w.heap.size w).alloc (Nat.le_refl _) (.cells (fcells x q c).toArray 28)
 have hk1:Blk (w.alloc (Obj.cells (fcells x q c).toArray 28)) w.heap.size (fcells x q c) 28:=Blk.new w (fcells x q c).toArray 28
 obtain⟨w1,hw1⟩:∃v,v=w.alloc (.cells (fcells x q c).toArray 28):=⟨_,rfl⟩
 rw[<-hw1]at bx st al hb1 hk1 hz1
 have HK:=Lib.hid (hk1.old (.cells (icells itz none 0).toArray 83))
 have hB:=Lib.hid (hb1.alloc (by omega) (.cells (icells (iN x.S) none 0).toArray 83))
 have hC:=Lib.hid (show Blk (w1.alloc (.cells (icells (iN x.S) none 0).toArray 83)) w1.heap.size (icells (iN x.S) none 0) 83 from Blk.new w1 _ 83)
 have HS:=Lib.hid (item_sizeA hy none 0)
 have HX:=Lib.hid h
 generalize w1.alloc (.cells (icells itz none 0).toArray 83)=w2 at *
 generalize w1.alloc (.cells (icells (iN x.S) none 0).toArray 83)=w3 at *
 clear hb1 hk1 hw1 h hy
 rw[hz1]at st al hC
 clear hz1
 have v0:w2.cell? ⟨w.heap.size,1,none⟩=some (.int .i64 x.S):=(HK.out.cell 1).trans (fcells_S x q c)
 have mk:=fun w=>make_iN x.S w
 go_enter Tryz.func85,Tryz.ntmps85
 go_wp2_with fail
 exact bodyPost_ret (v:=.agg (icells (iN x.S) none 0).toArray) (results_cell_row rfl _ _ _ _ _ _ _ rfl hC.out (Tryz.underlying83) rfl HS.out) rfl ⟨rfl,hB.out⟩
theorem itemOf_H (x:Fac)(q:Option Addr)(c:Nat)(w:World)(h:sF.Good w x q c):
 Calls Tryz.prog 85 #[.agg (fcells x q c).toArray,.int .i32 104] w (IDone (iN x.H,none,0) w):=by
 have bx:=run_boxOp (P:=Tryz.prog) (t:=28) (cs:=(fcells x q c).toArray) w
 have hz1:(w.alloc (Obj.cells (fcells x q c).toArray 28)).heap.size=w.heap.size+1:=World.size_alloc ..
 have hy:(iN x.H:Itm).ok:=(hdrOf_good h 104).ok
 have st:=store_item1 (w.alloc (.cells (fcells x q c).toArray 28)) (x:=iN x.H) (q:=none) (c:=0) hy
 have al:=alloc_item (w.alloc (.cells (fcells x q c).toArray 28))
 have hb1:=(Below.refl w.heap.size w).alloc (Nat.le_refl _) (.cells (fcells x q c).toArray 28)
 have hk1:Blk (w.alloc (Obj.cells (fcells x q c).toArray 28)) w.heap.size (fcells x q c) 28:=Blk.new w (fcells x q c).toArray 28
 obtain⟨w1,hw1⟩:∃v,v=w.alloc (.cells (fcells x q c).toArray 28):=⟨_,rfl⟩
 rw[<-hw1]at bx st al hb1 hk1 hz1
 have HK:=Lib.hid (hk1.old (.cells (icells itz none 0).toArray 83))
 have hB:=Lib.hid (hb1.alloc (by omega) (.cells (icells (iN x.H) none 0).toArray 83))
 have hC:=Lib.hid (show Blk (w1.alloc (.cells (icells (iN x.H) none 0).toArray 83)) w1.heap.size (icells (iN x.H) none 0) 83 from Blk.new w1 _ 83)
 have HS:=Lib.hid (item_sizeA hy none 0)
 have HX:=Lib.hid h
 generalize w1.alloc (.cells (icells itz none 0).toArray 83)=w2 at *
 generalize w1.alloc (.cells (icells (iN x.H) none 0).toArray 83)=w3 at *
 clear hb1 hk1 hw1 h hy
 rw[hz1]at st al hC
 clear hz1
 have v0:w2.cell? ⟨w.heap.size,2,none⟩=some (.int .i64 x.H):=(HK.out.cell 2).trans (fcells_H x q c)
 have mk:=fun w=>make_iN x.H w
 go_enter Tryz.func85,Tryz.ntmps85
 go_wp2_with fail
 exact bodyPost_ret (v:=.agg (icells (iN x.H) none 0).toArray) (results_cell_row rfl _ _ _ _ _ _ _ rfl hC.out (Tryz.underlying83) rfl HS.out) rfl ⟨rfl,hB.out⟩
theorem itemOf_N (x:Fac)(q:Option Addr)(c:Nat)(w:World)(h:sF.Good w x q c):
 Calls Tryz.prog 85 #[.agg (fcells x q c).toArray,.int .i32 110] w (IDone (iN x.N,none,0) w):=by
 have bx:=run_boxOp (P:=Tryz.prog) (t:=28) (cs:=(fcells x q c).toArray) w
 have hz1:(w.alloc (Obj.cells (fcells x q c).toArray 28)).heap.size=w.heap.size+1:=World.size_alloc ..
 have hy:(iN x.N:Itm).ok:=(hdrOf_good h 110).ok
 have st:=store_item1 (w.alloc (.cells (fcells x q c).toArray 28)) (x:=iN x.N) (q:=none) (c:=0) hy
 have al:=alloc_item (w.alloc (.cells (fcells x q c).toArray 28))
 have hb1:=(Below.refl w.heap.size w).alloc (Nat.le_refl _) (.cells (fcells x q c).toArray 28)
 have hk1:Blk (w.alloc (Obj.cells (fcells x q c).toArray 28)) w.heap.size (fcells x q c) 28:=Blk.new w (fcells x q c).toArray 28
 obtain⟨w1,hw1⟩:∃v,v=w.alloc (.cells (fcells x q c).toArray 28):=⟨_,rfl⟩
 rw[<-hw1]at bx st al hb1 hk1 hz1
 have HK:=Lib.hid (hk1.old (.cells (icells itz none 0).toArray 83))
 have hB:=Lib.hid (hb1.alloc (by omega) (.cells (icells (iN x.N) none 0).toArray 83))
 have hC:=Lib.hid (show Blk (w1.alloc (.cells (icells (iN x.N) none 0).toArray 83)) w1.heap.size (icells (iN x.N) none 0) 83 from Blk.new w1 _ 83)
 have HS:=Lib.hid (item_sizeA hy none 0)
 have HX:=Lib.hid h
 generalize w1.alloc (.cells (icells itz none 0).toArray 83)=w2 at *
 generalize w1.alloc (.cells (icells (iN x.N) none 0).toArray 83)=w3 at *
 clear hb1 hk1 hw1 h hy
 rw[hz1]at st al hC
 clear hz1
 have v0:w2.cell? ⟨w.heap.size,3,none⟩=some (.int .i64 x.N):=(HK.out.cell 3).trans (fcells_N x q c)
 have mk:=fun w=>make_iN x.N w
 go_enter Tryz.func85,Tryz.ntmps85
 go_wp2_with fail
 exact bodyPost_ret (v:=.agg (icells (iN x.N) none 0).toArray) (results_cell_row rfl _ _ _ _ _ _ _ rfl hC.out (Tryz.underlying83) rfl HS.out) rfl ⟨rfl,hB.out⟩
theorem itemOf_O (x:Fac)(q:Option Addr)(c:Nat)(w:World)(h:sF.Good w x q c):
 Calls Tryz.prog 85 #[.agg (fcells x q c).toArray,.int .i32 111] w (IDone (iN x.O,none,0) w):=by
 have bx:=run_boxOp (P:=Tryz.prog) (t:=28) (cs:=(fcells x q c).toArray) w
 have hz1:(w.alloc (Obj.cells (fcells x q c).toArray 28)).heap.size=w.heap.size+1:=World.size_alloc ..
 have hy:(iN x.O:Itm).ok:=(hdrOf_good h 111).ok
 have st:=store_item1 (w.alloc (.cells (fcells x q c).toArray 28)) (x:=iN x.O) (q:=none) (c:=0) hy
 have al:=alloc_item (w.alloc (.cells (fcells x q c).toArray 28))
 have hb1:=(Below.refl w.heap.size w).alloc (Nat.le_refl _) (.cells (fcells x q c).toArray 28)
 have hk1:Blk (w.alloc (Obj.cells (fcells x q c).toArray 28)) w.heap.size (fcells x q c) 28:=Blk.new w (fcells x q c).toArray 28
 obtain⟨w1,hw1⟩:∃v,v=w.alloc (.cells (fcells x q c).toArray 28):=⟨_,rfl⟩
 rw[<-hw1]at bx st al hb1 hk1 hz1
 have HK:=Lib.hid (hk1.old (.cells (icells itz none 0).toArray 83))
 have hB:=Lib.hid (hb1.alloc (by omega) (.cells (icells (iN x.O) none 0).toArray 83))
 have hC:=Lib.hid (show Blk (w1.alloc (.cells (icells (iN x.O) none 0).toArray 83)) w1.heap.size (icells (iN x.O) none 0) 83 from Blk.new w1 _ 83)
 have HS:=Lib.hid (item_sizeA hy none 0)
 have HX:=Lib.hid h
 generalize w1.alloc (.cells (icells itz none 0).toArray 83)=w2 at *
 generalize w1.alloc (.cells (icells (iN x.O) none 0).toArray 83)=w3 at *
 clear hb1 hk1 hw1 h hy
 rw[hz1]at st al hC
 clear hz1
 have v0:w2.cell? ⟨w.heap.size,4,none⟩=some (.int .i64 x.O):=(HK.out.cell 4).trans (fcells_O x q c)
 have mk:=fun w=>make_iN x.O w
 go_enter Tryz.func85,Tryz.ntmps85
 go_wp2_with fail
 exact bodyPost_ret (v:=.agg (icells (iN x.O) none 0).toArray) (results_cell_row rfl _ _ _ _ _ _ _ rfl hC.out (Tryz.underlying83) rfl HS.out) rfl ⟨rfl,hB.out⟩
theorem itemOf_D (x:Fac)(q:Option Addr)(c:Nat)(w:World)(h:sF.Good w x q c):
 Calls Tryz.prog 85 #[.agg (fcells x q c).toArray,.int .i32 105] w (IDone (iD x.D,none,0) w):=by
 have bx:=run_boxOp (P:=Tryz.prog) (t:=28) (cs:=(fcells x q c).toArray) w
 have hz1:(w.alloc (Obj.cells (fcells x q c).toArray 28)).heap.size=w.heap.size+1:=World.size_alloc ..
 have hy:(iD x.D:Itm).ok:=(hdrOf_good h 105).ok
 have st:=store_item1 (w.alloc (.cells (fcells x q c).toArray 28)) (x:=iD x.D) (q:=none) (c:=0) hy
 have al:=alloc_item (w.alloc (.cells (fcells x q c).toArray 28))
 have hb1:=(Below.refl w.heap.size w).alloc (Nat.le_refl _) (.cells (fcells x q c).toArray 28)
 have hk1:Blk (w.alloc (Obj.cells (fcells x q c).toArray 28)) w.heap.size (fcells x q c) 28:=Blk.new w (fcells x q c).toArray 28
 obtain⟨w1,hw1⟩:∃v,v=w.alloc (.cells (fcells x q c).toArray 28):=⟨_,rfl⟩
 rw[<-hw1]at bx st al hb1 hk1 hz1
 have HK:=Lib.hid (hk1.old (.cells (icells itz none 0).toArray 83))
 have hB:=Lib.hid (hb1.alloc (by omega) (.cells (icells (iD x.D) none 0).toArray 83))
 have hC:=Lib.hid (show Blk (w1.alloc (.cells (icells (iD x.D) none 0).toArray 83)) w1.heap.size (icells (iD x.D) none 0) 83 from Blk.new w1 _ 83)
 have HS:=Lib.hid (item_sizeA hy none 0)
 have HX:=Lib.hid h
 generalize w1.alloc (.cells (icells itz none 0).toArray 83)=w2 at *
 generalize w1.alloc (.cells (icells (iD x.D) none 0).toArray 83)=w3 at *
 clear hb1 hk1 hw1 h hy
 rw[hz1]at st al hC
 clear hz1
 have v0:(loadOp 25 (.pointer (some ⟨w.heap.size,5,none⟩))).run Tryz.prog w2= .ok (.value (.agg (x.D.map v8).toArray)) w2:=load_fid (o:=0) HX.out.ok.len HK.out.range
 have mk:=fun w=>make_iD x.D HX.out.ok.len w
 go_enter Tryz.func85,Tryz.ntmps85
 go_wp2_with fail
 exact bodyPost_ret (v:=.agg (icells (iD x.D) none 0).toArray) (results_cell_row rfl _ _ _ _ _ _ _ rfl hC.out (Tryz.underlying83) rfl HS.out) rfl ⟨rfl,hB.out⟩
theorem itemOf_B (x:Fac)(q:Option Addr)(c:Nat)(w:World)(h:sF.Good w x q c):
 Calls Tryz.prog 85 #[.agg (fcells x q c).toArray,.int .i32 99] w (IDone (iB x.B,q,c) w):=by
 have bx:=run_boxOp (P:=Tryz.prog) (t:=28) (cs:=(fcells x q c).toArray) w
 have hz1:(w.alloc (Obj.cells (fcells x q c).toArray 28)).heap.size=w.heap.size+1:=World.size_alloc ..
 have hy:(iB x.B:Itm).ok:=(hdrOf_good h 99).ok
 have st:=store_item1 (w.alloc (.cells (fcells x q c).toArray 28)) (x:=iB x.B) (q:=q) (c:=c) hy
 have al:=alloc_item (w.alloc (.cells (fcells x q c).toArray 28))
 have hb1:=(Below.refl w.heap.size w).alloc (Nat.le_refl _) (.cells (fcells x q c).toArray 28)
 have hk1:Blk (w.alloc (Obj.cells (fcells x q c).toArray 28)) w.heap.size (fcells x q c) 28:=Blk.new w (fcells x q c).toArray 28
 obtain⟨w1,hw1⟩:∃v,v=w.alloc (.cells (fcells x q c).toArray 28):=⟨_,rfl⟩
 rw[<-hw1]at bx st al hb1 hk1 hz1
 have HK:=Lib.hid (hk1.old (.cells (icells itz none 0).toArray 83))
 have hB:=Lib.hid (hb1.alloc (by omega) (.cells (icells (iB x.B) q c).toArray 83))
 have hC:=Lib.hid (show Blk (w1.alloc (.cells (icells (iB x.B) q c).toArray 83)) w1.heap.size (icells (iB x.B) q c) 83 from Blk.new w1 _ 83)
 have HS:=Lib.hid (item_sizeA hy q c)
 have HX:=Lib.hid h
 generalize w1.alloc (.cells (icells itz none 0).toArray 83)=w2 at *
 generalize w1.alloc (.cells (icells (iB x.B) q c).toArray 83)=w3 at *
 clear hb1 hk1 hw1 h hy
 rw[hz1]at st al hC
 clear hz1
 obtain⟨m,hm⟩:∃m,m=x.B.length:=⟨_,rfl⟩
 have v0:w2.cell? ⟨w.heap.size,37,none⟩=some (.slice q m c):=by rw[hm];exact(HK.out.cell 37).trans (fcells_B HX.out.ok.len q c)
 have mk:=fun w=>make_iB x.B q m c hm w
 clear hm
 go_enter Tryz.func85,Tryz.ntmps85
 go_wp2_with fail
 exact bodyPost_ret (v:=.agg (icells (iB x.B) q c).toArray) (results_cell_row rfl _ _ _ _ _ _ _ rfl hC.out (Tryz.underlying83) rfl HS.out) rfl ⟨rfl,hB.out⟩
theorem itemOf_B2 (x:Fac)(q:Option Addr)(c:Nat)(w:World)(h:sF.Good w x q c):
 Calls Tryz.prog 85 #[.agg (fcells x q c).toArray,.int .i32 100] w (IDone (iB x.B,q,c) w):=by
 have bx:=run_boxOp (P:=Tryz.prog) (t:=28) (cs:=(fcells x q c).toArray) w
 have hz1:(w.alloc (Obj.cells (fcells x q c).toArray 28)).heap.size=w.heap.size+1:=World.size_alloc ..
 have hy:(iB x.B:Itm).ok:=(hdrOf_good h 100).ok
 have st:=store_item1 (w.alloc (.cells (fcells x q c).toArray 28)) (x:=iB x.B) (q:=q) (c:=c) hy
 have al:=alloc_item (w.alloc (.cells (fcells x q c).toArray 28))
 have hb1:=(Below.refl w.heap.size w).alloc (Nat.le_refl _) (.cells (fcells x q c).toArray 28)
 have hk1:Blk (w.alloc (Obj.cells (fcells x q c).toArray 28)) w.heap.size (fcells x q c) 28:=Blk.new w (fcells x q c).toArray 28
 obtain⟨w1,hw1⟩:∃v,v=w.alloc (.cells (fcells x q c).toArray 28):=⟨_,rfl⟩
 rw[<-hw1]at bx st al hb1 hk1 hz1
 have HK:=Lib.hid (hk1.old (.cells (icells itz none 0).toArray 83))
 have hB:=Lib.hid (hb1.alloc (by omega) (.cells (icells (iB x.B) q c).toArray 83))
 have hC:=Lib.hid (show Blk (w1.alloc (.cells (icells (iB x.B) q c).toArray 83)) w1.heap.size (icells (iB x.B) q c) 83 from Blk.new w1 _ 83)
 have HS:=Lib.hid (item_sizeA hy q c)
 have HX:=Lib.hid h
 generalize w1.alloc (.cells (icells itz none 0).toArray 83)=w2 at *
 generalize w1.alloc (.cells (icells (iB x.B) q c).toArray 83)=w3 at *
 clear hb1 hk1 hw1 h hy
 rw[hz1]at st al hC
 clear hz1
 obtain⟨m,hm⟩:∃m,m=x.B.length:=⟨_,rfl⟩
 have v0:w2.cell? ⟨w.heap.size,37,none⟩=some (.slice q m c):=by rw[hm];exact(HK.out.cell 37).trans (fcells_B HX.out.ok.len q c)
 have mk:=fun w=>make_iB x.B q m c hm w
 clear hm
 go_enter Tryz.func85,Tryz.ntmps85
 go_wp2_with fail
 exact bodyPost_ret (v:=.agg (icells (iB x.B) q c).toArray) (results_cell_row rfl _ _ _ _ _ _ _ rfl hC.out (Tryz.underlying83) rfl HS.out) rfl ⟨rfl,hB.out⟩
theorem itemOf_any (x:Fac)(q:Option Addr)(c:Nat)(l:Int)(hl:isHas l)(w:World)(h:sF.Good w x q c):
 Calls Tryz.prog 85 #[.agg (fcells x q c).toArray,.int .i32 l] w (IDone (hdrOf x q c l) w):=by
 rcases hl with rfl | rfl | rfl | rfl | rfl | rfl | rfl
 ·exact itemOf_S x q c w h
 ·exact itemOf_H x q c w h
 ·exact itemOf_N x q c w h
 ·exact itemOf_O x q c w h
 ·exact itemOf_D x q c w h
 ·exact itemOf_B x q c w h
 ·exact itemOf_B2 x q c w h
end
section
open Go.RowKit Sha Fct
open Fld (Itm)
def inB (l:Int)(y:Itm):Bool:=
 if l=115\/l=110 then decide (1<=y.N/\y.N<=2147483647)else if l=104\/l=111 then decide (1<=y.N/\y.N<=64)else
 if l=99 then decide (y.B.length<=1024)else if l=100 then decide (y.B.length<=4000)else true
attribute [local go_sem ↓] execOp_boxItem execOp_loadId execOp_storeInt execOp_storeId execOp_storeBytes
theorem within_115y (y:Itm)(q:Option Addr)(c:Nat)(w:World)(h:1<=y.N):
 Calls Tryz.prog 114 #[.int .i32 115,.agg (icells y q c).toArray] w fun e w'=>e= .returned (.bool (decide (y.N<=2147483647)))/\Below w.heap.size w w':=by
 have bx:=run_boxOp (P:=Tryz.prog) (t:=83) (cs:=(icells y q c).toArray) w
 have hB:=Lib.hid ((Below.refl w.heap.size w).alloc (Nat.le_refl _) (.cells (icells y q c).toArray 83))
 have HK:=Lib.hid (show Blk (w.alloc (Obj.cells (icells y q c).toArray 83)) w.heap.size (icells y q c) 83 from Blk.new w (icells y q c).toArray 83)
 generalize w.alloc (.cells (icells y q c).toArray 83)=w1 at *
 have v0:w1.cell? ⟨w.heap.size,0,none⟩=some (.int .i64 y.N):=(HK.out.cell 0).trans (icells_0 y q c)
 have hd:decide (1<=y.N)=true:=by simpa using h
 clear h
 go_enter Tryz.func114,Tryz.ntmps114
 go_wp2_with fail
 go_ret
 exact⟨rfl,hB.out⟩
theorem within_115n (y:Itm)(q:Option Addr)(c:Nat)(w:World)(h:¬1<=y.N):
 Calls Tryz.prog 114 #[.int .i32 115,.agg (icells y q c).toArray] w fun e w'=>e= .returned (.bool false)/\Below w.heap.size w w':=by
 have bx:=run_boxOp (P:=Tryz.prog) (t:=83) (cs:=(icells y q c).toArray) w
 have hB:=Lib.hid ((Below.refl w.heap.size w).alloc (Nat.le_refl _) (.cells (icells y q c).toArray 83))
 have HK:=Lib.hid (show Blk (w.alloc (Obj.cells (icells y q c).toArray 83)) w.heap.size (icells y q c) 83 from Blk.new w (icells y q c).toArray 83)
 generalize w.alloc (.cells (icells y q c).toArray 83)=w1 at *
 have v0:w1.cell? ⟨w.heap.size,0,none⟩=some (.int .i64 y.N):=(HK.out.cell 0).trans (icells_0 y q c)
 have hd:decide (1<=y.N)=false:=by simpa using h
 clear h
 go_enter Tryz.func114,Tryz.ntmps114
 go_wp2_with fail
 go_ret
 exact⟨rfl,hB.out⟩
theorem within_110y (y:Itm)(q:Option Addr)(c:Nat)(w:World)(h:1<=y.N):
 Calls Tryz.prog 114 #[.int .i32 110,.agg (icells y q c).toArray] w fun e w'=>e= .returned (.bool (decide (y.N<=2147483647)))/\Below w.heap.size w w':=by
 have bx:=run_boxOp (P:=Tryz.prog) (t:=83) (cs:=(icells y q c).toArray) w
 have hB:=Lib.hid ((Below.refl w.heap.size w).alloc (Nat.le_refl _) (.cells (icells y q c).toArray 83))
 have HK:=Lib.hid (show Blk (w.alloc (Obj.cells (icells y q c).toArray 83)) w.heap.size (icells y q c) 83 from Blk.new w (icells y q c).toArray 83)
 generalize w.alloc (.cells (icells y q c).toArray 83)=w1 at *
 have v0:w1.cell? ⟨w.heap.size,0,none⟩=some (.int .i64 y.N):=(HK.out.cell 0).trans (icells_0 y q c)
 have hd:decide (1<=y.N)=true:=by simpa using h
 clear h
 go_enter Tryz.func114,Tryz.ntmps114
 go_wp2_with fail
 go_ret
 exact⟨rfl,hB.out⟩
theorem within_110n (y:Itm)(q:Option Addr)(c:Nat)(w:World)(h:¬1<=y.N):
 Calls Tryz.prog 114 #[.int .i32 110,.agg (icells y q c).toArray] w fun e w'=>e= .returned (.bool false)/\Below w.heap.size w w':=by
 have bx:=run_boxOp (P:=Tryz.prog) (t:=83) (cs:=(icells y q c).toArray) w
 have hB:=Lib.hid ((Below.refl w.heap.size w).alloc (Nat.le_refl _) (.cells (icells y q c).toArray 83))
 have HK:=Lib.hid (show Blk (w.alloc (Obj.cells (icells y q c).toArray 83)) w.heap.size (icells y q c) 83 from Blk.new w (icells y q c).toArray 83)
 generalize w.alloc (.cells (icells y q c).toArray 83)=w1 at *
 have v0:w1.cell? ⟨w.heap.size,0,none⟩=some (.int .i64 y.N):=(HK.out.cell 0).trans (icells_0 y q c)
 have hd:decide (1<=y.N)=false:=by simpa using h
 clear h
 go_enter Tryz.func114,Tryz.ntmps114
 go_wp2_with fail
 go_ret
 exact⟨rfl,hB.out⟩
theorem within_104y (y:Itm)(q:Option Addr)(c:Nat)(w:World)(h:1<=y.N):
 Calls Tryz.prog 114 #[.int .i32 104,.agg (icells y q c).toArray] w fun e w'=>e= .returned (.bool (decide (y.N<=64)))/\Below w.heap.size w w':=by
 have bx:=run_boxOp (P:=Tryz.prog) (t:=83) (cs:=(icells y q c).toArray) w
 have hB:=Lib.hid ((Below.refl w.heap.size w).alloc (Nat.le_refl _) (.cells (icells y q c).toArray 83))
 have HK:=Lib.hid (show Blk (w.alloc (Obj.cells (icells y q c).toArray 83)) w.heap.size (icells y q c) 83 from Blk.new w (icells y q c).toArray 83)
 generalize w.alloc (.cells (icells y q c).toArray 83)=w1 at *
 have v0:w1.cell? ⟨w.heap.size,0,none⟩=some (.int .i64 y.N):=(HK.out.cell 0).trans (icells_0 y q c)
 have hd:decide (1<=y.N)=true:=by simpa using h
 clear h
 go_enter Tryz.func114,Tryz.ntmps114
 go_wp2_with fail
 go_ret
 exact⟨rfl,hB.out⟩
theorem within_104n (y:Itm)(q:Option Addr)(c:Nat)(w:World)(h:¬1<=y.N):
 Calls Tryz.prog 114 #[.int .i32 104,.agg (icells y q c).toArray] w fun e w'=>e= .returned (.bool false)/\Below w.heap.size w w':=by
 have bx:=run_boxOp (P:=Tryz.prog) (t:=83) (cs:=(icells y q c).toArray) w
 have hB:=Lib.hid ((Below.refl w.heap.size w).alloc (Nat.le_refl _) (.cells (icells y q c).toArray 83))
 have HK:=Lib.hid (show Blk (w.alloc (Obj.cells (icells y q c).toArray 83)) w.heap.size (icells y q c) 83 from Blk.new w (icells y q c).toArray 83)
 generalize w.alloc (.cells (icells y q c).toArray 83)=w1 at *
 have v0:w1.cell? ⟨w.heap.size,0,none⟩=some (.int .i64 y.N):=(HK.out.cell 0).trans (icells_0 y q c)
 have hd:decide (1<=y.N)=false:=by simpa using h
 clear h
 go_enter Tryz.func114,Tryz.ntmps114
 go_wp2_with fail
 go_ret
 exact⟨rfl,hB.out⟩
theorem within_111y (y:Itm)(q:Option Addr)(c:Nat)(w:World)(h:1<=y.N):
 Calls Tryz.prog 114 #[.int .i32 111,.agg (icells y q c).toArray] w fun e w'=>e= .returned (.bool (decide (y.N<=64)))/\Below w.heap.size w w':=by
 have bx:=run_boxOp (P:=Tryz.prog) (t:=83) (cs:=(icells y q c).toArray) w
 have hB:=Lib.hid ((Below.refl w.heap.size w).alloc (Nat.le_refl _) (.cells (icells y q c).toArray 83))
 have HK:=Lib.hid (show Blk (w.alloc (Obj.cells (icells y q c).toArray 83)) w.heap.size (icells y q c) 83 from Blk.new w (icells y q c).toArray 83)
 generalize w.alloc (.cells (icells y q c).toArray 83)=w1 at *
 have v0:w1.cell? ⟨w.heap.size,0,none⟩=some (.int .i64 y.N):=(HK.out.cell 0).trans (icells_0 y q c)
 have hd:decide (1<=y.N)=true:=by simpa using h
 clear h
 go_enter Tryz.func114,Tryz.ntmps114
 go_wp2_with fail
 go_ret
 exact⟨rfl,hB.out⟩
theorem within_111n (y:Itm)(q:Option Addr)(c:Nat)(w:World)(h:¬1<=y.N):
 Calls Tryz.prog 114 #[.int .i32 111,.agg (icells y q c).toArray] w fun e w'=>e= .returned (.bool false)/\Below w.heap.size w w':=by
 have bx:=run_boxOp (P:=Tryz.prog) (t:=83) (cs:=(icells y q c).toArray) w
 have hB:=Lib.hid ((Below.refl w.heap.size w).alloc (Nat.le_refl _) (.cells (icells y q c).toArray 83))
 have HK:=Lib.hid (show Blk (w.alloc (Obj.cells (icells y q c).toArray 83)) w.heap.size (icells y q c) 83 from Blk.new w (icells y q c).toArray 83)
 generalize w.alloc (.cells (icells y q c).toArray 83)=w1 at *
 have v0:w1.cell? ⟨w.heap.size,0,none⟩=some (.int .i64 y.N):=(HK.out.cell 0).trans (icells_0 y q c)
 have hd:decide (1<=y.N)=false:=by simpa using h
 clear h
 go_enter Tryz.func114,Tryz.ntmps114
 go_wp2_with fail
 go_ret
 exact⟨rfl,hB.out⟩
theorem within_99 (y:Itm)(q:Option Addr)(c m:Nat)(w:World)(hm:m=y.B.length):
 Calls Tryz.prog 114 #[.int .i32 99,.agg (icells y q c).toArray] w fun e w'=>e= .returned (.bool (decide ((m:Int)<=1024)))/\Below w.heap.size w w':=by
 have bx:=run_boxOp (P:=Tryz.prog) (t:=83) (cs:=(icells y q c).toArray) w
 have hB:=Lib.hid ((Below.refl w.heap.size w).alloc (Nat.le_refl _) (.cells (icells y q c).toArray 83))
 have HK:=Lib.hid (show Blk (w.alloc (Obj.cells (icells y q c).toArray 83)) w.heap.size (icells y q c) 83 from Blk.new w (icells y q c).toArray 83)
 generalize w.alloc (.cells (icells y q c).toArray 83)=w1 at *
 have v0:w1.cell? ⟨w.heap.size,1,none⟩=some (.slice q m c):=by rw[hm];exact(HK.out.cell 1).trans (icells_1 y q c)
 clear hm
 go_enter Tryz.func114,Tryz.ntmps114
 go_wp2_with fail
 go_ret
 exact⟨rfl,hB.out⟩
theorem within_100 (y:Itm)(q:Option Addr)(c m:Nat)(w:World)(hm:m=y.B.length):
 Calls Tryz.prog 114 #[.int .i32 100,.agg (icells y q c).toArray] w fun e w'=>e= .returned (.bool (decide ((m:Int)<=4000)))/\Below w.heap.size w w':=by
 have bx:=run_boxOp (P:=Tryz.prog) (t:=83) (cs:=(icells y q c).toArray) w
 have hB:=Lib.hid ((Below.refl w.heap.size w).alloc (Nat.le_refl _) (.cells (icells y q c).toArray 83))
 have HK:=Lib.hid (show Blk (w.alloc (Obj.cells (icells y q c).toArray 83)) w.heap.size (icells y q c) 83 from Blk.new w (icells y q c).toArray 83)
 generalize w.alloc (.cells (icells y q c).toArray 83)=w1 at *
 have v0:w1.cell? ⟨w.heap.size,1,none⟩=some (.slice q m c):=by rw[hm];exact(HK.out.cell 1).trans (icells_1 y q c)
 clear hm
 go_enter Tryz.func114,Tryz.ntmps114
 go_wp2_with fail
 go_ret
 exact⟨rfl,hB.out⟩
theorem within_105 (y:Itm)(q:Option Addr)(c:Nat)(w:World):
 Calls Tryz.prog 114 #[.int .i32 105,.agg (icells y q c).toArray] w fun e w'=>e= .returned (.bool true)/\Below w.heap.size w w':=by
 have bx:=run_boxOp (P:=Tryz.prog) (t:=83) (cs:=(icells y q c).toArray) w
 have hB:=Lib.hid ((Below.refl w.heap.size w).alloc (Nat.le_refl _) (.cells (icells y q c).toArray 83))
 have HK:=Lib.hid (show Blk (w.alloc (Obj.cells (icells y q c).toArray 83)) w.heap.size (icells y q c) 83 from Blk.new w (icells y q c).toArray 83)
 generalize w.alloc (.cells (icells y q c).toArray 83)=w1 at *
 go_enter Tryz.func114,Tryz.ntmps114
 go_wp2_with fail
 go_ret
 exact⟨rfl,hB.out⟩
theorem within_any (l:Int)(hl:isHas l)(y:Itm)(q:Option Addr)(c:Nat)(w:World):
 Calls Tryz.prog 114 #[.int .i32 l,.agg (icells y q c).toArray] w fun e w'=>e= .returned (.bool (inB l y))/\Below w.heap.size w w':=by
 rcases hl with rfl | rfl | rfl | rfl | rfl | rfl | rfl
 ·by_cases h:1<=y.N
  ·exact(within_115y y q c w h).mono fun e w' ⟨he,hb⟩=>⟨by rw[he];simp[inB,h],hb⟩
  ·exact(within_115n y q c w h).mono fun e w' ⟨he,hb⟩=>⟨by rw[he];simp[inB,h],hb⟩
 ·by_cases h:1<=y.N
  ·exact(within_104y y q c w h).mono fun e w' ⟨he,hb⟩=>⟨by rw[he];simp[inB,h],hb⟩
  ·exact(within_104n y q c w h).mono fun e w' ⟨he,hb⟩=>⟨by rw[he];simp[inB,h],hb⟩
 ·by_cases h:1<=y.N
  ·exact(within_110y y q c w h).mono fun e w' ⟨he,hb⟩=>⟨by rw[he];simp[inB,h],hb⟩
  ·exact(within_110n y q c w h).mono fun e w' ⟨he,hb⟩=>⟨by rw[he];simp[inB,h],hb⟩
 ·by_cases h:1<=y.N
  ·exact(within_111y y q c w h).mono fun e w' ⟨he,hb⟩=>⟨by rw[he];simp[inB,h],hb⟩
  ·exact(within_111n y q c w h).mono fun e w' ⟨he,hb⟩=>⟨by rw[he];simp[inB,h],hb⟩
 ·exact(within_105 y q c w).mono fun e w' ⟨he,hb⟩=>⟨by rw[he];simp[inB],hb⟩
 ·exact(within_99 y q c _ w rfl).mono fun e w' ⟨he,hb⟩=>⟨by rw[he];simp[inB];omega,hb⟩
 ·exact(within_100 y q c _ w rfl).mono fun e w' ⟨he,hb⟩=>⟨by rw[he];simp[inB];omega,hb⟩
def layF (z:Fac)(l:Int)(y:Itm):Fac:=
 if l=115 then {z with S:=y.N} else if l=104 then {z with H:=y.N} else if l=110 then {z with N:=y.N} else if l=111 then {z with O:=y.N} else
 if l=105 then {z with D:=y.D} else if l=99 then {z with D:=Sha.sum y.B,B:=y.B} else {z with B:=y.B}
def layQ {α:Type}(l:Int)(a b:α):α:=if l=99\/l=100 then b else a
theorem layF_ok {z:Fac}(hz:z.ok) {y:Itm}(hy:y.ok)(l:Int):(layF z l y).ok:=by
 have hN:fit y.N:=⟨hy.1,hy.2⟩
 unfold layF
 (repeat' split)
 ·exact⟨hz.K,hN,hz.H,hz.N,hz.O,hz.D,hz.B,hz.len⟩
 ·exact⟨hz.K,hz.S,hN,hz.N,hz.O,hz.D,hz.B,hz.len⟩
 ·exact⟨hz.K,hz.S,hz.H,hN,hz.O,hz.D,hz.B,hz.len⟩
 ·exact⟨hz.K,hz.S,hz.H,hz.N,hN,hz.D,hz.B,hz.len⟩
 ·exact⟨hz.K,hz.S,hz.H,hz.N,hz.O,hy.D,hz.B,hy.len⟩
 ·exact⟨hz.K,hz.S,hz.H,hz.N,hz.O,sum8 _,hy.B,sum32 _⟩
 ·exact⟨hz.K,hz.S,hz.H,hz.N,hz.O,hz.D,hy.B,hz.len⟩
theorem stF_N (z:Fac)(q:Option Addr)(c:Nat)(n:Int)(hz:z.D.length=32):StF 3 3 (.int .i64 n) z q c {z with N:=n} q c:=stF_one int_size1 rfl rfl hz (by omega) rfl
theorem stF_O (z:Fac)(q:Option Addr)(c:Nat)(n:Int)(hz:z.D.length=32):StF 3 4 (.int .i64 n) z q c {z with O:=n} q c:=stF_one int_size1 rfl rfl hz (by omega) rfl
def LyDone (g:Nat)(z:Fac)(q:Option Addr)(c:Nat)(w:World)(e:Ending)(w':World):Prop:=e= .returned (.tuple #[])/\Blk w' g (fcells z q c) 28/\Touch [g] w w'
theorem lay_115 (g:Nat)(z:Fac)(q:Option Addr)(c:Nat)(y:Itm)(p:Option Addr)(d:Nat)(w:World)(hg:Blk w g (fcells z q c) 28)(hz:z.D.length=32)(hy:y.ok):
 Calls Tryz.prog 115 #[.pointer (some ⟨g,0,none⟩),.int .i32 115,.agg (icells y p d).toArray] w (LyDone g {z with S:=y.N} q c w):=by
 have bx:=run_boxOp (P:=Tryz.prog) (t:=83) (cs:=(icells y p d).toArray) w
 have hT:=Lib.hid (Touch.of_below (fp:=[g]) ((Below.refl w.heap.size w).alloc (Nat.le_refl _) (.cells (icells y p d).toArray 83)))
 have HK:=Lib.hid (show Blk (w.alloc (Obj.cells (icells y p d).toArray 83)) w.heap.size (icells y p d) 83 from Blk.new w (icells y p d).toArray 83)
 have HG:=Lib.hid (hg.old (.cells (icells y p d).toArray 83))
 generalize w.alloc (.cells (icells y p d).toArray 83)=w1 at *
 have v0:w1.cell? ⟨w.heap.size,0,none⟩=some (.int .i64 y.N):=(HK.out.cell 0).trans (icells_0 y p d)
 obtain⟨w2,sr,hk2,ht2⟩:=(stF_S z q c y.N hz).run HG.out
 have HK2:=Lib.hid hk2
 have HT2:=Lib.hid (hT.out.trans ht2 (From.refl _ _))
 clear hk2 ht2 hz hy hg
 go_enter Tryz.func115,Tryz.ntmps115
 go_wp2_with fail
 go_end0
 exact⟨rfl,HK2.out,HT2.out⟩
theorem lay_104 (g:Nat)(z:Fac)(q:Option Addr)(c:Nat)(y:Itm)(p:Option Addr)(d:Nat)(w:World)(hg:Blk w g (fcells z q c) 28)(hz:z.D.length=32)(hy:y.ok):
 Calls Tryz.prog 115 #[.pointer (some ⟨g,0,none⟩),.int .i32 104,.agg (icells y p d).toArray] w (LyDone g {z with H:=y.N} q c w):=by
 have bx:=run_boxOp (P:=Tryz.prog) (t:=83) (cs:=(icells y p d).toArray) w
 have hT:=Lib.hid (Touch.of_below (fp:=[g]) ((Below.refl w.heap.size w).alloc (Nat.le_refl _) (.cells (icells y p d).toArray 83)))
 have HK:=Lib.hid (show Blk (w.alloc (Obj.cells (icells y p d).toArray 83)) w.heap.size (icells y p d) 83 from Blk.new w (icells y p d).toArray 83)
 have HG:=Lib.hid (hg.old (.cells (icells y p d).toArray 83))
 generalize w.alloc (.cells (icells y p d).toArray 83)=w1 at *
 have v0:w1.cell? ⟨w.heap.size,0,none⟩=some (.int .i64 y.N):=(HK.out.cell 0).trans (icells_0 y p d)
 obtain⟨w2,sr,hk2,ht2⟩:=(stF_H z q c y.N hz).run HG.out
 have HK2:=Lib.hid hk2
 have HT2:=Lib.hid (hT.out.trans ht2 (From.refl _ _))
 clear hk2 ht2 hz hy hg
 go_enter Tryz.func115,Tryz.ntmps115
 go_wp2_with fail
 go_end0
 exact⟨rfl,HK2.out,HT2.out⟩
theorem lay_110 (g:Nat)(z:Fac)(q:Option Addr)(c:Nat)(y:Itm)(p:Option Addr)(d:Nat)(w:World)(hg:Blk w g (fcells z q c) 28)(hz:z.D.length=32)(hy:y.ok):
 Calls Tryz.prog 115 #[.pointer (some ⟨g,0,none⟩),.int .i32 110,.agg (icells y p d).toArray] w (LyDone g {z with N:=y.N} q c w):=by
 have bx:=run_boxOp (P:=Tryz.prog) (t:=83) (cs:=(icells y p d).toArray) w
 have hT:=Lib.hid (Touch.of_below (fp:=[g]) ((Below.refl w.heap.size w).alloc (Nat.le_refl _) (.cells (icells y p d).toArray 83)))
 have HK:=Lib.hid (show Blk (w.alloc (Obj.cells (icells y p d).toArray 83)) w.heap.size (icells y p d) 83 from Blk.new w (icells y p d).toArray 83)
 have HG:=Lib.hid (hg.old (.cells (icells y p d).toArray 83))
 generalize w.alloc (.cells (icells y p d).toArray 83)=w1 at *
 have v0:w1.cell? ⟨w.heap.size,0,none⟩=some (.int .i64 y.N):=(HK.out.cell 0).trans (icells_0 y p d)
 obtain⟨w2,sr,hk2,ht2⟩:=(stF_N z q c y.N hz).run HG.out
 have HK2:=Lib.hid hk2
 have HT2:=Lib.hid (hT.out.trans ht2 (From.refl _ _))
 clear hk2 ht2 hz hy hg
 go_enter Tryz.func115,Tryz.ntmps115
 go_wp2_with fail
 go_end0
 exact⟨rfl,HK2.out,HT2.out⟩
theorem lay_111 (g:Nat)(z:Fac)(q:Option Addr)(c:Nat)(y:Itm)(p:Option Addr)(d:Nat)(w:World)(hg:Blk w g (fcells z q c) 28)(hz:z.D.length=32)(hy:y.ok):
 Calls Tryz.prog 115 #[.pointer (some ⟨g,0,none⟩),.int .i32 111,.agg (icells y p d).toArray] w (LyDone g {z with O:=y.N} q c w):=by
 have bx:=run_boxOp (P:=Tryz.prog) (t:=83) (cs:=(icells y p d).toArray) w
 have hT:=Lib.hid (Touch.of_below (fp:=[g]) ((Below.refl w.heap.size w).alloc (Nat.le_refl _) (.cells (icells y p d).toArray 83)))
 have HK:=Lib.hid (show Blk (w.alloc (Obj.cells (icells y p d).toArray 83)) w.heap.size (icells y p d) 83 from Blk.new w (icells y p d).toArray 83)
 have HG:=Lib.hid (hg.old (.cells (icells y p d).toArray 83))
 generalize w.alloc (.cells (icells y p d).toArray 83)=w1 at *
 have v0:w1.cell? ⟨w.heap.size,0,none⟩=some (.int .i64 y.N):=(HK.out.cell 0).trans (icells_0 y p d)
 obtain⟨w2,sr,hk2,ht2⟩:=(stF_O z q c y.N hz).run HG.out
 have HK2:=Lib.hid hk2
 have HT2:=Lib.hid (hT.out.trans ht2 (From.refl _ _))
 clear hk2 ht2 hz hy hg
 go_enter Tryz.func115,Tryz.ntmps115
 go_wp2_with fail
 go_end0
 exact⟨rfl,HK2.out,HT2.out⟩
theorem lay_105 (g:Nat)(z:Fac)(q:Option Addr)(c:Nat)(y:Itm)(p:Option Addr)(d:Nat)(w:World)(hg:Blk w g (fcells z q c) 28)(hz:z.D.length=32)(hy:y.ok):
 Calls Tryz.prog 115 #[.pointer (some ⟨g,0,none⟩),.int .i32 105,.agg (icells y p d).toArray] w (LyDone g {z with D:=y.D} q c w):=by
 have bx:=run_boxOp (P:=Tryz.prog) (t:=83) (cs:=(icells y p d).toArray) w
 have hT:=Lib.hid (Touch.of_below (fp:=[g]) ((Below.refl w.heap.size w).alloc (Nat.le_refl _) (.cells (icells y p d).toArray 83)))
 have HK:=Lib.hid (show Blk (w.alloc (Obj.cells (icells y p d).toArray 83)) w.heap.size (icells y p d) 83 from Blk.new w (icells y p d).toArray 83)
 have HG:=Lib.hid (hg.old (.cells (icells y p d).toArray 83))
 generalize w.alloc (.cells (icells y p d).toArray 83)=w1 at *
 have v0:(loadOp 25 (.pointer (some ⟨w.heap.size,2,none⟩))).run Tryz.prog w1= .ok (.value (.agg (y.D.map v8).toArray)) w1:=load_id (o:=0) hy HK.out.range
 obtain⟨w2,sr,hk2,ht2⟩:=(stF_D z q c y.D hz hy.len).run HG.out
 have HK2:=Lib.hid hk2
 have HT2:=Lib.hid (hT.out.trans ht2 (From.refl _ _))
 clear hk2 ht2 hz hy hg
 go_enter Tryz.func115,Tryz.ntmps115
 go_wp2_with fail
 go_end0
 exact⟨rfl,HK2.out,HT2.out⟩
theorem lay_100 (g:Nat)(z:Fac)(q:Option Addr)(c:Nat)(y:Itm)(p:Option Addr)(d:Nat)(w:World)(hg:Blk w g (fcells z q c) 28)(hz:z.D.length=32)(hy:y.ok):
 Calls Tryz.prog 115 #[.pointer (some ⟨g,0,none⟩),.int .i32 100,.agg (icells y p d).toArray] w (LyDone g {z with B:=y.B} p d w):=by
 have bx:=run_boxOp (P:=Tryz.prog) (t:=83) (cs:=(icells y p d).toArray) w
 have hT:=Lib.hid (Touch.of_below (fp:=[g]) ((Below.refl w.heap.size w).alloc (Nat.le_refl _) (.cells (icells y p d).toArray 83)))
 have HK:=Lib.hid (show Blk (w.alloc (Obj.cells (icells y p d).toArray 83)) w.heap.size (icells y p d) 83 from Blk.new w (icells y p d).toArray 83)
 have HG:=Lib.hid (hg.old (.cells (icells y p d).toArray 83))
 generalize w.alloc (.cells (icells y p d).toArray 83)=w1 at *
 obtain⟨m,hm⟩:∃m,m=y.B.length:=⟨_,rfl⟩
 have v0:w1.cell? ⟨w.heap.size,1,none⟩=some (.slice p m d):=by rw[hm];exact(HK.out.cell 1).trans (icells_1 y p d)
 obtain⟨w2,sr,hk2,ht2⟩:=(stF_B z q c y.B m hm p d hz).run HG.out
 clear hm
 have HK2:=Lib.hid hk2
 have HT2:=Lib.hid (hT.out.trans ht2 (From.refl _ _))
 clear hk2 ht2 hz hy hg
 go_enter Tryz.func115,Tryz.ntmps115
 go_wp2_with fail
 go_end0
 exact⟨rfl,HK2.out,HT2.out⟩
theorem setD {w:World} {g:Nat} {z:Fac} {q:Option Addr} {c:Nat} {D:List Int}(hb:Blk w g (fcells z q c) 28)(hz:z.D.length=32)(hD:D.length=32):
 w.there g 5 (D.map v8).length/\Blk (w.setCells g 5 (D.map v8)) g (fcells {z with D:=D} q c) 28/\Touch [g] w (w.setCells g 5 (D.map v8)):=by
 refine⟨hb.there 5 _ (by rw[fcells_length hz];simp[hD]),?_,?_⟩
 ·have e:∀(z:Fac),fcells z q c= [i64c z.K,i64c z.S,i64c z.H,i64c z.N,i64c z.O]++z.D.map v8++[.slice q z.B.length c]:=fun z=>by unfold fcells;simp
  rw[e]at hb ⊢
  exact Blk.setCells (D.map v8) 5 w _ (z.D.map v8) _ hb rfl (by simp[hz,hD])
 ·have h:=setCells_below (a:=w) (B:=g) (Nat.le_refl _) (D.map v8) 5 w (Below.refl _ _)
  exact⟨h.os,h.tape,h.output,h.size,fun k hk hn=>setCells_heap g _ 5 w k (by simpa using hn)⟩
theorem sum_cells (b:List Int):∀v∈(Sha.sum b).map v8,v.oneCell'=true:=v8_cells
theorem sum_len8 (b:List Int):(Tryz.prog.info? 25).map (fun x=>x.size)=some ((Sha.sum b).map v8).length:=by rw[id_size,List.length_map,sum32]
theorem lay_99 (g:Nat)(z:Fac)(q:Option Addr)(c:Nat)(y:Itm)(p:Option Addr)(d:Nat)(w:World)(hg:Blk w g (fcells z q c) 28)(hz:z.D.length=32)(hy:GoodI w y p d)(hgy:OutOf g y.B p):
 Calls Tryz.prog 115 #[.pointer (some ⟨g,0,none⟩),.int .i32 99,.agg (icells y p d).toArray] w (LyDone g {z with D:=Sha.sum y.B,B:=y.B} p d w):=by
 have bx:=run_boxOp (P:=Tryz.prog) (t:=83) (cs:=(icells y p d).toArray) w
 have hb1:=(Below.refl w.heap.size w).alloc (Nat.le_refl _) (.cells (icells y p d).toArray 83)
 have HB1:=Lib.hid hb1
 have HK:=Lib.hid (show Blk (w.alloc (Obj.cells (icells y p d).toArray 83)) w.heap.size (icells y p d) 83 from Blk.new w (icells y p d).toArray 83)
 have HG:=Lib.hid (hg.old (.cells (icells y p d).toArray 83))
 have HY:=Lib.hid (hy.below hb1)
 clear hb1
 generalize w.alloc (.cells (icells y p d).toArray 83)=w1 at *
 obtain⟨m,hm⟩:∃m,m=y.B.length:=⟨_,rfl⟩
 obtain⟨b,hb⟩:∃b,b=w.heap.size:=⟨_,rfl⟩
 have hne:b≠g:=by have:=hg.lt;omega
 have hlt1:b < w1.heap.size:=by rw[hb];exact HK.out.lt
 rw[<-hb]at bx HK
 have v1:w1.cell? ⟨b,1,none⟩=some (.slice p m d):=by rw[hm];exact(HK.out.cell 1).trans (icells_1 y p d)
 have HM:=Lib.hid hm
 have HZ:=Lib.hid hz
 have HN:=Lib.hid hne
 have HL:=Lib.hid hlt1
 have HBE:=Lib.hid hb
 have g1:=sum_cells y.B
 have g2:=sum_len8 y.B
 clear hm hz hy hg hgy hb hne hlt1
 go_enter Tryz.func115,Tryz.ntmps115
 go_wp2_with fail
 go_region_held3 (fun w'=>w'.cell? ⟨b,1,none⟩=some (.slice p m d))
  (first | exact v1 | exact v2 | exact v3 | exact v4)
  ((first
    | (go_at_call 73;rw[HM.out];refine(sum_any y.B p d _ HY.out.ok.B (HY.out.at_.below (Below.refl _ _).drew) HY.out.le HY.out.nil HY.out.max).mono ?_;rintro e w2 ⟨rfl,hb2⟩;rw[<-HM.out];(have HB2:=Lib.hid (show Below w1.heap.size w1 w2 from(Below.refl _ w1).drew.trans hb2));clear hb2;(have v2:w2.cell? ⟨b,1,none⟩=some (.slice p m d):=(HB2.out.cell (p:=⟨b,1,none⟩) HL.out).trans v1);(obtain⟨th3,hk3,ht3⟩:=setD (HG.out.below HB2.out HG.out.lt) HZ.out (sum32 y.B));(obtain⟨w4,sr4,hk4,ht4⟩:=(stF_B {z with D:=Sha.sum y.B} q c y.B m HM.out p d (sum32 _)).run hk3);(have v3:(w2.setCells g 5 ((Sha.sum y.B).map v8)).cell? ⟨b,1,none⟩=some (.slice p m d):=(World.cell?_of_block (w:=w2) (a:=⟨b,1,none⟩) (ht3.block b (Nat.lt_of_lt_of_le HL.out HB2.out.size) (by simpa using HN.out))).trans v2);(have v4:w4.cell? ⟨b,1,none⟩=some (.slice p m d):=(World.cell?_of_block (w:=w2.setCells g 5 ((Sha.sum y.B).map v8)) (a:=⟨b,1,none⟩) (ht4.block b (Nat.lt_of_lt_of_le HL.out (Nat.le_trans HB2.out.size ht3.size)) (by simpa using HN.out))).trans v3);(have HK4:=Lib.hid hk4);(have HT4:=Lib.hid (show Touch [g] w w4 from((Touch.of_below (fp:=[g]) (HB1.out.trans (HB2.out.mono HB1.out.size))).trans ht3 (From.refl _ _)).trans ht4 (From.refl _ _)));clear hk3 ht3 hk4 ht4)))
 all_goals(go_wp2_with fail;go_end0)
 all_goals exact⟨rfl,HK4.out,HT4.out⟩
theorem lay_any (l:Int)(hl:isHas l)(g:Nat)(z:Fac)(q:Option Addr)(c:Nat)(y:Itm)(p:Option Addr)(d:Nat)(w:World)(hg:Blk w g (fcells z q c) 28)(hz:z.D.length=32)(hy:GoodI w y p d)(hgy:OutOf g y.B p):
 Calls Tryz.prog 115 #[.pointer (some ⟨g,0,none⟩),.int .i32 l,.agg (icells y p d).toArray] w (LyDone g (layF z l y) (layQ l q p) (layQ l c d) w):=by
 rcases hl with rfl | rfl | rfl | rfl | rfl | rfl | rfl
 ·exact lay_115 g z q c y p d w hg hz hy.ok
 ·exact lay_104 g z q c y p d w hg hz hy.ok
 ·exact lay_110 g z q c y p d w hg hz hy.ok
 ·exact lay_111 g z q c y p d w hg hz hy.ok
 ·exact lay_105 g z q c y p d w hg hz hy.ok
 ·exact lay_99 g z q c y p d w hg hz hy hgy
 ·exact lay_100 g z q c y p d w hg hz hy.ok
end
section
open Go.RowKit Sha
theorem fnums_get (s:ByteArray)(k:Nat)(h:k < s.size):(nums s)[k]? = some ((s[k]'h).toNat:Int):=by
 unfold nums
 rw[List.getElem?_map,Array.getElem?_toList,Array.getElem?_eq_getElem (by exact h)]
 rfl
theorem nums_drop (s:ByteArray)(k:Nat)(h:k < s.size):(nums s).drop k=((s[k]'h).toNat:Int)::(nums s).drop (k+1):=by
 have hl:k < (nums s).length:=by rw[nums_length];exact h
 have:=fnums_get s k h
 rw[List.getElem?_eq_getElem hl]at this
 rw[List.drop_eq_getElem_cons hl,Option.some.inj this]
theorem chkL_no {c:Int} {r:List Int} {o k:Bool}(h1:c≠110)(h2:c≠98)(h3:c≠100)(h4:¬(c=40/\o=false))(h5:¬(c=41/\o=true/\k=true)):Fld.chkL (c::r) o k=false:=by
 unfold Fld.chkL
 rw[if_neg (by omega),if_neg h4,if_neg h5]
structure NextL (P:Program)(s:ByteArray)(k k':Nat)(c:Int):Prop where
 run:∀(w:World) (g:Nat) (ty:TypeId),w.heap[g]? = some (.stringIter s k)->(Instr.next (.pointer (some ⟨g,0,none⟩)) true ty).run P w= .ok (.tuple #[.bool true,.int .i64 k,.int .i32 c]) (w.iterAt g s k')
 lt:k < k'
 c0:0<=c
 is:(c < 128/\k'=k+1/\(nums s).drop k=c::(nums s).drop (k+1))\/(128<=c/\∃d,128<=d/\(nums s).drop k=d::(nums s).drop (k+1))
theorem next_of (P:Program)(s:ByteArray)(k:Nat)(h:k < s.size):∃c k',NextL P s k k' c:=by
 by_cases ha:(s[k]'h).toNat < 128
 ·refine⟨((s[k]'h).toNat:Int),k+1,fun w g ty hg=>Lib.run_next_ascii_at w g s k ty hg h ha,by omega,by omega,Or.inl ⟨by omega,rfl,nums_drop s k h⟩⟩
 ·have hd:=decode_high s k h (by omega)
  exact⟨((Utf8.decode s k).1:Int),k+(Utf8.decode s k).2,fun w g ty hg=>Lib.run_next_any_at w g s k ty hg h,by omega,by omega,Or.inr ⟨by omega,_,by omega,nums_drop s k h⟩⟩
theorem chk_le (s:ByteArray)(h:s.size<=40):Fld.chk (nums s)=Fld.chkL (nums s) false false:=by
 unfold Fld.chk;rw[nums_length];simp;intro _;exact h
theorem chk_gt (s:ByteArray)(h:40 < s.size):Fld.chk (nums s)=false:=by
 unfold Fld.chk;rw[nums_length];simp;intro h';omega
theorem chkL_letter {c:Int} {r:List Int} {o k:Bool}(h:c=110\/c=98\/c=100):Fld.chkL (c::r) o k=Fld.chkL r o true:=by
 rw[Fld.chkL,if_pos h]
theorem chkL_open {r:List Int} {k:Bool}:Fld.chkL (40::r) false k=Fld.chkL r true false:=by
 rw[Fld.chkL,if_neg (by omega),if_pos ⟨rfl,rfl⟩]
theorem chkL_close {r:List Int}:Fld.chkL (41::r) true true=Fld.chkL r false true:=by
 rw[Fld.chkL,if_neg (by omega),if_neg (by simp),if_pos ⟨rfl,rfl,rfl⟩]
structure ChkRel (s:ByteArray)(w:World)(ob:Bool)(m k:Nat):Prop where
 le:m<=k
 chk:Fld.chkL (nums s) false false=Fld.chkL ((nums s).drop k) ob (decide (0 < m))
theorem iterPos_of' {w:World} {k:Nat} {s:ByteArray} {p:Nat}(h:w.heap[k]? = some (.stringIter s p)):w.iterPos k=p:=by simp[World.iterPos,h]
theorem iterPos_at {w:World} {k:Nat} {s:ByteArray} {p p':Nat}(h:w.heap[k]? = some (.stringIter s p)):(w.iterAt k s p').iterPos k=p':=iterPos_of' (Lib.iterAt_heap w k s p p' h)
theorem check_any (s:ByteArray)(w:World)(hs:s.size<=maxLen):
 Calls Tryz.prog 82 #[.string s] w fun e w'=>e= .returned (.int .i64 (Fld.chkE (nums s)))/\Below w.heap.size w w':=by
 unfold maxLen at hs
 by_cases hlt:40 < s.size
 ·have HR:=Lib.hid (Fld.chkE_no (chk_gt s hlt))
  go_enter Tryz.func82,Tryz.ntmps82
  go_wp2_with fail
  go_ret
  exact⟨ret_int HR.out.symm,Below.refl _ _⟩
 ·have HC:=Lib.hid (chk_le s (by omega))
  go_enter Tryz.func82,Tryz.ntmps82
  go_wp2_with fail
  go_loopw [3,4] (fun o n wr=>∃(k m:Nat) (ob:Bool),k<=s.size/\wr.heap[w.heap.size]? = some (.stringIter s k)/\Below w.heap.size w wr/\o= .bool ob/\n= .int .i64 m/\ChkRel s w ob m k) (fun _ _ wr=>s.size - wr.iterPos w.heap.size)
  case atStart=>exact⟨0,0,false,by omega,World.iter_heap w s 0,(Below.refl _ w).alloc (by simp) _,rfl,rfl,by omega,by simp⟩
  case round=>
   obtain⟨k,m,ob,hk,hit,hb,rfl,rfl,hr⟩:=hrel
   have hm:=hr.le
   have HR:=Lib.hid hr.chk
   have HI:=Lib.hid hit
   clear hr hit
   by_cases hp:k < s.size
   ·obtain⟨c,k',hn⟩:=next_of Tryz.prog s k hp
    have hlt':=hn.lt
    have c0:=hn.c0
    have hnx:=fun ty=>hn.run wr w.heap.size ty HI.out
    rcases hn.is with⟨c1,rfl,hd⟩ | ⟨c1,d,hd1,hd⟩
    ·clear hn
     have HD:=Lib.hid hd
     clear hd
     by_cases hL:c=110\/c=98\/c=100
     ·have HN:=Lib.hid (HR.out.trans (by rw[HD.out];exact chkL_letter hL:_=Fld.chkL ((nums s).drop (k+1)) ob true))
      rcases hL with rfl | rfl | rfl
      all_goals
       go_wp2_with fail
       go_roundw
       case rel=>exact⟨k+1,m+1,ob,by omega,Lib.iterAt_heap _ _ _ _ _ HI.out,Lib.below_iterAt hb (Nat.le_refl _) _ _,rfl,by go_num,by omega,by rw[HN.out];simp⟩
       case measure=>rw[iterPos_at HI.out,iterPos_of' HI.out];omega
     ·by_cases h40:c=40
      ·subst h40
       clear hL
       cases ob with
       | false=>
          have HN:=Lib.hid (HR.out.trans (by rw[HD.out];exact chkL_open:_=Fld.chkL ((nums s).drop (k+1)) true false))
          go_wp2_with fail
          go_roundw
          case rel=>exact⟨k+1,0,true,by omega,Lib.iterAt_heap _ _ _ _ _ HI.out,Lib.below_iterAt hb (Nat.le_refl _) _ _,rfl,rfl,by omega,by rw[HN.out];simp⟩
          case measure=>rw[iterPos_at HI.out,iterPos_of' HI.out];omega
       | true=>
          have HE:=Lib.hid (Fld.chkE_no (HC.out.trans (HR.out.trans (by rw[HD.out];exact chkL_no (by omega) (by omega) (by omega) (by simp) (by simp)))))
          go_wp2_with fail
          go_ret
          exact⟨ret_int HE.out.symm,Lib.below_iterAt hb (Nat.le_refl _) _ _⟩
      ·by_cases h41:c=41
       ·subst h41
        clear hL h40
        cases ob with
        | false=>
           have HE:=Lib.hid (Fld.chkE_no (HC.out.trans (HR.out.trans (by rw[HD.out];exact chkL_no (by omega) (by omega) (by omega) (by simp) (by simp)))))
           go_wp2_with fail
           go_ret
           exact⟨ret_int HE.out.symm,Lib.below_iterAt hb (Nat.le_refl _) _ _⟩
        | true=>
           by_cases h0:0 < m
           ·have HN:=Lib.hid (HR.out.trans (by rw[HD.out,decide_eq_true h0];exact chkL_close:_=Fld.chkL ((nums s).drop (k+1)) false true))
            go_wp2_with fail
            go_roundw
            case rel=>exact⟨k+1,m,false,by omega,Lib.iterAt_heap _ _ _ _ _ HI.out,Lib.below_iterAt hb (Nat.le_refl _) _ _,rfl,rfl,by omega,by rw[HN.out,decide_eq_true h0]⟩
            case measure=>rw[iterPos_at HI.out,iterPos_of' HI.out];omega
           ·have HE:=Lib.hid (Fld.chkE_no (HC.out.trans (HR.out.trans (by rw[HD.out,decide_eq_false h0];exact chkL_no (by omega) (by omega) (by omega) (by simp) (by simp)))))
            go_wp2_with fail
            go_ret
            exact⟨ret_int HE.out.symm,Lib.below_iterAt hb (Nat.le_refl _) _ _⟩
       ·have HE:=Lib.hid (Fld.chkE_no (HC.out.trans (HR.out.trans (by rw[HD.out];exact chkL_no (by omega) (by omega) (by omega) (by omega) (by omega)))))
        have t1:(c == 110)=false:=by rw[beq_eq_false_iff_ne];omega
        have t2:(c == 98)=false:=by rw[beq_eq_false_iff_ne];omega
        have t3:(c == 100)=false:=by rw[beq_eq_false_iff_ne];omega
        have t4:(c == 40)=false:=by rw[beq_eq_false_iff_ne];omega
        have t5:(c == 41)=false:=by rw[beq_eq_false_iff_ne];omega
        clear hL h40 h41
        go_wp2_with fail
        go_ret
        exact⟨ret_int HE.out.symm,Lib.below_iterAt hb (Nat.le_refl _) _ _⟩
    ·clear hn
     have HE:=Lib.hid (Fld.chkE_no (HC.out.trans (HR.out.trans (by rw[hd];exact chkL_no (by omega) (by omega) (by omega) (by omega) (by omega)))))
     have t1:(c == 110)=false:=by rw[beq_eq_false_iff_ne];omega
     have t2:(c == 98)=false:=by rw[beq_eq_false_iff_ne];omega
     have t3:(c == 100)=false:=by rw[beq_eq_false_iff_ne];omega
     have t4:(c == 40)=false:=by rw[beq_eq_false_iff_ne];omega
     have t5:(c == 41)=false:=by rw[beq_eq_false_iff_ne];omega
     clear hd hd1
     go_wp2_with fail
     go_ret
     exact⟨ret_int HE.out.symm,Lib.below_iterAt hb (Nat.le_refl _) _ _⟩
   ·obtain rfl:k=s.size:=by omega
    have hnx:=fun ty=>Lib.run_next_end_at (P:=Tryz.prog) wr w.heap.size s s.size ty HI.out (by omega)
    have HD:=Lib.hid (show(nums s).drop s.size= [] by rw[<-nums_length,List.drop_length])
    cases ob with
    | false=>
       have HE:=Lib.hid (Fld.chkE_ok (HC.out.trans (HR.out.trans (by rw[HD.out];rfl))))
       go_wp2_with fail
       go_ret
       exact⟨ret_int HE.out.symm,hb⟩
    | true=>
       have HE:=Lib.hid (Fld.chkE_no (HC.out.trans (HR.out.trans (by rw[HD.out];rfl))))
       go_wp2_with fail
       go_ret
       exact⟨ret_int HE.out.symm,hb⟩
end
section
open Go.RowKit Sha
open Fld (Itm)
section
variable {w w':World} {B g ga n size:Nat} {e t:TypeId} {v u:Value} {xs cs:List Value}
theorem own_kind (h:w.ownsRow B e size v n xs):∀k,v.ownBlock=some k->∃c fz,w.heap[k]? = some (.cells c e fz):=by
 intro k hk
 rcases h.2 with⟨hv,_⟩ | ⟨g,cap,cur,hv,_,hh,_⟩
 ·rw[hv]at hk;cases hk
 ·rw[hv]at hk;cases hk;exact⟨_,_,hh⟩
theorem own_ne (h:w.ownsRow B e size v n xs)(hb:Blk w ga cs t)(hne:e≠t):v.ownBlock≠some ga:=by
 intro hk
 obtain⟨c,fz,hc⟩:=own_kind h ga hk
 unfold Blk at hb
 rw[hb]at hc
 cases hc
 exact hne rfl
theorem own_carry (h:w.ownsRow B e size v n xs)(hc:∀k c fz,v.ownBlock=some k->w.heap[k]? = some (.cells c e fz)->w'.heap[k]? = some (.cells c e fz)):w'.ownsRow B e size v n xs:=by
 refine⟨h.1,?_⟩
 rcases h.2 with h | ⟨g,cap,cur,hv,hg,hh,h4⟩
 ·exact Or.inl h
 ·exact Or.inr ⟨g,cap,cur,hv,hg,hc g _ _ (by rw[hv];rfl) hh,h4⟩
theorem own_set (h:w.ownsRow B e size v n xs)(hb:Blk w ga cs t)(hne:e≠t)(i:Nat)(u:Value):(w.setCell ⟨ga,i,none⟩ u).ownsRow B e size v n xs:=
 own_carry h fun k c fz hk hh=>by
  rw[Below.heap_setCell _ _ _ _ (fun e1=>own_ne h hb hne (by rw[hk];exact congrArg some e1))];exact hh
theorem own8_set (h:Own8 w B e v n xs)(hb:Blk w ga cs t)(hne:e≠t)(i:Nat)(u:Value):Own8 (w.setCell ⟨ga,i,none⟩ u) B e v n xs:=
 ⟨own_set h.row hb hne i u,h.ints.carry fun g hg=>Below.heap_setCell _ _ _ _ (fun e1=>own_ne h.row hb hne (by rw[hg];exact congrArg some e1))⟩
theorem own8_carry (h:Own8 w B e v n xs)(hc:∀k c fz,v.ownBlock=some k->w.heap[k]? = some (.cells c e fz)->w'.heap[k]? = some (.cells c e fz)):Own8 w' B e v n xs:=
 ⟨own_carry h.row hc,h.ints.carry fun g hg=>by obtain⟨c,fz,hh⟩:=own_kind h.row g hg;rw[hc g c fz hg hh,hh]⟩
theorem Own8.drew (h:Own8 w B e v n xs):Own8 w.drew B e v n xs:=⟨h.row.drew,h.ints.carry fun _ _=>rfl⟩
theorem Blk.grow (hb:Blk w ga cs t) {row:Option Nat}(hg:w.grownBy w' row)(hne:row≠some ga):Blk w' ga cs t:=by
 unfold Blk at *
 rw[hg.block ga (Blk.lt hb) (fun e=>hne e.symm)];exact hb
theorem others_set {a:World}(h:Lib.OthersKept e (some ga) a w)(i:Nat)(u:Value):Lib.OthersKept e (some ga) a (w.setCell ⟨ga,i,none⟩ u):=h.setCell _ rfl u
end
def CellsKept (w w':World):Prop:=w.heap.size<=w'.heap.size/\∀(k:Nat)(c:Array Value)(e:TypeId)(fz:Nat×Nat),w.heap[k]? = some (Obj.cells c e fz)->w'.heap[k]? = some (Obj.cells c e fz)
structure WMem (B ga:Nat)(L v:Value)(out:List Int)(w:World):Prop where
 blk:Blk w ga [L,v] 121
 own:Own8 w B 5 v out.length (out.map v8)
 base:B<=ga
 size:B<=w.heap.size
theorem WMem.carry {B ga:Nat} {L v:Value} {out:List Int} {w w':World}(h:WMem B ga L v out w)(hc:CellsKept w w'):WMem B ga L v out w':=
 ⟨hc.2 _ _ _ _ h.blk,own8_carry h.own fun k c fz _ hh=>hc.2 _ _ _ _ hh,h.base,Nat.le_trans h.size hc.1⟩
theorem w_ne:(5:TypeId)≠121:=by decide
theorem WMem.grow {B ga:Nat} {L v:Value} {out:List Int} {w w':World} {o:Obj}(h:WMem B ga L v out w)(hg:(w.alloc o).grownBy w' v.ownBlock):Blk w' ga [L,v] 121:=
 (h.blk.old o).grow hg (own_ne (h.own.alloc o).row (h.blk.old o) w_ne)
theorem WMem.grow0 {B ga:Nat} {L v:Value} {out:List Int} {w w':World}(h:WMem B ga L v out w)(hg:w.grownBy w' v.ownBlock):Blk w' ga [L,v] 121:=
 h.blk.grow hg (own_ne h.own.row h.blk w_ne)
theorem WMem.others {B ga:Nat} {L v:Value} {out:List Int} {a w w':World} {o:Obj}(h:WMem B ga L v out w)(hO:Lib.OthersKept 5 (some ga) a w)(hg:(w.alloc o).grownBy w' v.ownBlock):Lib.OthersKept 5 (some ga) a w':=
 (hO.alloc o).grown hg (own_kind (h.own.alloc o).row)
theorem WMem.others0 {B ga:Nat} {L v:Value} {out:List Int} {a w w':World}(h:WMem B ga L v out w)(hO:Lib.OthersKept 5 (some ga) a w)(hg:w.grownBy w' v.ownBlock):Lib.OthersKept 5 (some ga) a w':=
 hO.grown hg (own_kind h.own.row)
def WDone (B ga:Nat)(L:Value)(out:List Int)(ret:Value)(w:World)(e:Ending)(w':World):Prop:=
 e= .returned ret/\∃v,WMem B ga L v out w'/\Below B w w'/\Lib.OthersKept 5 (some ga) w w'
theorem num_next {cur out:List Int} {k n:Nat}(h:cur++Fld.num k=out++Fld.num n)(hk:128<=k):(cur++[((k % 128+128:Nat):Int)])++Fld.num (k / 128)=out++Fld.num n:=by
 rw[<-h,Fld.num_ge hk];simp
theorem num_last {cur out:List Int} {k n:Nat}(h:cur++Fld.num k=out++Fld.num n)(hk:k < 128):cur++[(k:Int)] = out++Fld.num n:=by
 rw[<-h,Fld.num_lt hk]
theorem wnum_any (B ga:Nat)(L v:Value)(out:List Int)(n:Nat)(w:World)(h:WMem B ga L v out w)(hn:n<=9223372036854775807)(hm:out.length<=1000000000):
 Calls Tryz.prog 119 #[.pointer (some ⟨ga,0,none⟩),.int .i64 n] w (WDone B ga L (out++Fld.num n) (.tuple #[]) w):=by
 have HW:=Lib.hid h
 clear h
 go_enter Tryz.func119,Tryz.ntmps119
 go_wp2_with fail
 go_loopw [1] (fun i wr=>∃(k:Nat) (cur:List Int) (v:Value),i= .int .i64 k/\k<=n/\Hid (cur++Fld.num k=out++Fld.num n)/\Hid (WMem B ga L v cur wr)/\Hid (Below B w wr)/\Hid (Lib.OthersKept 5 (some ga) w wr)) (fun i _=>(intOf i).toNat)
 case atStart=>exact⟨n,out,v,rfl,Nat.le_refl _,rfl,HW,Below.refl _ _,Lib.OthersKept.refl _ _ _⟩
 case round=>
  obtain⟨k,cur,v,rfl,hk,HE,HM,HB,HO⟩:=hrel
  have hcl:cur.length<=1000000009:=by
   have h1:=congrArg List.length HE.out
   have h2:=Fld.num_len n (by rw[show(128:Nat) ^ 9=9223372036854775808 by decide];omega)
   simp at h1;omega
  have c1:wr.cell? ⟨ga,1,none⟩=some v:=HM.out.blk.cell 1
  have f1:wr.frozen? ⟨ga,1,none⟩=false:=HM.out.blk.free 1
  have s1:=HM.out.size
  by_cases hge:128<=k
  ·have HN:=Lib.hid (num_next HE.out hge)
   go_wp2_with (at_builtin;refine wpList_app8 rfl (.tmp 10) (.tmp 15) 26 rfl B 5 Tryz.underlying26 kbyte_info v _ _ rfl (HM.out.own.alloc _) _ 1 1 [v8 ((k:Int) % 128+128)] rfl ?_ rfl (fun h=>by cases h) (by omega) (by intro u hu;rw[List.mem_singleton.1 hu];exact⟨_,rfl⟩) (by omega) (by unfold maxLen;omega) (by simp;omega) ?_;exact at_one _ _ _;intro v2 w2 hown2 hg2 hb2 hs2;obtain⟨g2,c2,rfl,hg0,hg1,hg3,hg4⟩:=own_form hown2.row (by omega);have K2:=HM.out.grow hg2;have c2':w2.cell? ⟨ga,1,none⟩=some v:=K2.cell 1;have f2':w2.frozen? ⟨ga,1,none⟩=false:=K2.free 1;have HK2:=Lib.hid K2;have HO2:=Lib.hid hown2;have HG2:=Lib.hid hg2;have HB2:=Lib.hid hb2;clear K2 hown2 hg2 hb2)
   have HM2:WMem B ga L (.slice (some ⟨g2,0,none⟩) (cur.length+1) c2) (cur++[(k:Int) % 128+128]) (w2.setCell ⟨ga,1,none⟩ (.slice (some ⟨g2,0,none⟩) (cur.length+1) c2)):=
    ⟨HK2.out.set 1 _,by simpa using own8_set HO2.out HK2.out w_ne 1 _,HM.out.base,by simpa using hs2⟩
   have HB3:Below B w (w2.setCell ⟨ga,1,none⟩ (.slice (some ⟨g2,0,none⟩) (cur.length+1) c2)):=((HB.out.alloc HM.out.size _).trans HB2.out).setCell HM.out.base _
   have HO3:Lib.OthersKept 5 (some ga) w (w2.setCell ⟨ga,1,none⟩ (.slice (some ⟨g2,0,none⟩) (cur.length+1) c2)):=
    others_set (HM.out.others HO.out HG2.out) 1 _
   go_roundw
   case rel=>exact⟨k / 128,_,_,by go_num,by omega,Lib.hid (by have:=HN.out;simpa using this),HM2,HB3,HO3⟩
   case measure=>simp[intOf];omega
  ·have HN:=Lib.hid (num_last HE.out (by omega))
   go_wp2_with (at_builtin;refine wpList_app8 rfl (.tmp 25) (.tmp 28) 26 rfl B 5 Tryz.underlying26 kbyte_info v _ _ rfl (HM.out.own.alloc _) _ 1 1 [v8 ((k:Int))] rfl ?_ rfl (fun h=>by cases h) (by omega) (by intro u hu;rw[List.mem_singleton.1 hu];exact⟨_,rfl⟩) (by omega) (by unfold maxLen;omega) (by simp;omega) ?_;exact at_one _ _ _;intro v2 w2 hown2 hg2 hb2 hs2;obtain⟨g2,c2,rfl,hg0,hg1,hg3,hg4⟩:=own_form hown2.row (by omega);have K2:=HM.out.grow hg2;have c2':w2.cell? ⟨ga,1,none⟩=some v:=K2.cell 1;have f2':w2.frozen? ⟨ga,1,none⟩=false:=K2.free 1;have HK2:=Lib.hid K2;have HO2:=Lib.hid hown2;have HG2:=Lib.hid hg2;have HB2:=Lib.hid hb2;clear K2 hown2 hg2 hb2)
   have HM2:WMem B ga L (.slice (some ⟨g2,0,none⟩) (cur.length+1) c2) (cur++[(k:Int)]) (w2.setCell ⟨ga,1,none⟩ (.slice (some ⟨g2,0,none⟩) (cur.length+1) c2)):=
    ⟨HK2.out.set 1 _,by simpa using own8_set HO2.out HK2.out w_ne 1 _,HM.out.base,by simpa using hs2⟩
   have HB3:Below B w (w2.setCell ⟨ga,1,none⟩ (.slice (some ⟨g2,0,none⟩) (cur.length+1) c2)):=((HB.out.alloc HM.out.size _).trans HB2.out).setCell HM.out.base _
   have HO3:Lib.OthersKept 5 (some ga) w (w2.setCell ⟨ga,1,none⟩ (.slice (some ⟨g2,0,none⟩) (cur.length+1) c2)):=
    others_set (HM.out.others HO.out HG2.out) 1 _
   go_end0
   exact⟨rfl,_,by rw[<-HN.out];exact HM2,HB3,HO3⟩
end
end Go.Proofs.YtokpabkcaofahaaGreat
