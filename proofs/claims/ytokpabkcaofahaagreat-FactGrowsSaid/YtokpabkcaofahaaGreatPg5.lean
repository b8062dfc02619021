/-
  What stands under factGrows_holds: part 5.
-/
import Derived.Test.YtokpabkcaofahaaGreatRows
import Derived.Test.YtokpabkcaofahaaGreatPg1
import Derived.WalkSpells
import Derived.WalkLawsBesides
import Derived.Deep.DeepCutAuto
import Derived.Test.YtokpabkcaofahaaGreatPg2
namespace Go.Proofs.YtokpabkcaofahaaGreat
set_option linter.unusedSimpArgs false
set_option linter.unusedVariables false
set_option maxRecDepth 100000
set_option maxHeartbeats 20000000
section
open Go.RowKit Sha
attribute [local go_sem] U_and U_or U_xor U_add U_shl8 U_shr3 U_shr10 U_notmax U_or_int
theorem bits31 (n:Nat)(h:1<=n/\n<=31):bits BinOp.and IntKind.u64 (IntKind.u64.wrap (-(n:Int))) 31=32 - (n:Int):=by
 have:n=1\/n=2\/n=3\/n=4\/n=5\/n=6\/n=7\/n=8\/n=9\/n=10\/n=11\/n=12\/n=13\/n=14\/n=15\/n=16\/n=17\/n=18\/n=19\/n=20\/n=21\/n=22\/n=23\/n=24\/n=25\/n=26\/n=27\/n=28\/n=29\/n=30\/n=31:=by omega
 rcases this with h | h | h | h | h | h | h | h | h | h | h | h | h | h | h | h | h | h | h | h | h | h | h | h | h | h | h | h | h | h | h<;>subst h<;>decide +kernel
theorem rot_any (x:W)(n:Nat)(w:World)(hn:1<=n/\n<=31):
 Calls Tryz.prog 186 #[v32 x,.int .i64 (-(n:Int))] w fun e w'=>e= .returned (v32 (rotr x n))/\w=w':=by
 have hb:=bits31 n hn
 go_enter Tryz.func186,Tryz.ntmps186
 go_wp2
 go_ret
 refine⟨ret_int ?_,rfl⟩
 rw[U_shl,show 32 - (32 - n)=n by omega,U_shr,U_or,rot x n hn]
theorem turned_any (x:W)(n:Int)(w:World)(hn:1<=n/\n<=31):
 Calls Tryz.prog 170 #[v32 x,.int .i64 n] w fun e w'=>e= .returned (v32 (rotr x n.toNat))/\w=w':=by
 obtain⟨n,rfl⟩:=Int.eq_ofNat_of_zero_le (show 0<=n by omega)
 go_enter Tryz.func170,Tryz.ntmps170
 go_wp2_with (go_at_call 186;refine(rot_any _ _ _ (by omega)).mono ?_;rintro e w' ⟨rfl,rfl⟩)
 go_ret
 exact⟨rfl,rfl⟩
theorem turned_still (x:W)(n:Int)(w:World)(hn:1<=n/\n<=31):
 Calls Tryz.prog 170 #[v32 x,.int .i64 n] w fun e w'=>e= .returned (v32 (rotr x n.toNat))/\w'=w:=(turned_any x n w hn).mono fun _ _ ⟨h,h'⟩=>⟨h,h'.symm⟩
theorem info59 (zs:List Int):(Tryz.prog.info? 189).map (fun i=>i.zero)=some (some (.agg ((fill zs 0).map v32).toArray)):=by kernel_rfl
theorem byte1:(Tryz.prog.info? 5).map (fun i=>i.size)=some 1:=by kernel_rfl
theorem word1:(Tryz.prog.info? 151).map (fun i=>i.size)=some 1:=by kernel_rfl
theorem size59:(Tryz.prog.info? 189).map (fun i=>i.size)=some 64:=by kernel_rfl
theorem one32 (l:List W):(l.map v32).toArray.all (·.oneCell')=true:=by simp[Value.oneCell']
theorem size62:(Tryz.prog.info? 193).map (fun i=>i.size)=some 64:=by kernel_rfl
theorem words_any (zs:List Int)(w:World)(hl:zs.length=64)(hz:∀n∈zs,0<=n/\n<=255):
 Calls Tryz.prog 169 #[.agg (zs.map v8).toArray] w fun e w'=>e= .returned (.agg ((wordsOf zs).map v32).toArray)/\Below w.heap.size w w':=by
 have hsz:(Tryz.prog.info? 193).map (fun i=>i.size)=some (zs.map v8).toArray.size:=by rw[size62];simp[hl]
 have Hl:=Lib.hid hl
 clear hl
 go_enter Tryz.func169,Tryz.ntmps169
 go_wp2_with (first | (refine wpList_box_arr rfl 193 _ rfl _ rfl ?_) | (refine wpList_alloc_arr rfl 189 rfl _ (info59 zs) ?_) | (refine wpList_load_row rfl 193 _ rfl _ rfl _ _ _ _ (Blk.old (Blk.old (Blk.new _ _ _) _) _) (Tryz.underlying193) rfl hsz ?_))
 go_loopw [10] (fun i wr=>∃k:Nat,k<=64/\i= .int .i64 k/\Below w.heap.size w wr/\Blk wr (w.heap.size+1) ((fill zs 0).map v32) 189/\Blk wr (w.heap.size+1+1) ((fill zs k).map v32) 189) (fun i _=>64 - (intOf i).toNat)
 case atStart=>
  refine⟨0,by omega,rfl,?_,?_,?_⟩
  ·exact(((Below.refl _ _).alloc (by simp) _).alloc (by simp) _).alloc (by simp;omega) _
  ·have:=(Blk.new (w.alloc (Obj.cells (List.map v8 zs).toArray 193)) ((fill zs 0).map v32).toArray 189).old (Obj.cells (List.map v32 (fill zs 0)).toArray 189)
   simpa using this
  ·have:=Blk.new ((w.alloc (Obj.cells (List.map v8 zs).toArray 193)).alloc (Obj.cells (List.map v32 (fill zs 0)).toArray 189)) ((fill zs 0).map v32).toArray 189
   simpa using this
 case round=>
  obtain⟨k,hk,rfl,hb,hr,hc⟩:=hrel
  by_cases hlt:k < 64
  ·obtain⟨x,hx⟩:∃x,x=(fill zs k).getD (k / 4) 0:=⟨_,rfl⟩
   obtain⟨n,hn⟩:∃n,n=zs.getD k 0:=⟨_,rfl⟩
   have c1:wr.cell? ⟨w.heap.size+1+1,k / 4,none⟩=some (v32 x):=by
    rw[hc.cell,List.getElem?_map,List.getElem?_eq_getElem (by rw[fill_length];omega),hx];simp[fill_length,show k / 4 < 64 by omega]
   have c2:wr.frozen? ⟨w.heap.size+1+1,k / 4,none⟩=false:=hc.free _
   have C3:=Lib.hid (show(zs.map v8).toArray[(k:Int).toNat]? = some (v8 n) by
    simp[Hl.out,hlt,hn])
   have c4:0<=n/\n<=255:=hz n (by rw[hn];simp[Hl.out,hlt])
   have Hx:=Lib.hid hx
   have Hn:=Lib.hid hn
   have HC:=Lib.hid hc
   have HR:=Lib.hid hr
   clear hc hx hn hr
   go_wp2_with (first | (refine wpList_index_arr rfl 193 _ _ rfl _ rfl _ rfl 64 5 Tryz.underlying193 _ Tryz.underlying5 rfl byte1 (by omega) _ C3.out ?_))
   go_roundw
   case rel=>
    refine⟨k+1,by omega,by go_num,hb.setCell (by simp;omega) _,HR.out.setOther _ _ (by simp),?_⟩
    rw[fill_succ zs k x n Hx.out Hn.out]
    exact HC.out.set _ _
   case measure=>simp[intOf];omega
  ·obtain rfl:k=64:=by omega
   go_wp2_with fail
   obtain⟨l,hl⟩:∃l,l=fill zs 64:=⟨_,rfl⟩
   have ll:l.length=64:=by rw[hl,fill_length]
   rw[<-hl]at hc
   have hfin:wordsOf zs=ext l 48:=by rw[hl,wordsOf_eq]
   clear hl
   have Hfin:=Lib.hid hfin
   have Hll:=Lib.hid ll
   clear hfin ll
   go_loopw [6] (fun i wr=>∃k:Nat,k<=48/\i= .int .i64 (k+16)/\Below w.heap.size w wr/\Blk wr (w.heap.size+1) ((fill zs 0).map v32) 189/\Blk wr (w.heap.size+1+1) ((ext l k).map v32) 189) (fun i _=>64 - (intOf i).toNat)
   case atStart=>exact⟨0,by omega,rfl,hb,hr,by unfold ext;exact hc⟩
   case round=>
    clear hb hr hc hk
    obtain⟨k,hk,rfl,hb,hr,hc⟩:=hrel
    by_cases hlt2:k < 48
    ·obtain⟨x0,hx0⟩:∃x,x=(ext l k).getD k 0:=⟨_,rfl⟩
     obtain⟨x1,hx1⟩:∃x,x=(ext l k).getD (k+1) 0:=⟨_,rfl⟩
     obtain⟨x9,hx9⟩:∃x,x=(ext l k).getD (k+9) 0:=⟨_,rfl⟩
     obtain⟨x14,hx14⟩:∃x,x=(ext l k).getD (k+14) 0:=⟨_,rfl⟩
     have lk:(ext l k).length=64:=by rw[ext_length,Hll.out]
     have c0:wr.cell? ⟨w.heap.size+1+1,k,none⟩=some (v32 x0):=by
      rw[hc.cell,List.getElem?_map,List.getElem?_eq_getElem (by omega),hx0];simp[lk,show k < 64 by omega]
     have c1:wr.cell? ⟨w.heap.size+1+1,k+1,none⟩=some (v32 x1):=by
      rw[hc.cell,List.getElem?_map,List.getElem?_eq_getElem (by omega),hx1];simp[lk,show k+1 < 64 by omega]
     have c9:wr.cell? ⟨w.heap.size+1+1,k+9,none⟩=some (v32 x9):=by
      rw[hc.cell,List.getElem?_map,List.getElem?_eq_getElem (by omega),hx9];simp[lk,show k+9 < 64 by omega]
     have c14:wr.cell? ⟨w.heap.size+1+1,k+14,none⟩=some (v32 x14):=by
      rw[hc.cell,List.getElem?_map,List.getElem?_eq_getElem (by omega),hx14];simp[lk,show k+14 < 64 by omega]
     have c16:wr.cell? ⟨w.heap.size+1+1,k+16,none⟩=some (v32 ((ext l k).getD (k+16) 0)):=by
      rw[hc.cell,List.getElem?_map,List.getElem?_eq_getElem (by omega)];simp[lk,show k+16 < 64 by omega]
     have cf:wr.frozen? ⟨w.heap.size+1+1,k+16,none⟩=false:=hc.free _
     have H0:=Lib.hid hx0
     have H1:=Lib.hid hx1
     have H9:=Lib.hid hx9
     have H14:=Lib.hid hx14
     have HC:=Lib.hid hc
     have HR:=Lib.hid hr
     clear hx0 hx1 hx9 hx14 hc hr lk
     go_wp2_with fail
     go_quiet (fail)
     go_wp2_with fail
     refine region_tail 29 (by kernel_rfl) (by kernel_rfl) ?_
     simp only[List.take_succ_cons,List.take_zero,List.drop_succ_cons,List.drop_zero]
     repeat(first | go_big_quiet_skip | (go_big_quiet_want;go_big_quiet_op;first | go_big_quiet_on | (refine⟨_,turned_still _ _ _ (by omega),?_⟩;go_big_quiet_on)))
     refine wpQuiet_nil ?_
     go_wp2_with fail
     go_roundw
     case rel=>
      refine⟨k+1,by omega,by go_num,(below_drewN hb _).setCell (by simp;omega) _,(HR.out.drewN _).setOther _ _ (by simp),?_⟩
      rw[ext_succ l k x0 x1 x9 x14 H0.out H1.out H9.out H14.out]
      unfold small0 small1
      exact(HC.out.drewN _).set _ _
     case measure=>simp[intOf];omega
    ·obtain rfl:k=48:=by omega
     have HC:=Lib.hid hc
     have HR:=Lib.hid hr
     have hsz2:(Tryz.prog.info? 189).map (fun i=>i.size)=some ((ext l 48).map v32).toArray.size:=by rw[size59];simp[ext_length,Hll.out]
     clear hc hr
     go_wp2_with (first
      | (refine wpList_load_row rfl 189 _ rfl _ rfl _ _ _ _ HC.out (Tryz.underlying189) rfl hsz2 ?_)
      | (refine wpList_store_row rfl 189 _ _ rfl _ _ rfl rfl _ _ HR.out hsz2 (by simp[fill_length,ext_length,Hll.out]) (one32 _) ?_))
     refine bodyPost_ret (v:=.agg ((wordsOf zs).map v32).toArray) ?_ rfl ⟨rfl,Below.setRow hb (by omega) _⟩
     rw[Hfin.out]
     exact results_cell_row rfl _ _ _ _ _ _ _ rfl (HR.out.row _) (Tryz.underlying189) rfl hsz2
end
section
open Go.RowKit Sha
attribute [local go_sem] U_and U_or U_xor U_add U_shl8 U_shr3 U_shr10 U_notmax U_or_int
def zeros8:List W:=List.replicate 8 0
theorem zeros8_length:zeros8.length=8:=rfl
attribute [irreducible] zeros8
theorem info44:(Tryz.prog.info? 153).map (fun i=>i.zero)=some (some (.agg (zeros8.map v32).toArray)):=by kernel_rfl
theorem size44:(Tryz.prog.info? 153).map (fun i=>i.size)=some 8:=by kernel_rfl
theorem constants_any (w:World):Calls Tryz.prog 141 #[] w fun e w'=>e= .returned (.agg (kList.map v32).toArray)/\Below w.heap.size w w':=by
 have lk:(kList.map v32).toArray.size=64:=by kernel_rfl
 have hsz:(Tryz.prog.info? 189).map (fun i=>i.size)=some (kList.map v32).toArray.size:=by rw[size59,lk]
 have hb:=Blk.new w ((fill [] 0).map v32).toArray 189
 have HB:=Lib.hid hb
 have LK:=Lib.hid lk
 clear hb lk
 go_enter Tryz.func141,Tryz.ntmps141
 go_wp2_with (first
  | (refine wpList_alloc_arr rfl 189 rfl _ (info59 []) ?_)
  | (refine wpList_build' rfl 189 _ rfl (kList.map v32).toArray (by kernel_rfl) ?_)
  | (refine wpList_store_row rfl 189 _ _ rfl _ _ rfl rfl _ _ HB.out hsz (by rw[LK.out];simp[fill_length]) (one32 _) ?_))
 refine bodyPost_ret (v:=.agg (kList.map v32).toArray) ?_ rfl ⟨rfl,Below.setRow ((Below.refl _ _).alloc (by simp) _) (by omega) _⟩
 exact results_cell_row rfl _ _ _ _ _ _ _ rfl (HB.out.row _) (Tryz.underlying189) rfl hsz
theorem first_any (w:World):Calls Tryz.prog 110 #[] w fun e w'=>e= .returned (.agg (first8.map v32).toArray)/\Below w.heap.size w w':=by
 have lk:(first8.map v32).toArray.size=8:=by kernel_rfl
 have hsz:(Tryz.prog.info? 153).map (fun i=>i.size)=some (first8.map v32).toArray.size:=by rw[size44,lk]
 have hb:=Blk.new w (zeros8.map v32).toArray 153
 have HB:=Lib.hid hb
 have LK:=Lib.hid lk
 clear hb lk
 go_enter Tryz.func110,Tryz.ntmps110
 go_wp2_with (first
  | (refine wpList_alloc_arr rfl 153 rfl _ info44 ?_)
  | (refine wpList_build' rfl 153 _ rfl (first8.map v32).toArray (by kernel_rfl) ?_)
  | (refine wpList_store_row rfl 153 _ _ rfl _ _ rfl rfl _ _ HB.out hsz (by rw[LK.out];simp[zeros8_length]) (one32 _) ?_))
 refine bodyPost_ret (v:=.agg (first8.map v32).toArray) ?_ rfl ⟨rfl,Below.setRow ((Below.refl _ _).alloc (by simp) _) (by omega) _⟩
 exact results_cell_row rfl _ _ _ _ _ _ _ rfl (HB.out.row _) (Tryz.underlying153) rfl hsz
end
section
open Go.RowKit Sha
attribute [local go_sem] U_and U_or U_xor U_add U_shl8 U_shr3 U_shr10 U_notmax U_or_int
def AtRound (ks ws:List W)(r0:R8)(wc:World)(v9 v10 v11 v12 v13 v14 v15 v16 i:Value)(wr:World):Prop:=
 ∃(k:Nat) (a b c d e f g h:W),k<=64/\i= .int .i64 k/\v9=v32 a/\v10=v32 b/\v11=v32 c/\v12=v32 d/\v13=v32 e/\v14=v32 f/\v15=v32 g/\v16=v32 h/\Hid (rounds ks ws r0 k=⟨a,b,c,d,e,f,g,h⟩)/\Hid (∃n,wr=wc.drewN n)
theorem behind_any (s ks:List W)(zs:List Int)(w:World)(hs:s.length=8)(hk:ks.length=64)(hl:zs.length=64)(hz:∀n∈zs,0<=n/\n<=255):
 Calls Tryz.prog 142 #[.agg (s.map v32).toArray,.agg (ks.map v32).toArray,.agg (zs.map v8).toArray] w
  fun e w'=>e= .returned (.agg ((behindOf s ks zs).map v32).toArray)/\Below w.heap.size w w':=by
 have Hs:=Lib.hid hs
 have Hk:=Lib.hid hk
 have Hl:=Lib.hid hl
 clear hs hk hl
 go_enter Tryz.func142,Tryz.ntmps142
 go_upto_region 1 with(first | (refine wpList_box_arr rfl 153 _ rfl _ rfl ?_) | (refine wpList_box_arr rfl 189 _ rfl _ rfl ?_) | (refine wpList_box_arr rfl 193 _ rfl _ rfl ?_) | (refine wpList_alloc_arr rfl 153 rfl _ info44 ?_))
 simp only[Act.put,List.setIfInBounds_toArray,List.set_cons_zero,List.set_cons_succ,World.size_alloc]
 have f0:=((Blk.new w (s.map v32).toArray 153).old (Obj.cells (ks.map v32).toArray 189)).old (Obj.cells (zs.map v8).toArray 193) |>.old (Obj.cells (zeros8.map v32).toArray 153)
 have f1:=((Blk.new (w.alloc (Obj.cells (s.map v32).toArray 153)) (ks.map v32).toArray 189).old (Obj.cells (zs.map v8).toArray 193)).old (Obj.cells (zeros8.map v32).toArray 153)
 have f2:=((Blk.new ((w.alloc (Obj.cells (s.map v32).toArray 153)).alloc (Obj.cells (ks.map v32).toArray 189)) (zs.map v8).toArray 193).old (Obj.cells (zeros8.map v32).toArray 153))
 have f3:=Blk.new (((w.alloc (Obj.cells (s.map v32).toArray 153)).alloc (Obj.cells (ks.map v32).toArray 189)).alloc (Obj.cells (zs.map v8).toArray 193)) (zeros8.map v32).toArray 153
 have b4:=((((Below.refl w.heap.size w).alloc (by simp) (Obj.cells (s.map v32).toArray 153)).alloc (by simp) (Obj.cells (ks.map v32).toArray 189)).alloc (by simp;omega) (Obj.cells (zs.map v8).toArray 193)).alloc (by simp;omega) (Obj.cells (zeros8.map v32).toArray 153)
 have z4:((((w.alloc (Obj.cells (s.map v32).toArray 153)).alloc (Obj.cells (ks.map v32).toArray 189)).alloc (Obj.cells (zs.map v8).toArray 193)).alloc (Obj.cells (zeros8.map v32).toArray 153)).heap.size=w.heap.size+1+1+1+1:=by simp
 generalize((((w.alloc (Obj.cells (s.map v32).toArray 153)).alloc (Obj.cells (ks.map v32).toArray 189)).alloc (Obj.cells (zs.map v8).toArray 193)).alloc (Obj.cells (zeros8.map v32).toArray 153))=w4 at *
 simp only[World.size_alloc]at f0 f1 f2 f3
 go_outline
 go_cut [7,8] (fun s7 s8 wx=>∃g7 g8:Nat,s7= .pointer (some ⟨g7,0,none⟩)/\s8= .pointer (some ⟨g8,0,none⟩)/\w.heap.size+1+1+1+1<=g7/\w.heap.size+1+1+1+1<=g8/\g7≠g8/\Below (w.heap.size+1+1+1+1) w4 wx/\Blk wx g7 ((wordsOf zs).map v32) 189/\Blk wx g8 (s.map v32) 153)
 case first=>
  have hbf:∀g cs t,Blk w4 g cs t->∀wv,Below (w.heap.size+1+1+1+1) w4 wv->Blk wv g cs t:=fun g cs t h wv hb=>h.below hb (by have:=h.lt;omega)
  have hsz44:(Tryz.prog.info? 153).map (fun i=>i.size)=some (s.map v32).toArray.size:=by rw[size44];simp[Hs.out]
  have hsz62:(Tryz.prog.info? 193).map (fun i=>i.size)=some (zs.map v8).toArray.size:=by rw[size62];simp[Hl.out]
  have hsz59:(Tryz.prog.info? 189).map (fun i=>i.size)=some ((wordsOf zs).map v32).toArray.size:=by rw[size59];simp[wordsOf_length]
  refine wp_region_held (S:=fun wv=>Blk wv w.heap.size (s.map v32) 153/\Blk wv (w.heap.size+1+1) (zs.map v8) 193) (by kernel_rfl) ?_
  change wpAnyH _ _ _ _ _ _ _ _ (World.drew _)
  have hI:Two w4 (w.heap.size+1+1+1+1) false false 189 153 [] [] 0 0 w4.drew:=⟨(Below.refl _ _).drew,by rw[<-z4];exact Nat.le_refl _,by simp,by simp,by simp⟩
  generalize w4.drew=wv at hI ⊢
  refine wpAnyH_take (i:=0) rfl (by kernel_rfl) (by kernel_rfl) (by kernel_rfl) (fun _ _ _ h=>h) (yieldsIf_load_row rfl 193 _ rfl _ rfl _ _ _ (fun _ h=>h.2) (Tryz.underlying193) rfl hsz62) ⟨hbf _ _ _ f0 _ hI.below,hbf _ _ _ f2 _ hI.below⟩ ?_
  refine wpAnyH_take (i:=2) rfl (by kernel_rfl) (by kernel_rfl) (by kernel_rfl) (fun _ _ _ h=>h) (yieldsIf_load_row rfl 153 _ rfl _ rfl _ _ _ (fun _ h=>h.1) (Tryz.underlying153) rfl hsz44) ⟨hbf _ _ _ f0 _ hI.below,hbf _ _ _ f2 _ hI.below⟩ ?_
  simp only[Act.put,List.setIfInBounds_toArray,List.set_cons_zero,List.set_cons_succ,List.getElem_toArray,List.getElem_cons_succ,List.getElem_cons_zero]
  iterate 5
   (all_goals first
     | (refine wpAnyH_ready (rs:=[1,3,4]) ?_ (List.cons_ne_nil _ _) ?_;decide +kernel;refine(ready_stepH rfl rfl (fun K hK=>?_) (ready_stepH rfl rfl (fun K hK=>?_) (ready_stepH rfl rfl (fun K hK=>?_) AllReadyH.nil))))
     | (refine wpAnyH_ready (rs:=[3,4]) ?_ (List.cons_ne_nil _ _) ?_;decide +kernel;refine(ready_stepH rfl rfl (fun K hK=>?_) (ready_stepH rfl rfl (fun K hK=>?_) AllReadyH.nil)))
     | (refine wpAnyH_ready (rs:=[1,4]) ?_ (List.cons_ne_nil _ _) ?_;decide +kernel;refine(ready_stepH rfl rfl (fun K hK=>?_) (ready_stepH rfl rfl (fun K hK=>?_) AllReadyH.nil)))
     | (refine wpAnyH_ready (rs:=[1,3]) ?_ (List.cons_ne_nil _ _) ?_;decide +kernel;refine(ready_stepH rfl rfl (fun K hK=>?_) (ready_stepH rfl rfl (fun K hK=>?_) AllReadyH.nil)))
     | (refine wpAnyH_ready (rs:=[4,5]) ?_ (List.cons_ne_nil _ _) ?_;decide +kernel;refine(ready_stepH rfl rfl (fun K hK=>?_) (ready_stepH rfl rfl (fun K hK=>?_) AllReadyH.nil)))
     | (refine wpAnyH_ready (rs:=[1]) ?_ (List.cons_ne_nil _ _) ?_;decide +kernel;refine(ready_stepH rfl rfl (fun K hK=>?_) AllReadyH.nil))
     | (refine wpAnyH_ready (rs:=[3]) ?_ (List.cons_ne_nil _ _) ?_;decide +kernel;refine(ready_stepH rfl rfl (fun K hK=>?_) AllReadyH.nil))
     | (refine wpAnyH_ready (rs:=[4]) ?_ (List.cons_ne_nil _ _) ?_;decide +kernel;refine(ready_stepH rfl rfl (fun K hK=>?_) AllReadyH.nil))
     | (refine wpAnyH_ready (rs:=[5]) ?_ (List.cons_ne_nil _ _) ?_;decide +kernel;refine(ready_stepH rfl rfl (fun K hK=>?_) AllReadyH.nil))
     | (refine wpAnyH_ready (rs:=[6]) ?_ (List.cons_ne_nil _ _) ?_;decide +kernel;refine(ready_stepH rfl rfl (fun K hK=>?_) AllReadyH.nil))
    all_goals first
     | (refine wp_alloc_arr 189 rfl _ (info59 zs) ?_;have hI:=hI.alloc1 ((fill zs 0).map v32);refine hK _ _ ⟨hbf _ _ _ f0 _ hI.below,hbf _ _ _ f2 _ hI.below⟩ ?_;try simp only[Act.put,List.setIfInBounds_toArray,List.set_cons_zero,List.set_cons_succ,List.getElem_toArray,List.getElem_cons_succ,List.getElem_cons_zero,World.size_alloc]at hI ⊢;clear hK K)
     | (refine wp_alloc_arr 153 rfl _ info44 ?_;have hI:=hI.alloc2 (zeros8.map v32);refine hK _ _ ⟨hbf _ _ _ f0 _ hI.below,hbf _ _ _ f2 _ hI.below⟩ ?_;try simp only[Act.put,List.setIfInBounds_toArray,List.set_cons_zero,List.set_cons_succ,List.getElem_toArray,List.getElem_cons_succ,List.getElem_cons_zero,World.size_alloc]at hI ⊢;clear hK K)
     | (refine wp_store_row 189 _ _ rfl _ _ rfl rfl _ _ (hI.one rfl).2 hsz59 (by simp[fill_length,wordsOf_length]) (one32 _) ?_;have hI:=hI.store1 ((wordsOf zs).map v32);refine hK _ _ ⟨hbf _ _ _ f0 _ hI.below,hbf _ _ _ f2 _ hI.below⟩ ?_;try simp only[Act.put,List.setIfInBounds_toArray,List.set_cons_zero,List.set_cons_succ,List.getElem_toArray,List.getElem_cons_succ,List.getElem_cons_zero,World.size_alloc]at hI ⊢;clear hK K)
     | (refine wp_store_row 153 _ _ rfl _ _ rfl rfl _ _ (hI.two rfl).2 hsz44 (by simp[zeros8_length,Hs.out]) (one32 _) ?_;have hI:=hI.store2 (s.map v32);refine hK _ _ ⟨hbf _ _ _ f0 _ hI.below,hbf _ _ _ f2 _ hI.below⟩ ?_;try simp only[Act.put,List.setIfInBounds_toArray,List.set_cons_zero,List.set_cons_succ,List.getElem_toArray,List.getElem_cons_succ,List.getElem_cons_zero,World.size_alloc]at hI ⊢;clear hK K)
     | (go_simp;go_at_call 169;refine(words_any zs _ Hl.out hz).mono ?_;rintro e w1 ⟨rfl,hb1⟩;have hI:=hI.call hb1;refine hK _ _ ⟨hbf _ _ _ f0 _ hI.below,hbf _ _ _ f2 _ hI.below⟩ ?_;try simp only[Act.put,List.setIfInBounds_toArray,List.set_cons_zero,List.set_cons_succ,List.getElem_toArray,List.getElem_cons_succ,List.getElem_cons_zero,World.size_alloc]at hI ⊢;clear hK K))
  all_goals
   refine wpAnyH_done (by decide +kernel) ?_ _
   go_wp2_with fail
   go_meet
   exact⟨_,_,rfl,rfl,(hI.one rfl).1,(hI.two rfl).1,hI.apart rfl rfl,hI.below,(hI.one rfl).2,(hI.two rfl).2⟩
 case rest=>
  obtain⟨g7,g8,rfl,rfl,hg7,hg8,hne,hbw,hw7,hw8⟩:=hcut
  obtain⟨a0,a1,a2,a3,a4,a5,a6,a7,hs8⟩:=eight s Hs.out
  have c0:wc.cell? ⟨g8,0,none⟩=some (v32 a0):=by rw[hw8.cell,hs8];rfl
  have c1:wc.cell? ⟨g8,1,none⟩=some (v32 a1):=by rw[hw8.cell,hs8];rfl
  have c2:wc.cell? ⟨g8,2,none⟩=some (v32 a2):=by rw[hw8.cell,hs8];rfl
  have c3:wc.cell? ⟨g8,3,none⟩=some (v32 a3):=by rw[hw8.cell,hs8];rfl
  have c4:wc.cell? ⟨g8,4,none⟩=some (v32 a4):=by rw[hw8.cell,hs8];rfl
  have c5:wc.cell? ⟨g8,5,none⟩=some (v32 a5):=by rw[hw8.cell,hs8];rfl
  have c6:wc.cell? ⟨g8,6,none⟩=some (v32 a6):=by rw[hw8.cell,hs8];rfl
  have c7:wc.cell? ⟨g8,7,none⟩=some (v32 a7):=by rw[hw8.cell,hs8];rfl
  have F1:=Lib.hid (f1.below hbw (by omega))
  have F3:=Lib.hid (f3.below hbw (by omega))
  have W7:=Lib.hid hw7
  have W8:=Lib.hid hw8
  have BW:=Lib.hid (b4.trans (hbw.mono (by omega)))
  have Hs8:=Lib.hid hs8
  clear f0 f1 f2 f3 b4 z4 hbw hw7 hw8 hs8
  go_wp2_with fail
  go_quiet (fail)
  clear c0 c1 c2 c3 c4 c5 c6 c7
  go_wp2_with fail
  obtain⟨r0,hr0⟩:∃r:R8,r=⟨a0,a1,a2,a3,a4,a5,a6,a7⟩:=⟨_,rfl⟩
  have Hr0:=Lib.hid hr0
  clear hr0
  go_loopw [9,10,11,12,13,14,15,16,41] (fun v9 v10 v11 v12 v13 v14 v15 v16 i wr=>AtRound ks (wordsOf zs) r0 wc v9 v10 v11 v12 v13 v14 v15 v16 i wr) (fun _ _ _ _ _ _ _ _ i _=>64 - (intOf i).toNat)
  case atStart=>exact⟨0,_,_,_,_,_,_,_,_,by omega,rfl,rfl,rfl,rfl,rfl,rfl,rfl,rfl,rfl,by rw[Sha.rounds_zero];exact Hr0.out,⟨nq,rfl⟩⟩
  case round=>
   obtain⟨k,a,b,c,d,e,f,g,h,hk,rfl,rfl,rfl,rfl,rfl,rfl,rfl,rfl,rfl,HR,HQ⟩:=hrel
   have W7:Hid (Blk wr g7 ((wordsOf zs).map v32) 189):=by obtain⟨n,e⟩:=HQ.out;rw[e];exact W7.out.drewN n
   have F1:Hid (Blk wr (w.heap.size+1) (ks.map v32) 189):=by obtain⟨n,e⟩:=HQ.out;rw[e];exact F1.out.drewN n
   by_cases hlt:k < 64
   ·obtain⟨kx,hkx⟩:∃x,x=ks.getD k 0:=⟨_,rfl⟩
    obtain⟨wx,hwx⟩:∃x,x=(wordsOf zs).getD k 0:=⟨_,rfl⟩
    have c4:wr.cell? ⟨w.heap.size+1,k,none⟩=some (v32 kx):=by
     rw[F1.out.cell,List.getElem?_map,List.getElem?_eq_getElem (by rw[Hk.out];omega),hkx];simp[Hk.out,hlt]
    have c7:wr.cell? ⟨g7,k,none⟩=some (v32 wx):=by
     rw[W7.out.cell,List.getElem?_map,List.getElem?_eq_getElem (by rw[wordsOf_length];omega),hwx];simp[wordsOf_length,hlt]
    have HK:=Lib.hid hkx
    have HW:=Lib.hid hwx
    clear hkx hwx
    go_wp2_with fail
    go_quiet ((refine Calls.quiet_of_same (turned_still _ _ _ (by omega))))
    go_wp2_with (go_at_call 170;refine(turned_any _ _ _ (by omega)).mono ?_;rintro e w' ⟨rfl,rfl⟩)
    go_roundw
    case rel=>
     refine⟨k+1,h+(rotr e 6 ^^^ rotr e 11 ^^^ rotr e 25)+(e &&& f ^^^ ~~~e &&& g)+kx+wx+((rotr a 2 ^^^ rotr a 13 ^^^ rotr a 22)+(a &&& b ^^^ a &&& c ^^^ b &&& c)),a,b,c,d+(h+(rotr e 6 ^^^ rotr e 11 ^^^ rotr e 25)+(e &&& f ^^^ ~~~e &&& g)+kx+wx),e,f,g,by omega,by go_num,?_,rfl,rfl,rfl,?_,rfl,rfl,rfl,Sha.rounds_succ ks (wordsOf zs) r0 k a b c d e f g h kx wx HR.out HK.out HW.out,?_⟩
     ·congr 1;simp only[U_not3,U_notmax,U_and,U_xor,U_mod,BitVec.ofInt_add,ofInt_U]
     ·congr 1;simp only[U_not3,U_notmax,U_and,U_xor,U_mod,BitVec.ofInt_add,ofInt_U]
     obtain⟨n,e⟩:=HQ.out
     exact⟨n+nq,by rw[e,World.drewN_drewN]⟩
    case measure=>simp[intOf];omega
   ·obtain rfl:k=64:=by omega
    have W8:Hid (Blk wr g8 (s.map v32) 153):=by obtain⟨n,e⟩:=HQ.out;rw[e];exact W8.out.drewN n
    have F3:Hid (Blk wr (w.heap.size+1+1+1) (zeros8.map v32) 153):=by obtain⟨n,e⟩:=HQ.out;rw[e];exact F3.out.drewN n
    have BW:Hid (Below w.heap.size w wr):=by obtain⟨n,e⟩:=HQ.out;rw[e];exact below_drewN BW.out n
    have Hfin:Hid (behindOf s ks zs=addUpto s [a,b,c,d,e,f,g,h] 8):=by
     show _=_
     rw[behindOf_eq,show R8.get s=r0 from by rw[Hs8.out,get_eight,Hr0.out],HR.out];rfl
    go_wp2_with fail
    go_loopw [113] (fun i wr2=>∃k:Nat,k<=8/\i= .int .i64 k/\Below w.heap.size w wr2/\Blk wr2 g8 ((addUpto s [a,b,c,d,e,f,g,h] k).map v32) 153/\Blk wr2 (w.heap.size+1+1+1) (zeros8.map v32) 153) (fun i _=>8 - (intOf i).toNat)
    case atStart=>exact⟨0,by omega,rfl,BW.out,by rw[addUpto_zero];exact W8.out,F3.out⟩
    case round=>
     obtain⟨k,hk,rfl,hb,hc,hr⟩:=hrel
     by_cases hlt2:k < 8
     ·obtain⟨x,hx⟩:∃x,x=(addUpto s [a,b,c,d,e,f,g,h] k).getD k 0:=⟨_,rfl⟩
      obtain⟨y,hy⟩:∃y,y=([a,b,c,d,e,f,g,h]:List W).getD k 0:=⟨_,rfl⟩
      have lk:(addUpto s [a,b,c,d,e,f,g,h] k).length=8:=by rw[addUpto_length,Hs.out]
      have cx:wr.cell? ⟨g8,k,none⟩=some (v32 x):=by
       rw[hc.cell,List.getElem?_map,List.getElem?_eq_getElem (by omega),hx];simp[lk,hlt2]
      have cf:wr.frozen? ⟨g8,k,none⟩=false:=hc.free _
      have CY:Hid ((([a,b,c,d,e,f,g,h]:List W).map v32).toArray[(k:Int).toNat]? = some (v32 y)):=by
       show _=_
       rw[Int.toNat_natCast,List.getElem?_toArray,List.getElem?_map,List.getElem?_eq_getElem (by simpa using hlt2),hy,List.getD_eq_getElem?_getD,List.getElem?_eq_getElem (by simpa using hlt2)];rfl
      have HX:=Lib.hid hx
      have HY:=Lib.hid hy
      have HC:=Lib.hid hc
      have HR2:=Lib.hid hr
      clear hx hy hc hr lk
      go_wp2_with (first | (refine wpList_index_arr rfl 153 _ _ rfl _ rfl _ rfl 8 151 Tryz.underlying153 _ Tryz.underlying151 rfl word1 (by omega) _ CY.out ?_))
      go_roundw
      case rel=>
       have R2:Blk (wr.setCell ⟨g8,k,none⟩ (.int .u32 (U (x+y)))) g8 ((addUpto s [a,b,c,d,e,f,g,h] (k+1)).map v32) 153:=by
        rw[addUpto_succ s _ k x y HX.out HY.out]
        exact HC.out.set _ _
       exact⟨_,_,_,_,_,_,_,_,_,_,_,_,_,⟨k+1,by omega,by go_num,hb.setCell (by simp;omega) _,R2,HR2.out.setOther _ _ (by simp;omega)⟩,rfl⟩
      case measure=>simp[intOf];omega
     ·obtain rfl:k=8:=by omega
      have HC:=Lib.hid hc
      have HR2:=Lib.hid hr
      have hsz2:(Tryz.prog.info? 153).map (fun i=>i.size)=some ((addUpto s [a,b,c,d,e,f,g,h] 8).map v32).toArray.size:=by rw[size44];simp[addUpto_length,Hs.out]
      clear hc hr
      go_wp2_with (first
       | (refine wpList_load_row rfl 153 _ rfl _ rfl _ _ _ _ HC.out (Tryz.underlying153) rfl hsz2 ?_)
       | (refine wpList_store_row rfl 153 _ _ rfl _ _ rfl rfl _ _ HR2.out hsz2 (by simp[zeros8_length,addUpto_length,Hs.out]) (one32 _) ?_))
      refine bodyPost_ret (v:=.agg ((addUpto s [a,b,c,d,e,f,g,h] 8).map v32).toArray) ?_ rfl ⟨by rw[Hfin.out],Below.setRow hb (by omega) _⟩
      exact results_cell_row rfl _ _ _ _ _ _ _ rfl (HR2.out.row _) (Tryz.underlying153) rfl hsz2
end
section
open Go.RowKit Sha
theorem kList_length:kList.length=64:=by unfold kList;rfl
theorem slice1:(Tryz.prog.info? 5).map (fun i=>i.size)=some 1:=by kernel_rfl
theorem through_any (s:List W)(zs:List Int)(p:Option Addr)(cap:Nat)(w:World)(hs:s.length=8)(hz:∀n∈zs,0<=n/\n<=255)(hA:At w p (zs.map v8))(hc:zs.length<=cap)(hm:cap<=9223372036854775807):
 Calls Tryz.prog 109 #[.agg (s.map v32).toArray,.slice p zs.length cap] w
  fun e w'=>e= .returned (.agg ((thru s kList zs (zs.length / 64)).map v32).toArray)/\Below w.heap.size w w':=by
 have Hs:=Lib.hid hs
 clear hs
 obtain⟨len,hlen⟩:∃n,n=zs.length:=⟨_,rfl⟩
 rw[<-hlen]at hc ⊢
 have Hlen:=Lib.hid hlen
 clear hlen
 obtain⟨n,hn⟩:∃n,n=len / 64:=⟨_,rfl⟩
 have hn1:n*64<=len:=by omega
 have hn2:((len:Int) / 64)=(n:Int):=by omega
 rw[<-hn]
 clear hn
 go_enter Tryz.func109,Tryz.ntmps109
 have lk:(kList.map v32).toArray.size=64:=by kernel_rfl
 have hszk:(Tryz.prog.info? 189).map (fun i=>i.size)=some (kList.map v32).toArray.size:=by rw[size59,lk]
 have LK:=Lib.hid lk
 clear lk
 go_wp2_with (first
  | (refine wpList_box_arr rfl 153 _ rfl _ rfl ?_)
  | (refine wpList_alloc_arr rfl 153 rfl _ info44 ?_)
  | (refine wpList_alloc_arr rfl 189 rfl _ (info59 []) ?_)
  | (refine wpList_store_row rfl 189 _ _ rfl _ _ rfl rfl _ _ (Blk.new _ _ _) hszk (by rw[LK.out];simp[fill_length]) (one32 _) ?_)
  | (go_at_call 141;refine(constants_any _).mono ?_;rintro e w1 ⟨rfl,hb1⟩))
 clear hn2
 obtain⟨g5,hg5⟩:∃g,g=w1.heap.size:=⟨_,rfl⟩
 have b1:Below w.heap.size w w1:=(((Below.refl _ _).alloc (by simp) _).alloc (by simp) _).trans (hb1.mono (by simp;omega))
 have k0:Blk w1 w.heap.size (s.map v32) 153:=by
  have:=((Blk.new w (s.map v32).toArray 153).old (Obj.cells (zeros8.map v32).toArray 153)).below hb1 (by simp;omega)
  simpa using this
 have k1:Blk w1 (w.heap.size+1) (zeros8.map v32) 153:=by
  have:=(Blk.new (w.alloc (Obj.cells (s.map v32).toArray 153)) (zeros8.map v32).toArray 153).below hb1 (by simp)
  simpa using this
 have z1:w.heap.size+1+1<=w1.heap.size:=by have:=hb1.size;simpa using this
 have W0:Below w.heap.size w ((w1.alloc (Obj.cells (List.map v32 (fill [] 0)).toArray 189)).setRow w1.heap.size (List.map v32 kList).toArray):=
  Below.setRow (b1.alloc (by omega) _) (by omega) _
 have W1:Blk ((w1.alloc (Obj.cells (List.map v32 (fill [] 0)).toArray 189)).setRow w1.heap.size (List.map v32 kList).toArray) w.heap.size (s.map v32) 153:=(k0.old _).rowOther _ (by omega)
 have W2:Blk ((w1.alloc (Obj.cells (List.map v32 (fill [] 0)).toArray 189)).setRow w1.heap.size (List.map v32 kList).toArray) (w.heap.size+1) (zeros8.map v32) 153:=(k1.old _).rowOther _ (by omega)
 have W3:Blk ((w1.alloc (Obj.cells (List.map v32 (fill [] 0)).toArray 189)).setRow w1.heap.size (List.map v32 kList).toArray) g5 (kList.map v32) 189:=by rw[hg5];exact(Blk.new _ _ _).row _
 rw[<-hg5]at W0 W1 W2 W3 z1
 rw[<-hg5]
 generalize((w1.alloc (Obj.cells (List.map v32 (fill [] 0)).toArray 189)).setRow g5 (List.map v32 kList).toArray)=w2 at *
 clear hb1 b1 k0 k1 hg5
 go_loopw [11] (fun i wr=>∃k:Nat,k<=n/\i= .int .i64 k/\Below w.heap.size w wr/\Blk wr w.heap.size ((thru s kList zs k).map v32) 153/\Blk wr (w.heap.size+1) (zeros8.map v32) 153/\Blk wr g5 (kList.map v32) 189) (fun i _=>n - (intOf i).toNat)
 case atStart=>exact⟨0,by omega,rfl,W0,by rw[thru_zero];exact W1,W2,W3⟩
 case round=>
  clear W0 W1 W2 W3
  obtain⟨k,hk,rfl,hb,h0,h1,h5⟩:=hrel
  have H0:=Lib.hid h0
  have H1:=Lib.hid h1
  have H5:=Lib.hid h5
  have HA:=Lib.hid hA
  have HB:=Lib.hid hb
  clear h0 h1 h5 hA hb
  by_cases hlt:k < n
  ·have hpl:(Sha.part zs k).length=64:=part_length zs k (by rw[<-Hlen.out];omega)
   have hpz:∀m∈Sha.part zs k,0<=m/\m<=255:=part_mem zs k _ hz
   have hsz62:(Tryz.prog.info? 193).map (fun i=>i.size)=some ((Sha.part zs k).map v8).length:=by rw[size62];simp[hpl]
   have hsz44:(Tryz.prog.info? 153).map (fun i=>i.size)=some ((thru s kList zs k).map v32).length:=by rw[size44];simp[thru_length,Hs.out]
   have hszb:(Tryz.prog.info? 153).map (fun i=>i.size)=some ((behindOf (thru s kList zs k) kList (Sha.part zs k)).map v32).toArray.size:=by rw[size44];simp[behindOf_length,thru_length,Hs.out]
   have hszk2:(Tryz.prog.info? 189).map (fun i=>i.size)=some (kList.map v32).length:=hszk
   have HP:=Lib.hid hpl
   have HZ:=Lib.hid hz
   have HPZ:=Lib.hid hpz
   have HCUT:Hid (∀w,(Instr.sliceAt 26 (.slice p len cap) (some (.int .i64 ((k:Int)*64))) (some (.int .i64 (((k:Int)+1)*64))) none).run Tryz.prog w= .ok (cutV p (k*64) ((k+1)*64) cap) w):=fun w=>by
    have:=run_cut_lh (P:=Tryz.prog) 26 5 p len cap Tryz.underlying26 slice1 .i64 .i64 ((k:Int)*64) (((k:Int)+1)*64) (by omega) (by omega) (by omega) w
    rwa [show((k:Int)*64).toNat=k*64 by omega,show(((k:Int)+1)*64).toNat=(k+1)*64 by omega]at this
   clear hpl hz hpz
   go_wp2_with fail
   refine region_tail 11 (by kernel_rfl) (by kernel_rfl) ?_
   simp only[List.take_succ_cons,List.take_zero,List.drop_succ_cons,List.drop_zero]
   (go_big_quiet_want;refine quiet_load_mid 153 _ rfl _ _ rfl _ _ (fun w' hw'=>by rw[hw'];exact H0.out.drew.range) Tryz.underlying153 rfl hsz44 ?_;simp only[Act.put,List.setIfInBounds_toArray,List.set_cons_zero,List.set_cons_succ,List.getElem_toArray,List.getElem_cons_succ,List.getElem_cons_zero];go_big_quiet_on)
   (go_big_quiet_want;refine quiet_load_mid 189 _ rfl _ _ rfl _ _ (fun w' hw'=>by rw[hw'];exact H5.out.drew.range) Tryz.underlying189 rfl hszk2 ?_;simp only[Act.put,List.setIfInBounds_toArray,List.set_cons_zero,List.set_cons_succ,List.getElem_toArray,List.getElem_cons_succ,List.getElem_cons_zero];go_big_quiet_on)
   iterate 6 (go_big_quiet_step (fail))
   go_big_quiet_want
   refine quiet_cut 26 _ _ _ rfl p (k*64) ((k+1)*64) cap HCUT.out wr ((zs.map v8)) (HA.out.below HB.out) (by simp only[List.length_map];rw[<-Hlen.out];exact hc) (fun p' hA'=>?_)
   simp only[Act.put,List.setIfInBounds_toArray,List.set_cons_zero,List.set_cons_succ,List.getElem_toArray,List.getElem_cons_succ,List.getElem_cons_zero]
   rw[part_map]at hA'
   obtain⟨bb,off,rfl,hcc⟩:=hA'.addr (by simp[HP.out])
   go_big_quiet_on
   (go_big_quiet_want;refine quiet_array 193 _ rfl 5 64 _ _ _ Tryz.underlying193 (by omega) rfl ?_;simp only[Act.put,List.setIfInBounds_toArray,List.set_cons_zero,List.set_cons_succ,List.getElem_toArray,List.getElem_cons_succ,List.getElem_cons_zero];go_big_quiet_on)
   (go_big_quiet_want;refine quiet_load_mid 193 _ rfl _ _ rfl _ _ (fun w' hw'=>by rw[hw'];exact hA'.drew.range) Tryz.underlying193 rfl hsz62 ?_;simp only[Act.put,List.setIfInBounds_toArray,List.set_cons_zero,List.set_cons_succ,List.getElem_toArray,List.getElem_cons_succ,List.getElem_cons_zero];go_big_quiet_on)
   refine wpQuiet_nil ?_
   obtain⟨wd,hwd⟩:∃wd,wd=wr.drew:=⟨_,rfl⟩
   rw[<-hwd]
   have d0:Hid (Blk wd w.heap.size ((thru s kList zs k).map v32) 153):=by rw[hwd];exact H0.out.drew
   have d1:Hid (Blk wd (w.heap.size+1) (zeros8.map v32) 153):=by rw[hwd];exact H1.out.drew
   have d5:Hid (Blk wd g5 (kList.map v32) 189):=by rw[hwd];exact H5.out.drew
   have db:Hid (Below w.heap.size w wd):=by rw[hwd];exact HB.out.drew
   clear hwd hA' hcc
   go_wp2_with (first
    | (go_at_call 142;refine(behind_any _ _ _ _ (by rw[thru_length,Hs.out]) kList_length HP.out HPZ.out).mono ?_;rintro e w3 ⟨rfl,hb3⟩)
    | (refine wpList_store_row rfl 153 _ _ rfl _ _ rfl rfl _ _ (d0.out.below hb3 d0.out.lt) hszb (by simp[thru_length,behindOf_length]) (one32 _) ?_))
   go_roundw
   case rel=>
    have e1:=d0.out.below hb3 d0.out.lt
    have e2:=d1.out.below hb3 d1.out.lt
    have e5:=d5.out.below hb3 d5.out.lt
    refine⟨k+1,by omega,by go_num,Below.setRow (db.out.trans (hb3.mono db.out.size)) (by omega) _,?_,e2.rowOther _ (by omega),e5.rowOther _ (by omega)⟩
    rw[thru_succ]
    exact e1.row _
   case measure=>simp[intOf];omega
  ·obtain rfl:k=n:=by omega
   have hsz2:(Tryz.prog.info? 153).map (fun i=>i.size)=some ((thru s kList zs k).map v32).toArray.size:=by rw[size44];simp[thru_length,Hs.out]
   go_wp2_with (first
    | (refine wpList_load_row rfl 153 _ rfl _ rfl _ _ _ _ H0.out (Tryz.underlying153) rfl hsz2 ?_)
    | (refine wpList_store_row rfl 153 _ _ rfl _ _ rfl rfl _ _ H1.out hsz2 (by simp[zeros8_length,thru_length,Hs.out]) (one32 _) ?_))
   refine bodyPost_ret (v:=.agg ((thru s kList zs k).map v32).toArray) ?_ rfl ⟨rfl,Below.setRow HB.out (by omega) _⟩
   exact results_cell_row rfl _ _ _ _ _ _ _ rfl (H1.out.row _) (Tryz.underlying153) rfl hsz2
end
section
open Go.RowKit Sha
theorem info26:(Tryz.prog.info? 25).map (fun i=>i.zero)=some (some (.agg (zero32.map v8).toArray)):=by kernel_rfl
theorem size26:(Tryz.prog.info? 25).map (fun i=>i.size)=some 32:=by kernel_rfl
theorem one8 (l:List Int):(l.map v8).toArray.all (·.oneCell')=true:=by simp[Value.oneCell']
theorem zero32_length:zero32.length=32:=by unfold zero32;rfl
theorem tell_any (s:List W)(w:World)(hs:s.length=8):
 Calls Tryz.prog 111 #[.agg (s.map v32).toArray] w fun e w'=>e= .returned (.agg ((tellUpto s 32).map v8).toArray)/\Below w.heap.size w w':=by
 have Hs:=Lib.hid hs
 clear hs
 go_enter Tryz.func111,Tryz.ntmps111
 go_wp2_with (first
  | (refine wpList_box_arr rfl 153 _ rfl _ rfl ?_)
  | (refine wpList_alloc_arr rfl 25 rfl _ info26 ?_))
 have f0:=((Blk.new w (s.map v32).toArray 153).old (Obj.cells (zero32.map v8).toArray 25)).old (Obj.cells (zero32.map v8).toArray 25)
 have f1:=(Blk.new (w.alloc (Obj.cells (s.map v32).toArray 153)) (zero32.map v8).toArray 25).old (Obj.cells (zero32.map v8).toArray 25)
 have f2:=Blk.new ((w.alloc (Obj.cells (s.map v32).toArray 153)).alloc (Obj.cells (zero32.map v8).toArray 25)) (zero32.map v8).toArray 25
 have b3:=(((Below.refl w.heap.size w).alloc (by simp) (Obj.cells (s.map v32).toArray 153)).alloc (by simp) (Obj.cells (zero32.map v8).toArray 25)).alloc (by simp;omega) (Obj.cells (zero32.map v8).toArray 25)
 generalize(((w.alloc (Obj.cells (s.map v32).toArray 153)).alloc (Obj.cells (zero32.map v8).toArray 25)).alloc (Obj.cells (zero32.map v8).toArray 25))=w3 at *
 simp only[World.size_alloc]at f0 f1 f2
 go_loopw [5] (fun i wr=>∃k:Nat,k<=32/\i= .int .i64 k/\Below w.heap.size w wr/\Blk wr w.heap.size (s.map v32) 153/\Blk wr (w.heap.size+1) (zero32.map v8) 25/\Blk wr (w.heap.size+1+1) ((tellUpto s k).map v8) 25) (fun i _=>32 - (intOf i).toNat)
 case atStart=>exact⟨0,by omega,rfl,b3,f0,f1,by rw[tellUpto_zero];exact f2⟩
 case round=>
  clear b3 f0 f1 f2
  obtain⟨k,hk,rfl,hb,h0,h1,h2⟩:=hrel
  have H0:=Lib.hid h0
  have H1:=Lib.hid h1
  have H2:=Lib.hid h2
  clear h0 h1 h2
  by_cases hlt:k < 32
  ·obtain⟨x,hx⟩:∃x,x=s.getD (k / 4) 0:=⟨_,rfl⟩
   have c0:wr.cell? ⟨w.heap.size,k / 4,none⟩=some (v32 x):=by
    rw[H0.out.cell,List.getElem?_map,List.getElem?_eq_getElem (by rw[Hs.out];omega),hx];simp[Hs.out,show k / 4 < 8 by omega]
   have c2:wr.cell? ⟨w.heap.size+1+1,k,none⟩=some (v8 ((tellUpto s k).getD k 0)):=by
    rw[H2.out.cell,List.getElem?_map,List.getElem?_eq_getElem (by rw[tellUpto_length];omega)];simp[tellUpto_length,hlt]
   have cf:wr.frozen? ⟨w.heap.size+1+1,k,none⟩=false:=H2.out.free _
   have HX:=Lib.hid hx
   clear hx
   have y0:(0:Int)<=24 - 8*((k:Int) % 4):=by omega
   have y1:24 - 8*((k:Int) % 4)<=(32:Int):=by omega
   have y2:8*((k:Int) % 4)<=(24:Int):=by omega
   go_wp2_with fail
   go_roundw
   case rel=>
    refine⟨k+1,by omega,by go_num,hb.setCell (by simp;omega) _,H0.out.setOther _ _ (by simp;omega),H1.out.setOther _ _ (by simp),?_⟩
    rw[tellUpto_succ s k (U x / 2 ^ (24 - 8*(k % 4)) % 256) (by rw[HX.out];rfl)]
    exact H2.out.set _ _
   case measure=>simp[intOf];omega
  ·obtain rfl:k=32:=by omega
   have hsz2:(Tryz.prog.info? 25).map (fun i=>i.size)=some ((tellUpto s 32).map v8).toArray.size:=by rw[size26];simp[tellUpto_length]
   go_wp2_with (first
    | (refine wpList_load_row rfl 25 _ rfl _ rfl _ _ _ _ H2.out (Tryz.underlying25) rfl hsz2 ?_)
    | (refine wpList_store_row rfl 25 _ _ rfl _ _ rfl rfl _ _ H1.out hsz2 (by simp[zero32_length,tellUpto_length]) (one8 _) ?_))
   refine bodyPost_ret (v:=.agg ((tellUpto s 32).map v8).toArray) ?_ rfl ⟨rfl,Below.setRow hb (by omega) _⟩
   exact results_cell_row rfl _ _ _ _ _ _ _ rfl (H1.out.row _) (Tryz.underlying25) rfl hsz2
theorem byte_info:(Tryz.prog.info? 5).map (fun i=>(i.zero,i.size,i.bytes))=some (some (.int .u8 0),1,1):=by kernel_rfl
theorem one8l (l:List Int):∀u∈l.map v8,u.oneCell'=true:=by simp[Value.oneCell']
theorem ending_any (zs:List Int)(N:Int)(p:Option Addr)(cap:Nat)(w:World)(hl:zs.length < 64)(hA:At w p (zs.map v8))(hc:zs.length<=cap)(hp:p=none->cap=0)(hN:0<=N/\N<=18446744073709551615):
 Calls Tryz.prog 112 #[.slice p zs.length cap,.int .u64 N] w
  fun e w'=>∃v,e= .returned v/\w'.ownsRow w.heap.size 5 1 v (ending zs N).length ((ending zs N).map v8)/\Below w.heap.size w w':=by
 obtain⟨i0,hi,hz0,hz1,hz2⟩:=info_parts byte_info
 obtain⟨len,hlen⟩:∃n,n=zs.length:=⟨_,rfl⟩
 rw[<-hlen]at hc hl ⊢
 have Hlen:=Lib.hid hlen
 have HA:=Lib.hid hA
 clear hlen hA
 go_enter Tryz.func112,Tryz.ntmps112
 go_wp2_with (first
  | (at_make;refine wpList_make_own _ rfl _ _ 26 rfl w.heap.size 5 i0 (.int .u8 0) 1 Tryz.underlying26 hi hz0 hz1 .i64 .i64 128 128 rfl rfl (by omega) (by rw[hz2];decide) (by decide) (Nat.le_refl _) ?_;intro w1 hown1 hgrow1;have hb1:Below w.heap.size w w1:=(Below.refl _ _).grown hgrow1 (Nat.le_refl _) (by simp))
  | (at_builtin;refine wpList_app rfl (.tmp 7) (.tmp 8) 26 rfl w.heap.size 5 Tryz.underlying26 byte_info rfl _ _ _ rfl hown1 p len cap (zs.map v8) rfl (HA.out.below hb1) (by simp[Hlen.out]) hp hc (one8l _) (by omega) (by unfold maxLen;omega) hb1.size ?_;intro v2 w2 hown2 _ hb2 hs2 _;simp only[Nat.zero_add,List.nil_append]at hown2)
  | (at_builtin;refine wpList_app rfl (.tmp 10) (.tmp 11) 26 rfl w.heap.size 5 Tryz.underlying26 byte_info rfl _ _ _ rfl (hown2.alloc _) _ 1 1 [v8 128] rfl (at_one _ _ _) rfl (by simp) (Nat.le_refl _) (one8l [128]) (by omega) (by unfold maxLen;omega) (by simp;omega) ?_;intro v3 w3 hown3 _ hb3 hs3 _))
 have hb4:Below w.heap.size w w3:=(hb1.trans (hb2.alloc hs2 _)).trans hb3
 have hown4:w3.ownsRow w.heap.size 5 1 v3 (len+1) ((zs++[128]).map v8):=by simpa using hown3
 clear hown1 hgrow1 hb1 hb2 hs2 hown2 hown3 hb3
 go_loopw [5] (fun v wr=>∃k:Nat,k<=noughts len/\wr.ownsRow w.heap.size 5 1 v (len+1+k) ((zs++[128]++List.replicate k 0).map v8)/\Below w.heap.size w wr/\w.heap.size<=wr.heap.size) (fun v _=>128 - lenOf v)
 case atStart=>exact⟨0,by omega,by simpa using hown4,hb4,hs3⟩
 case round=>
  clear hown4 hb4 hs3
  obtain⟨k,hk,hown,hb,hs⟩:=hrel
  obtain⟨g,c,rfl,hg,hmc,hcm,hgs⟩:=own_form hown (by omega)
  have HK:=Lib.hid hk
  have hle:=noughts_le len hl
  have n1:=noughts_lt len k hl
  have n2:=noughts_eq len hl
  obtain⟨m,hm⟩:∃m,m=len+1+k:=⟨_,rfl⟩
  rw[<-hm]at hown hmc n1 ⊢
  have hmle:m<=120:=by omega
  have hm1:1<=m:=by omega
  have HM:=Lib.hid hm
  by_cases hlt:k < noughts len
  ·have t1:(((m:Int) % 64) != 56)=true:=by rw[bne_iff_ne];have:=n1 hlt;omega
   have t2:(((m:Int) % 64) == 56)=false:=by rw[beq_eq_false_iff_ne];have:=n1 hlt;omega
   have HO:=Lib.hid hown
   clear hown hm n1 n2 hk hle
   go_wp2_with (at_builtin;refine wpList_app rfl (.tmp 17) (.tmp 18) 26 rfl w.heap.size 5 Tryz.underlying26 byte_info rfl _ _ _ rfl (HO.out.alloc _) _ 1 1 [v8 0] rfl (at_one _ _ _) rfl (by simp) (Nat.le_refl _) (one8l [0]) (by omega) (by unfold maxLen;omega) (by simp;omega) ?_;intro v3 w3 hown3 _ hb3 hs3 _)
   have hown5:w3.ownsRow w.heap.size 5 1 v3 (len+1+(k+1)) ((zs++[128]++List.replicate (k+1) 0).map v8):=by
    rw[HM.out]at hown3
    rw[List.replicate_succ',show len+1+(k+1)=len+1+k+1 by omega];simpa using hown3
   go_roundw
   case rel=>exact⟨k+1,by omega,hown5,(hb.alloc hs _).trans hb3,hs3⟩
   case measure=>
    obtain⟨g',c',rfl,_⟩:=own_form hown5 (by omega)
    have:=HM.out
    simp[lenOf];omega
  ·have hkn:k=noughts len:=by omega
   have t1:(((m:Int) % 64) != 56)=false:=by rw[bne_eq_false_iff_eq];rw[hkn]at hm;omega
   have t2:(((m:Int) % 64) == 56)=true:=by rw[beq_iff_eq];rw[hkn]at hm;omega
   have HO:Hid (wr.ownsRow w.heap.size 5 1 (.slice (some ⟨g,0,none⟩) m c) m ((zs++[128]++List.replicate (noughts len) 0).map v8)):=by rw[<-hkn];exact hown
   clear hown hm n1 n2 hk hle hkn HK HM
   go_wp2_with fail
   obtain⟨base,hbase⟩:∃l,l=zs++[128]++List.replicate (noughts len) 0:=⟨_,rfl⟩
   rw[<-hbase]at HO
   have HB:=Lib.hid hbase
   clear hbase
   go_loopw [5,20] (fun v i wr=>∃k:Nat,k<=8/\i= .int .i64 k/\wr.ownsRow w.heap.size 5 1 v (m+k) ((base++lenUpto N k).map v8)/\Below w.heap.size w wr/\w.heap.size<=wr.heap.size) (fun _ i _=>8 - (intOf i).toNat)
   case atStart=>exact⟨0,by omega,rfl,by rw[lenUpto_zero,List.append_nil];exact HO.out,hb,hs⟩
   case round=>
    clear HO hb hs hg hgs hmc
    obtain⟨k,hk,rfl,hown,hb,hs⟩:=hrel
    obtain⟨g,c,rfl,hg,hmc,hcm,hgs⟩:=own_form hown (by omega)
    have HO:=Lib.hid hown
    clear hown
    by_cases hlt:k < 8
    ·have y0:(0:Int)<=56 - 8*(k:Int):=by omega
     have y1:56 - 8*(k:Int)<=(64:Int):=by omega
     have y2:8*(k:Int)<=(56:Int):=by omega
     go_wp2_with (at_builtin;refine wpList_app rfl (.tmp 23) (.tmp 31) 26 rfl w.heap.size 5 Tryz.underlying26 byte_info rfl _ _ _ rfl (HO.out.alloc _) _ 1 1 [_] rfl (at_one _ _ _) rfl (by simp) (Nat.le_refl _) (by simp[Value.oneCell']) (by omega) (by unfold maxLen;omega) (by simp;omega) ?_;intro v3 w3 hown3 _ hb3 hs3 _)
     have hown5:w3.ownsRow w.heap.size 5 1 v3 (m+(k+1)) ((base++lenUpto N (k+1)).map v8):=by
      rw[lenUpto_succ];simpa[lenByte,Nat.add_assoc]using hown3
     go_roundw
     case rel=>exact⟨k+1,by omega,by go_num,hown5,(hb.alloc hs _).trans hb3,hs3⟩
     case measure=>simp[intOf];omega
    ·obtain rfl:k=8:=by omega
     have HL:Hid (m+8=(ending zs N).length/\base++lenUpto N 8=ending zs N):=by
      have e:base++lenUpto N 8=ending zs N:=by rw[HB.out,ending_eq,Hlen.out]
      refine⟨?_,e⟩
      have:=HO.out.1
      rw[e]at this;simpa using this.symm
     go_wp2_with fail
     go_ret
     refine⟨_,rfl,?_,hb⟩
     rw[<-HL.out.1,<-HL.out.2]
     exact HO.out
end
section
open Go.RowKit Sha
theorem through_len (s:List W)(zs:List Int)(p:Option Addr)(len cap:Nat)(w:World)(hl:len=zs.length)(hs:s.length=8)(hz:∀n∈zs,0<=n/\n<=255)(hA:At w p (zs.map v8))(hc:len<=cap)(hm:cap<=9223372036854775807):
 Calls Tryz.prog 109 #[.agg (s.map v32).toArray,.slice p len cap] w
  fun e w'=>e= .returned (.agg ((thru s kList zs (len / 64)).map v32).toArray)/\Below w.heap.size w w':=by
 subst hl;exact through_any s zs p cap w hs hz hA hc hm
theorem ending_len (zs:List Int)(N:Int)(p:Option Addr)(len cap:Nat)(w:World)(hl:len=zs.length)(h64:len < 64)(hA:At w p (zs.map v8))(hc:len<=cap)(hp:p=none->cap=0)(hN:0<=N/\N<=18446744073709551615):
 Calls Tryz.prog 112 #[.slice p len cap,.int .u64 N] w
  fun e w'=>∃v,e= .returned v/\w'.ownsRow w.heap.size 5 1 v (ending zs N).length ((ending zs N).map v8)/\Below w.heap.size w w':=by
 subst hl;exact ending_any zs N p cap w h64 hA hc hp hN
theorem first8_length:first8.length=8:=by unfold first8;rfl
theorem sum_any (zs:List Int)(p:Option Addr)(cap:Nat)(w:World)(hz:∀n∈zs,0<=n/\n<=255)(hA:At w p (zs.map v8))(hc:zs.length<=cap)(hp:p=none->cap=0)(hm:cap<=9223372036854775807):
 Calls Tryz.prog 73 #[.slice p zs.length cap] w fun e w'=>e= .returned (.agg ((Sha.sum zs).map v8).toArray)/\Below w.heap.size w w':=by
 obtain⟨len,hlen⟩:∃n,n=zs.length:=⟨_,rfl⟩
 obtain⟨wl,hwl⟩:∃n,n=wholeOf zs:=⟨_,rfl⟩
 rw[<-hlen]at hc ⊢
 have hw1:((len:Int) - (len:Int) % 64)=(wl:Int):=by rw[hwl,hlen];unfold wholeOf;omega
 have hw2:wl<=len:=by omega
 have hw3:len - wl < 64:=by omega
 have Hlen:=Lib.hid hlen
 have Hwl:=Lib.hid hwl
 have HA:=Lib.hid hA
 clear hlen hwl hA
 go_enter Tryz.func73,Tryz.ntmps73
 go_upto_region 2 with(refine wpList_alloc_arr rfl 25 rfl _ info26 ?_)
 obtain⟨w1,hw⟩:∃w1,w1=w.alloc (Obj.cells (zero32.map v8).toArray 25):=⟨_,rfl⟩
 have f0:Blk w1 w.heap.size (zero32.map v8) 25:=by rw[hw];exact Blk.new _ _ _
 have b1:Below w.heap.size w w1:=by rw[hw];exact(Below.refl _ _).alloc (by simp) _
 have z1:w1.heap.size=w.heap.size+1:=by rw[hw];simp
 rw[<-hw]
 clear hw
 obtain⟨p',hp'⟩:∃p',p'=if cap=0 then p else p.map (·.add 0):=⟨_,rfl⟩
 have HCUT:Hid (∀w,(Instr.sliceAt 26 (.slice p len cap) none (some (.int .i64 (wl:Int))) none).run Tryz.prog w= .ok (.slice p' wl cap) w):=fun w=>by
  have:=run_cut_h (P:=Tryz.prog) 26 5 p len cap Tryz.underlying26 slice1 .i64 (wl:Int) (by omega) (by omega) w
  rw[this,Int.toNat_natCast];unfold cutV;rw[hp'];simp
 have hP:At w p' ((zs.take wl).map v8):=by
  have:=HA.out.sub 0 wl cap (by rw[List.length_map,<-Hlen.out];exact hc)
  rw[hp'];simpa[List.map_take]using this
 have hLw:wl=(zs.take wl).length:=by rw[List.length_take,<-Hlen.out];omega
 have hZt:∀n∈zs.take wl,0<=n/\n<=255:=fun n hn=>hz n (List.mem_of_mem_take hn)
 have hszt:(Tryz.prog.info? 153).map (fun i=>i.size)=some ((thru first8 kList (zs.take wl) (wl / 64)).map v32).toArray.size:=by rw[size44];simp[thru_length,first8_length]
 have HP:Hid (∀wv,Below (w.heap.size+1) w1 wv->At wv p' ((zs.take wl).map v8)):=fun wv hb=>hP.below (b1.trans (hb.mono (by omega)))
 have HLw:=Lib.hid hLw
 have HZt:=Lib.hid hZt
 clear hp' hP hLw hZt
 go_cut [4] (fun s4 wx=>∃g:Nat,s4= .pointer (some ⟨g,0,none⟩)/\w.heap.size+1<=g/\Below (w.heap.size+1) w1 wx/\Blk wx g ((thru first8 kList (zs.take wl) (wl / 64)).map v32) 153)
 case first=>
  refine wp_region_any (by kernel_rfl) ?_
  change wpAny _ _ _ _ _ _ _ (World.drew _)
  have hI:Two w1 (w.heap.size+1) false false 153 153 [] [] 0 0 w1.drew:=⟨(Below.refl _ _).drew,by rw[<-z1];exact Nat.le_refl _,by simp,by simp,by simp⟩
  generalize w1.drew=wv at hI ⊢
  refine wpAny_take (i:=1) rfl (by kernel_rfl) (by kernel_rfl) (by kernel_rfl) (fun _ _ _ h=>h) (yields_move rfl _ rfl (.slice p len cap) rfl) ?_
  refine wpAny_take (i:=2) rfl (by kernel_rfl) (by kernel_rfl) (by kernel_rfl) (fun _ _ _ h=>h) (yields_move rfl _ rfl (.int .i64 (wl:Int)) rfl) ?_
  simp only[Act.put,List.setIfInBounds_toArray,List.set_cons_zero,List.set_cons_succ,List.getElem_toArray,List.getElem_cons_succ,List.getElem_cons_zero]
  refine wpAny_take (i:=3) rfl (by kernel_rfl) (by kernel_rfl) (by kernel_rfl) (fun _ _ _ h=>h) (yields_cut rfl 26 (.tmp 12) none (some (.tmp 13)) rfl _ HCUT.out) ?_
  simp only[Act.put,List.setIfInBounds_toArray,List.set_cons_zero,List.set_cons_succ,List.getElem_toArray,List.getElem_cons_succ,List.getElem_cons_zero]
  iterate 4
   (all_goals first
     | (refine wpAny_ready (rs:=[0,5]) ?_ (List.cons_ne_nil _ _) ?_;decide +kernel;refine(ready_step rfl rfl (fun K hK=>?_) (ready_step rfl rfl (fun K hK=>?_) AllReady.nil)))
     | (refine wpAny_ready (rs:=[0]) ?_ (List.cons_ne_nil _ _) ?_;decide +kernel;refine(ready_step rfl rfl (fun K hK=>?_) AllReady.nil))
     | (refine wpAny_ready (rs:=[4,5]) ?_ (List.cons_ne_nil _ _) ?_;decide +kernel;refine(ready_step rfl rfl (fun K hK=>?_) (ready_step rfl rfl (fun K hK=>?_) AllReady.nil)))
     | (refine wpAny_ready (rs:=[5]) ?_ (List.cons_ne_nil _ _) ?_;decide +kernel;refine(ready_step rfl rfl (fun K hK=>?_) AllReady.nil))
     | (refine wpAny_ready (rs:=[4]) ?_ (List.cons_ne_nil _ _) ?_;decide +kernel;refine(ready_step rfl rfl (fun K hK=>?_) AllReady.nil))
     | (refine wpAny_ready (rs:=[6]) ?_ (List.cons_ne_nil _ _) ?_;decide +kernel;refine(ready_step rfl rfl (fun K hK=>?_) AllReady.nil))
    all_goals first
     | (refine wp_alloc_arr 153 rfl _ info44 ?_;have hI:=hI.alloc1 (zeros8.map v32);refine hK _ _ ?_;try simp only[Act.put,List.setIfInBounds_toArray,List.set_cons_zero,List.set_cons_succ,List.getElem_toArray,List.getElem_cons_succ,List.getElem_cons_zero,World.size_alloc]at hI ⊢;clear hK K)
     | (refine wp_store_row 153 _ _ rfl _ _ rfl rfl _ _ (hI.one rfl).2 hszt (by simp[zeros8_length,thru_length,first8_length]) (one32 _) ?_;have hI:=hI.store1 ((thru first8 kList (zs.take wl) (wl / 64)).map v32);refine hK _ _ ?_;try simp only[Act.put,List.setIfInBounds_toArray,List.set_cons_zero,List.set_cons_succ,List.getElem_toArray,List.getElem_cons_succ,List.getElem_cons_zero,World.size_alloc]at hI ⊢;clear hK K)
     | (go_simp;go_at_call 110;refine(first_any _).mono ?_;rintro e w2 ⟨rfl,hb2⟩;have hI:=hI.call hb2;refine hK _ _ ?_;try simp only[Act.put,List.setIfInBounds_toArray,List.set_cons_zero,List.set_cons_succ,List.getElem_toArray,List.getElem_cons_succ,List.getElem_cons_zero,World.size_alloc]at hI ⊢;clear hK K)
     | (go_simp;go_at_call 109;refine(through_len _ _ _ _ _ _ HLw.out first8_length HZt.out (HP.out _ hI.below) (by omega) (by omega)).mono ?_;rintro e w2 ⟨rfl,hb2⟩;have hI:=hI.call hb2;refine hK _ _ ?_;try simp only[Act.put,List.setIfInBounds_toArray,List.set_cons_zero,List.set_cons_succ,List.getElem_toArray,List.getElem_cons_succ,List.getElem_cons_zero,World.size_alloc]at hI ⊢;clear hK K))
  all_goals
   refine wpAny_done (by decide +kernel) ?_ _
   go_wp2_with fail
   go_meet
   exact⟨_,rfl,(hI.one rfl).1,hI.below,(hI.one rfl).2⟩
 case rest=>
  obtain⟨g4,rfl,hg4,hb4,hB4⟩:=hcut
  obtain⟨s1,hs1⟩:∃s1,s1=thru first8 kList (zs.take wl) (wl / 64):=⟨_,rfl⟩
  have hs8:s1.length=8:=by rw[hs1,thru_length,first8_length]
  rw[<-hs1]at hB4
  have HS1:=Lib.hid hs1
  have HS8:=Lib.hid hs8
  have HB4:=Lib.hid hB4
  have HF0:=Lib.hid (f0.below hb4 (by omega))
  have HBB:=Lib.hid (b1.trans (hb4.mono (by omega)))
  have hZd:∀n∈zs.drop wl,0<=n/\n<=255:=fun n hn=>hz n (List.mem_of_mem_drop hn)
  have hLd:len - wl=(zs.drop wl).length:=by rw[List.length_drop,<-Hlen.out]
  have hsz44:(Tryz.prog.info? 153).map (fun i=>i.size)=some (s1.map v32).length:=by rw[size44];simp[hs8]
  have HCUT2:Hid (∀w,(Instr.sliceAt 26 (.slice p len cap) (some (.int .i64 (wl:Int))) none none).run Tryz.prog w= .ok (cutV p wl len cap) w):=fun w=>by
   have:=run_cut_l (P:=Tryz.prog) 26 5 p len cap Tryz.underlying26 slice1 .i64 (wl:Int) (by omega) (by omega) w
   rwa [Int.toNat_natCast]at this
  have HZD:=Lib.hid hZd
  have HLD:=Lib.hid hLd
  clear f0 b1 hb4 hB4 hs1 hs8 hZd hLd hszt z1 HP
  obtain⟨p2,hp2⟩:∃p2,p2=if cap=wl then p else p.map (·.add wl):=⟨_,rfl⟩
  have hA2:At w p2 ((zs.drop wl).map v8):=by
   have:=HA.out.sub wl len cap (by rw[List.length_map,<-Hlen.out];exact hc)
   rw[List.take_of_length_le (by rw[List.length_map,<-Hlen.out];exact Nat.le_refl _)]at this
   rw[hp2];simpa[List.map_drop]using this
  have hn2:p2=none->cap - wl=0:=by
   intro h;rw[hp2]at h
   split at h
   ·omega
   ·have:=hp (by simpa using h);omega
  have HCUT3:Hid (∀w,(Instr.sliceAt 26 (.slice p len cap) (some (.int .i64 (wl:Int))) none none).run Tryz.prog w= .ok (.slice p2 (len - wl) (cap - wl)) w):=fun w=>by
   rw[HCUT2.out w,hp2];rfl
  have HA2:=Lib.hid hA2
  clear hp2 hA2 HCUT2
  go_wp2_with fail
  refine wp_region_held (S:=fun wv=>Blk wv g4 (s1.map v32) 153) (by kernel_rfl) ?_
  change wpAnyH _ _ _ _ _ _ _ _ (World.drew _)
  have hS:Blk wc.drew g4 (s1.map v32) 153:=HB4.out.drew
  have hF:Blk wc.drew w.heap.size (zero32.map v8) 25:=HF0.out.drew
  have hBw:Below w.heap.size w wc.drew:=HBB.out.drew
  generalize wc.drew=wv at hS hF hBw ⊢
  refine wpAnyH_take (i:=0) rfl (by kernel_rfl) (by kernel_rfl) (by kernel_rfl) (fun _ _ _ h=>h) (yieldsIf_load_row rfl 153 (.tmp 4) rfl _ rfl _ _ _ (fun _ h=>h) (Tryz.underlying153) rfl hsz44) hS ?_
  simp only[Act.put,List.setIfInBounds_toArray,List.set_cons_zero,List.set_cons_succ,List.getElem_toArray,List.getElem_cons_succ,List.getElem_cons_zero]
  refine wpAnyH_take (i:=1) rfl (by kernel_rfl) (by kernel_rfl) (by kernel_rfl) (fun _ _ _ h=>h) (Yields.yieldsIf (yields_move rfl _ rfl (.slice p len cap) rfl)) hS ?_
  simp only[Act.put,List.setIfInBounds_toArray,List.set_cons_zero,List.set_cons_succ,List.getElem_toArray,List.getElem_cons_succ,List.getElem_cons_zero]
  refine wpAnyH_take (i:=2) rfl (by kernel_rfl) (by kernel_rfl) (by kernel_rfl) (fun _ _ _ h=>h) (Yields.yieldsIf (yields_move rfl _ rfl (.int .i64 (wl:Int)) rfl)) hS ?_
  simp only[Act.put,List.setIfInBounds_toArray,List.set_cons_zero,List.set_cons_succ,List.getElem_toArray,List.getElem_cons_succ,List.getElem_cons_zero]
  refine wpAnyH_take (i:=3) rfl (by kernel_rfl) (by kernel_rfl) (by kernel_rfl) (fun _ _ _ h=>h) (Yields.yieldsIf (yields_cut rfl 26 (.tmp 17) (some (.tmp 18)) none rfl _ HCUT3.out)) hS ?_
  simp only[Act.put,List.setIfInBounds_toArray,List.set_cons_zero,List.set_cons_succ,List.getElem_toArray,List.getElem_cons_succ,List.getElem_cons_zero]
  refine wpAnyH_take (i:=4) rfl (by kernel_rfl) (by kernel_rfl) (by kernel_rfl) (fun _ _ _ h=>h) (Yields.yieldsIf (yields_move rfl _ rfl (.slice p len cap) rfl)) hS ?_
  simp only[Act.put,List.setIfInBounds_toArray,List.set_cons_zero,List.set_cons_succ,List.getElem_toArray,List.getElem_cons_succ,List.getElem_cons_zero]
  refine wpAnyH_take (i:=5) (v:=.int .i64 (len:Int)) rfl (by kernel_rfl) (by kernel_rfl) (by kernel_rfl) (fun _ _ _ h=>h) (Or.inl ⟨by rfl,fun _ _=>?_⟩) hS ?_
  ·go_simp
  simp only[Act.put,List.setIfInBounds_toArray,List.set_cons_zero,List.set_cons_succ,List.getElem_toArray,List.getElem_cons_succ,List.getElem_cons_zero]
  refine wpAnyH_take (i:=6) (v:=.int .u64 (len:Int)) rfl (by kernel_rfl) (by kernel_rfl) (by kernel_rfl) (fun _ _ _ h=>h) (Or.inl ⟨by rfl,fun _ _=>?_⟩) hS ?_
  ·go_simp
   exact IntWalk.u64_in _ (by omega)
  try simp only[Act.put,List.setIfInBounds_toArray,List.set_cons_zero,List.set_cons_succ,List.getElem_toArray,List.getElem_cons_succ,List.getElem_cons_zero]
  obtain⟨t,ht⟩:∃t,t=ending (zs.drop wl) (len:Int):=⟨_,rfl⟩
  have HT:=Lib.hid ht
  have htz:∀n∈t,0<=n/\n<=255:=by rw[ht];exact ending_bd _ _ HZD.out
  have HTZ:=Lib.hid htz
  clear ht htz
  refine wpAnyH_ready (rs:=[7]) ?_ (List.cons_ne_nil _ _) (ready_stepH rfl rfl (fun K hK=>?_) AllReadyH.nil)
  ·decide +kernel
  go_simp
  refine(ending_len (zs.drop wl) (len:Int) p2 (len - wl) (cap - wl) wv HLD.out hw3 (HA2.out.below hBw) (by omega) hn2 (by omega)).mono ?_
  rintro e w5 ⟨v5,rfl,hown5,hb5⟩
  rw[<-HT.out]at hown5
  obtain⟨p5,c5,rfl,hc5,hm5,hA5,hl5,hn5⟩:=own_at hown5
  have hS5:=hS.below hb5 hS.lt
  have hF5:=hF.below hb5 hF.lt
  have hB5:=hBw.trans (hb5.mono hBw.size)
  refine hK _ _ hS5 ?_
  try simp only[Act.put,List.setIfInBounds_toArray,List.set_cons_zero,List.set_cons_succ,List.getElem_toArray,List.getElem_cons_succ,List.getElem_cons_zero]
  clear hK K hown5 hb5
  refine wpAnyH_ready (rs:=[8]) ?_ (List.cons_ne_nil _ _) (ready_stepH rfl rfl (fun K hK=>?_) AllReadyH.nil)
  ·decide +kernel
  go_simp
  refine(through_any s1 t p5 c5 w5 HS8.out HTZ.out hA5 hc5 (by unfold maxLen at hm5;omega)).mono ?_
  rintro e w6 ⟨rfl,hb6⟩
  refine hK _ _ (hS5.below hb6 hS5.lt) ?_
  try simp only[Act.put,List.setIfInBounds_toArray,List.set_cons_zero,List.set_cons_succ,List.getElem_toArray,List.getElem_cons_succ,List.getElem_cons_zero]
  clear hK K
  refine wpAnyH_ready (rs:=[9]) ?_ (List.cons_ne_nil _ _) (ready_stepH rfl rfl (fun K hK=>?_) AllReadyH.nil)
  ·decide +kernel
  go_simp
  refine(tell_any (thru s1 kList t (t.length / 64)) w6 (by rw[thru_length,HS8.out])).mono ?_
  rintro e w7 ⟨rfl,hb7⟩
  have hS6:=hS5.below hb6 hS5.lt
  have hF6:=hF5.below hb6 hF5.lt
  have hF7:=hF6.below hb7 hF6.lt
  have hB7:=(hB5.trans (hb6.mono hB5.size)).trans (hb7.mono (hB5.trans (hb6.mono hB5.size)).size)
  refine hK _ _ (hS6.below hb7 hS6.lt) ?_
  try simp only[Act.put,List.setIfInBounds_toArray,List.set_cons_zero,List.set_cons_succ,List.getElem_toArray,List.getElem_cons_succ,List.getElem_cons_zero]
  clear hK K
  have hsz32:(Tryz.prog.info? 25).map (fun i=>i.size)=some ((tellUpto (thru s1 kList t (t.length / 64)) 32).map v8).toArray.size:=by rw[size26];simp[tellUpto_length]
  refine wpAnyH_ready (rs:=[10]) ?_ (List.cons_ne_nil _ _) (ready_stepH rfl rfl (fun K hK=>?_) AllReadyH.nil)
  ·decide +kernel
  refine wp_store_row 25 _ _ rfl _ _ rfl rfl _ _ hF7 hsz32 (by simp[zero32_length,tellUpto_length]) (one8 _) ?_
  refine hK _ _ ((hS6.below hb7 hS6.lt).rowOther _ (by omega)) ?_
  try simp only[Act.put,List.setIfInBounds_toArray,List.set_cons_zero,List.set_cons_succ,List.getElem_toArray,List.getElem_cons_succ,List.getElem_cons_zero]
  clear hK K
  refine wpAnyH_done (by decide +kernel) ?_ _
  go_wp2_with fail
  have hfin:Sha.sum zs=tellUpto (thru s1 kList t (t.length / 64)) 32:=by
   rw[sum_eq,<-Hwl.out,HT.out,HS1.out,<-HLw.out,<-Hlen.out]
  refine bodyPost_ret (v:=.agg ((tellUpto (thru s1 kList t (t.length / 64)) 32).map v8).toArray) ?_ rfl ⟨by rw[hfin],Below.setRow hB7 (by omega) _⟩
  exact results_cell_row rfl _ _ _ _ _ _ _ rfl (hF7.row _) (Tryz.underlying25) rfl hsz32
end
end Go.Proofs.YtokpabkcaofahaaGreat
