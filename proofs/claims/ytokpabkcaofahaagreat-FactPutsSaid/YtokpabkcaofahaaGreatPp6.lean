/-
  What stands under factPuts_holds: part 6.
-/
import Derived.Test.YtokpabkcaofahaaGreatPp5
import Derived.Test.YtokpabkcaofahaaGreatPp4
import Derived.Deep.WholeRow
import Derived.Test.YtokpabkcaofahaaGreatPp3
import Derived.Deep.RegionLaw
import Derived.Deep.DeepCutAuto
import Derived.Deep.CutBlock
import Derived.Laws.StructEq
import Derived.BigQuiet
import Derived.Deep.RegionHeld3
import Derived.Test.YtokpabkcaofahaaGreatPp1
import Derived.Deep.Quiet
import Derived.Deep.QuietTactic
import Derived.Deep.Cut
import Derived.BigRegion
namespace Go.Proofs.YtokpabkcaofahaaGreat
set_option linter.unusedSimpArgs false
set_option linter.unusedVariables false
set_option maxRecDepth 100000
set_option maxHeartbeats 20000000
section
open Go.RowKit Sha
theorem through_len (s:List W)(zs:List Int)(p:Option Addr)(len cap:Nat)(w:World)(hl:len=zs.length)(hs:s.length=8)(hz:∀n∈zs,0<=n/\n<=255)(hA:At w p (zs.map v8))(hc:len<=cap)(hm:cap<=9223372036854775807):
 Calls Tryz.prog 109 #[.agg (s.map v32).toArray,.slice p len cap] w
  fun e w'=>e= .returned (.agg ((thru s kList zs (len / 64)).map v32).toArray)/\Below w.heap.size w w':=by
 subst hl;exact through_any s zs p cap w hs hz hA hc hm
theorem ending_len (zs:List Int)(N:Int)(p:Option Addr)(len cap:Nat)(w:World)(hl:len=zs.length)(h64:len < 64)(hA:At w p (zs.map v8))(hc:len<=cap)(hp:p=none->cap=0)(hN:0<=N/\N<=18446744073709551615):
 Calls Tryz.prog 112 #[.slice p len cap,.int .u64 N] w
  fun e w'=>∃v,e= .returned v/\w'.ownsRow w.heap.size 5 1 v (ending zs N).length ((ending zs N).map v8)/\Below w.heap.size w w':=by
 subst hl;exact ending_any zs N p cap w h64 hA hc hp hN
theorem first8_length:first8.length=8:=by unfold first8;rfl
theorem sum_any (zs:List Int)(p:Option Addr)(cap:Nat)(w:World)(hz:∀n∈zs,0<=n/\n<=255)(hA:At w p (zs.map v8))(hc:zs.length<=cap)(hp:p=none->cap=0)(hm:cap<=9223372036854775807):
 Calls Tryz.prog 73 #[.slice p zs.length cap] w fun e w'=>e= .returned (.agg ((Sha.sum zs).map v8).toArray)/\Below w.heap.size w w':=by
 obtain⟨len,hlen⟩:∃n,n=zs.length:=⟨_,rfl⟩
 obtain⟨wl,hwl⟩:∃n,n=wholeOf zs:=⟨_,rfl⟩
 rw[<-hlen]at hc ⊢
 have hw1:((len:Int) - (len:Int) % 64)=(wl:Int):=by rw[hwl,hlen];unfold wholeOf;omega
 have hw2:wl<=len:=by omega
 have hw3:len - wl < 64:=by omega
 have Hlen:=Lib.hid hlen
 have Hwl:=Lib.hid hwl
 have HA:=Lib.hid hA
 clear hlen hwl hA
 go_enter Tryz.func73,Tryz.ntmps73
 go_upto_region 2 with(refine wpList_alloc_arr rfl 25 rfl _ info26 ?_)
 obtain⟨w1,hw⟩:∃w1,w1=w.alloc (Obj.cells (zero32.map v8).toArray 25):=⟨_,rfl⟩
 have f0:Blk w1 w.heap.size (zero32.map v8) 25:=by rw[hw];exact Blk.new _ _ _
 have b1:Below w.heap.size w w1:=by rw[hw];exact(Below.refl _ _).alloc (by simp) _
 have z1:w1.heap.size=w.heap.size+1:=by rw[hw];simp
 rw[<-hw]
 clear hw
 obtain⟨p',hp'⟩:∃p',p'=if cap=0 then p else p.map (·.add 0):=⟨_,rfl⟩
 have HCUT:Hid (∀w,(Instr.sliceAt 26 (.slice p len cap) none (some (.int .i64 (wl:Int))) none).run Tryz.prog w= .ok (.slice p' wl cap) w):=fun w=>by
  have:=run_cut_h (P:=Tryz.prog) 26 5 p len cap Tryz.underlying26 slice1 .i64 (wl:Int) (by omega) (by omega) w
  rw[this,Int.toNat_natCast];unfold cutV;rw[hp'];simp
 have hP:At w p' ((zs.take wl).map v8):=by
  have:=HA.out.sub 0 wl cap (by rw[List.length_map,<-Hlen.out];exact hc)
  rw[hp'];simpa[List.map_take]using this
 have hLw:wl=(zs.take wl).length:=by rw[List.length_take,<-Hlen.out];omega
 have hZt:∀n∈zs.take wl,0<=n/\n<=255:=fun n hn=>hz n (List.mem_of_mem_take hn)
 have hszt:(Tryz.prog.info? 153).map (fun i=>i.size)=some ((thru first8 kList (zs.take wl) (wl / 64)).map v32).toArray.size:=by rw[size44];simp[thru_length,first8_length]
 have HP:Hid (∀wv,Below (w.heap.size+1) w1 wv->At wv p' ((zs.take wl).map v8)):=fun wv hb=>hP.below (b1.trans (hb.mono (by omega)))
 have HLw:=Lib.hid hLw
 have HZt:=Lib.hid hZt
 clear hp' hP hLw hZt
 go_cut [4] (fun s4 wx=>∃g:Nat,s4= .pointer (some ⟨g,0,none⟩)/\w.heap.size+1<=g/\Below (w.heap.size+1) w1 wx/\Blk wx g ((thru first8 kList (zs.take wl) (wl / 64)).map v32) 153)
 case first=>
  refine wp_region_any (by kernel_rfl) ?_
  change wpAny _ _ _ _ _ _ _ (World.drew _)
  have hI:Two w1 (w.heap.size+1) false false 153 153 [] [] 0 0 w1.drew:=⟨(Below.refl _ _).drew,by rw[<-z1];exact Nat.le_refl _,by simp,by simp,by simp⟩
  generalize w1.drew=wv at hI ⊢
  refine wpAny_take (i:=1) rfl (by kernel_rfl) (by kernel_rfl) (by kernel_rfl) (fun _ _ _ h=>h) (yields_move rfl _ rfl (.slice p len cap) rfl) ?_
  refine wpAny_take (i:=2) rfl (by kernel_rfl) (by kernel_rfl) (by kernel_rfl) (fun _ _ _ h=>h) (yields_move rfl _ rfl (.int .i64 (wl:Int)) rfl) ?_
  simp only[Act.put,List.setIfInBounds_toArray,List.set_cons_zero,List.set_cons_succ,List.getElem_toArray,List.getElem_cons_succ,List.getElem_cons_zero]
  refine wpAny_take (i:=3) rfl (by kernel_rfl) (by kernel_rfl) (by kernel_rfl) (fun _ _ _ h=>h) (yields_cut rfl 26 (.tmp 12) none (some (.tmp 13)) rfl _ HCUT.out) ?_
  simp only[Act.put,List.setIfInBounds_toArray,List.set_cons_zero,List.set_cons_succ,List.getElem_toArray,List.getElem_cons_succ,List.getElem_cons_zero]
  iterate 4
   (all_goals first
     | (refine wpAny_ready (rs:=[0,5]) ?_ (List.cons_ne_nil _ _) ?_;decide +kernel;refine(ready_step rfl rfl (fun K hK=>?_) (ready_step rfl rfl (fun K hK=>?_) AllReady.nil)))
     | (refine wpAny_ready (rs:=[0]) ?_ (List.cons_ne_nil _ _) ?_;decide +kernel;refine(ready_step rfl rfl (fun K hK=>?_) AllReady.nil))
     | (refine wpAny_ready (rs:=[4,5]) ?_ (List.cons_ne_nil _ _) ?_;decide +kernel;refine(ready_step rfl rfl (fun K hK=>?_) (ready_step rfl rfl (fun K hK=>?_) AllReady.nil)))
     | (refine wpAny_ready (rs:=[5]) ?_ (List.cons_ne_nil _ _) ?_;decide +kernel;refine(ready_step rfl rfl (fun K hK=>?_) AllReady.nil))
     | (refine wpAny_ready (rs:=[4]) ?_ (List.cons_ne_nil _ _) ?_;decide +kernel;refine(ready_step rfl rfl (fun K hK=>?_) AllReady.nil))
     | (refine wpAny_ready (rs:=[6]) ?_ (List.cons_ne_nil _ _) ?_;decide +kernel;refine(ready_step rfl rfl (fun K hK=>?_) AllReady.nil))
    all_goals first
     | (refine wp_alloc_arr 153 rfl _ info44 ?_;have hI:=hI.alloc1 (zeros8.map v32);refine hK _ _ ?_;try simp only[Act.put,List.setIfInBounds_toArray,List.set_cons_zero,List.set_cons_succ,List.getElem_toArray,List.getElem_cons_succ,List.getElem_cons_zero,World.size_alloc]at hI ⊢;clear hK K)
     | (refine wp_store_row 153 _ _ rfl _ _ rfl rfl _ _ (hI.one rfl).2 hszt (by simp[zeros8_length,thru_length,first8_length]) (one32 _) ?_;have hI:=hI.store1 ((thru first8 kList (zs.take wl) (wl / 64)).map v32);refine hK _ _ ?_;try simp only[Act.put,List.setIfInBounds_toArray,List.set_cons_zero,List.set_cons_succ,List.getElem_toArray,List.getElem_cons_succ,List.getElem_cons_zero,World.size_alloc]at hI ⊢;clear hK K)
     | (go_simp;go_at_call 110;refine(first_any _).mono ?_;rintro e w2 ⟨rfl,hb2⟩;have hI:=hI.call hb2;refine hK _ _ ?_;try simp only[Act.put,List.setIfInBounds_toArray,List.set_cons_zero,List.set_cons_succ,List.getElem_toArray,List.getElem_cons_succ,List.getElem_cons_zero,World.size_alloc]at hI ⊢;clear hK K)
     | (go_simp;go_at_call 109;refine(through_len _ _ _ _ _ _ HLw.out first8_length HZt.out (HP.out _ hI.below) (by omega) (by omega)).mono ?_;rintro e w2 ⟨rfl,hb2⟩;have hI:=hI.call hb2;refine hK _ _ ?_;try simp only[Act.put,List.setIfInBounds_toArray,List.set_cons_zero,List.set_cons_succ,List.getElem_toArray,List.getElem_cons_succ,List.getElem_cons_zero,World.size_alloc]at hI ⊢;clear hK K))
  all_goals
   refine wpAny_done (by decide +kernel) ?_ _
   go_wp2_with fail
   go_meet
   exact⟨_,rfl,(hI.one rfl).1,hI.below,(hI.one rfl).2⟩
 case rest=>
  obtain⟨g4,rfl,hg4,hb4,hB4⟩:=hcut
  obtain⟨s1,hs1⟩:∃s1,s1=thru first8 kList (zs.take wl) (wl / 64):=⟨_,rfl⟩
  have hs8:s1.length=8:=by rw[hs1,thru_length,first8_length]
  rw[<-hs1]at hB4
  have HS1:=Lib.hid hs1
  have HS8:=Lib.hid hs8
  have HB4:=Lib.hid hB4
  have HF0:=Lib.hid (f0.below hb4 (by omega))
  have HBB:=Lib.hid (b1.trans (hb4.mono (by omega)))
  have hZd:∀n∈zs.drop wl,0<=n/\n<=255:=fun n hn=>hz n (List.mem_of_mem_drop hn)
  have hLd:len - wl=(zs.drop wl).length:=by rw[List.length_drop,<-Hlen.out]
  have hsz44:(Tryz.prog.info? 153).map (fun i=>i.size)=some (s1.map v32).length:=by rw[size44];simp[hs8]
  have HCUT2:Hid (∀w,(Instr.sliceAt 26 (.slice p len cap) (some (.int .i64 (wl:Int))) none none).run Tryz.prog w= .ok (cutV p wl len cap) w):=fun w=>by
   have:=run_cut_l (P:=Tryz.prog) 26 5 p len cap Tryz.underlying26 slice1 .i64 (wl:Int) (by omega) (by omega) w
   rwa [Int.toNat_natCast]at this
  have HZD:=Lib.hid hZd
  have HLD:=Lib.hid hLd
  clear f0 b1 hb4 hB4 hs1 hs8 hZd hLd hszt z1 HP
  obtain⟨p2,hp2⟩:∃p2,p2=if cap=wl then p else p.map (·.add wl):=⟨_,rfl⟩
  have hA2:At w p2 ((zs.drop wl).map v8):=by
   have:=HA.out.sub wl len cap (by rw[List.length_map,<-Hlen.out];exact hc)
   rw[List.take_of_length_le (by rw[List.length_map,<-Hlen.out];exact Nat.le_refl _)]at this
   rw[hp2];simpa[List.map_drop]using this
  have hn2:p2=none->cap - wl=0:=by
   intro h;rw[hp2]at h
   split at h
   ·omega
   ·have:=hp (by simpa using h);omega
  have HCUT3:Hid (∀w,(Instr.sliceAt 26 (.slice p len cap) (some (.int .i64 (wl:Int))) none none).run Tryz.prog w= .ok (.slice p2 (len - wl) (cap - wl)) w):=fun w=>by
   rw[HCUT2.out w,hp2];rfl
  have HA2:=Lib.hid hA2
  clear hp2 hA2 HCUT2
  go_wp2_with fail
  refine wp_region_held (S:=fun wv=>Blk wv g4 (s1.map v32) 153) (by kernel_rfl) ?_
  change wpAnyH _ _ _ _ _ _ _ _ (World.drew _)
  have hS:Blk wc.drew g4 (s1.map v32) 153:=HB4.out.drew
  have hF:Blk wc.drew w.heap.size (zero32.map v8) 25:=HF0.out.drew
  have hBw:Below w.heap.size w wc.drew:=HBB.out.drew
  generalize wc.drew=wv at hS hF hBw ⊢
  refine wpAnyH_take (i:=0) rfl (by kernel_rfl) (by kernel_rfl) (by kernel_rfl) (fun _ _ _ h=>h) (yieldsIf_load_row rfl 153 (.tmp 4) rfl _ rfl _ _ _ (fun _ h=>h) (Tryz.underlying153) rfl hsz44) hS ?_
  simp only[Act.put,List.setIfInBounds_toArray,List.set_cons_zero,List.set_cons_succ,List.getElem_toArray,List.getElem_cons_succ,List.getElem_cons_zero]
  refine wpAnyH_take (i:=1) rfl (by kernel_rfl) (by kernel_rfl) (by kernel_rfl) (fun _ _ _ h=>h) (Yields.yieldsIf (yields_move rfl _ rfl (.slice p len cap) rfl)) hS ?_
  simp only[Act.put,List.setIfInBounds_toArray,List.set_cons_zero,List.set_cons_succ,List.getElem_toArray,List.getElem_cons_succ,List.getElem_cons_zero]
  refine wpAnyH_take (i:=2) rfl (by kernel_rfl) (by kernel_rfl) (by kernel_rfl) (fun _ _ _ h=>h) (Yields.yieldsIf (yields_move rfl _ rfl (.int .i64 (wl:Int)) rfl)) hS ?_
  simp only[Act.put,List.setIfInBounds_toArray,List.set_cons_zero,List.set_cons_succ,List.getElem_toArray,List.getElem_cons_succ,List.getElem_cons_zero]
  refine wpAnyH_take (i:=3) rfl (by kernel_rfl) (by kernel_rfl) (by kernel_rfl) (fun _ _ _ h=>h) (Yields.yieldsIf (yields_cut rfl 26 (.tmp 17) (some (.tmp 18)) none rfl _ HCUT3.out)) hS ?_
  simp only[Act.put,List.setIfInBounds_toArray,List.set_cons_zero,List.set_cons_succ,List.getElem_toArray,List.getElem_cons_succ,List.getElem_cons_zero]
  refine wpAnyH_take (i:=4) rfl (by kernel_rfl) (by kernel_rfl) (by kernel_rfl) (fun _ _ _ h=>h) (Yields.yieldsIf (yields_move rfl _ rfl (.slice p len cap) rfl)) hS ?_
  simp only[Act.put,List.setIfInBounds_toArray,List.set_cons_zero,List.set_cons_succ,List.getElem_toArray,List.getElem_cons_succ,List.getElem_cons_zero]
  refine wpAnyH_take (i:=5) (v:=.int .i64 (len:Int)) rfl (by kernel_rfl) (by kernel_rfl) (by kernel_rfl) (fun _ _ _ h=>h) (Or.inl ⟨by rfl,fun _ _=>?_⟩) hS ?_
  ·go_simp
  simp only[Act.put,List.setIfInBounds_toArray,List.set_cons_zero,List.set_cons_succ,List.getElem_toArray,List.getElem_cons_succ,List.getElem_cons_zero]
  refine wpAnyH_take (i:=6) (v:=.int .u64 (len:Int)) rfl (by kernel_rfl) (by kernel_rfl) (by kernel_rfl) (fun _ _ _ h=>h) (Or.inl ⟨by rfl,fun _ _=>?_⟩) hS ?_
  ·go_simp
   exact IntWalk.u64_in _ (by omega)
  try simp only[Act.put,List.setIfInBounds_toArray,List.set_cons_zero,List.set_cons_succ,List.getElem_toArray,List.getElem_cons_succ,List.getElem_cons_zero]
  obtain⟨t,ht⟩:∃t,t=ending (zs.drop wl) (len:Int):=⟨_,rfl⟩
  have HT:=Lib.hid ht
  have htz:∀n∈t,0<=n/\n<=255:=by rw[ht];exact ending_bd _ _ HZD.out
  have HTZ:=Lib.hid htz
  clear ht htz
  refine wpAnyH_ready (rs:=[7]) ?_ (List.cons_ne_nil _ _) (ready_stepH rfl rfl (fun K hK=>?_) AllReadyH.nil)
  ·decide +kernel
  go_simp
  refine(ending_len (zs.drop wl) (len:Int) p2 (len - wl) (cap - wl) wv HLD.out hw3 (HA2.out.below hBw) (by omega) hn2 (by omega)).mono ?_
  rintro e w5 ⟨v5,rfl,hown5,hb5⟩
  rw[<-HT.out]at hown5
  obtain⟨p5,c5,rfl,hc5,hm5,hA5,hl5,hn5⟩:=own_at hown5
  have hS5:=hS.below hb5 hS.lt
  have hF5:=hF.below hb5 hF.lt
  have hB5:=hBw.trans (hb5.mono hBw.size)
  refine hK _ _ hS5 ?_
  try simp only[Act.put,List.setIfInBounds_toArray,List.set_cons_zero,List.set_cons_succ,List.getElem_toArray,List.getElem_cons_succ,List.getElem_cons_zero]
  clear hK K hown5 hb5
  refine wpAnyH_ready (rs:=[8]) ?_ (List.cons_ne_nil _ _) (ready_stepH rfl rfl (fun K hK=>?_) AllReadyH.nil)
  ·decide +kernel
  go_simp
  refine(through_any s1 t p5 c5 w5 HS8.out HTZ.out hA5 hc5 (by unfold maxLen at hm5;omega)).mono ?_
  rintro e w6 ⟨rfl,hb6⟩
  refine hK _ _ (hS5.below hb6 hS5.lt) ?_
  try simp only[Act.put,List.setIfInBounds_toArray,List.set_cons_zero,List.set_cons_succ,List.getElem_toArray,List.getElem_cons_succ,List.getElem_cons_zero]
  clear hK K
  refine wpAnyH_ready (rs:=[9]) ?_ (List.cons_ne_nil _ _) (ready_stepH rfl rfl (fun K hK=>?_) AllReadyH.nil)
  ·decide +kernel
  go_simp
  refine(tell_any (thru s1 kList t (t.length / 64)) w6 (by rw[thru_length,HS8.out])).mono ?_
  rintro e w7 ⟨rfl,hb7⟩
  have hS6:=hS5.below hb6 hS5.lt
  have hF6:=hF5.below hb6 hF5.lt
  have hF7:=hF6.below hb7 hF6.lt
  have hB7:=(hB5.trans (hb6.mono hB5.size)).trans (hb7.mono (hB5.trans (hb6.mono hB5.size)).size)
  refine hK _ _ (hS6.below hb7 hS6.lt) ?_
  try simp only[Act.put,List.setIfInBounds_toArray,List.set_cons_zero,List.set_cons_succ,List.getElem_toArray,List.getElem_cons_succ,List.getElem_cons_zero]
  clear hK K
  have hsz32:(Tryz.prog.info? 25).map (fun i=>i.size)=some ((tellUpto (thru s1 kList t (t.length / 64)) 32).map v8).toArray.size:=by rw[size26];simp[tellUpto_length]
  refine wpAnyH_ready (rs:=[10]) ?_ (List.cons_ne_nil _ _) (ready_stepH rfl rfl (fun K hK=>?_) AllReadyH.nil)
  ·decide +kernel
  refine wp_store_row 25 _ _ rfl _ _ rfl rfl _ _ hF7 hsz32 (by simp[zero32_length,tellUpto_length]) (one8 _) ?_
  refine hK _ _ ((hS6.below hb7 hS6.lt).rowOther _ (by omega)) ?_
  try simp only[Act.put,List.setIfInBounds_toArray,List.set_cons_zero,List.set_cons_succ,List.getElem_toArray,List.getElem_cons_succ,List.getElem_cons_zero]
  clear hK K
  refine wpAnyH_done (by decide +kernel) ?_ _
  go_wp2_with fail
  have hfin:Sha.sum zs=tellUpto (thru s1 kList t (t.length / 64)) 32:=by
   rw[sum_eq,<-Hwl.out,HT.out,HS1.out,<-HLw.out,<-Hlen.out]
  refine bodyPost_ret (v:=.agg ((tellUpto (thru s1 kList t (t.length / 64)) 32).map v8).toArray) ?_ rfl ⟨by rw[hfin],Below.setRow hB7 (by omega) _⟩
  exact results_cell_row rfl _ _ _ _ _ _ _ rfl (hF7.row _) (Tryz.underlying25) rfl hsz32
end
section
open Go.RowKit Sha Fct
theorem len32 {α:Type}(l:List α)(h:l.length=32):∃a0 a1 a2 a3 a4 a5 a6 a7 a8 a9 a10 a11 a12 a13 a14 a15 a16 a17 a18 a19 a20 a21 a22 a23 a24 a25 a26 a27 a28 a29 a30 a31,l= [a0,a1,a2,a3,a4,a5,a6,a7,a8,a9,a10,a11,a12,a13,a14,a15,a16,a17,a18,a19,a20,a21,a22,a23,a24,a25,a26,a27,a28,a29,a30,a31]:=by
 obtain⟨a0,l,rfl⟩:=List.exists_cons_of_length_eq_add_one h
 replace h:=Nat.succ.inj h
 obtain⟨a1,l,rfl⟩:=List.exists_cons_of_length_eq_add_one h
 replace h:=Nat.succ.inj h
 obtain⟨a2,l,rfl⟩:=List.exists_cons_of_length_eq_add_one h
 replace h:=Nat.succ.inj h
 obtain⟨a3,l,rfl⟩:=List.exists_cons_of_length_eq_add_one h
 replace h:=Nat.succ.inj h
 obtain⟨a4,l,rfl⟩:=List.exists_cons_of_length_eq_add_one h
 replace h:=Nat.succ.inj h
 obtain⟨a5,l,rfl⟩:=List.exists_cons_of_length_eq_add_one h
 replace h:=Nat.succ.inj h
 obtain⟨a6,l,rfl⟩:=List.exists_cons_of_length_eq_add_one h
 replace h:=Nat.succ.inj h
 obtain⟨a7,l,rfl⟩:=List.exists_cons_of_length_eq_add_one h
 replace h:=Nat.succ.inj h
 obtain⟨a8,l,rfl⟩:=List.exists_cons_of_length_eq_add_one h
 replace h:=Nat.succ.inj h
 obtain⟨a9,l,rfl⟩:=List.exists_cons_of_length_eq_add_one h
 replace h:=Nat.succ.inj h
 obtain⟨a10,l,rfl⟩:=List.exists_cons_of_length_eq_add_one h
 replace h:=Nat.succ.inj h
 obtain⟨a11,l,rfl⟩:=List.exists_cons_of_length_eq_add_one h
 replace h:=Nat.succ.inj h
 obtain⟨a12,l,rfl⟩:=List.exists_cons_of_length_eq_add_one h
 replace h:=Nat.succ.inj h
 obtain⟨a13,l,rfl⟩:=List.exists_cons_of_length_eq_add_one h
 replace h:=Nat.succ.inj h
 obtain⟨a14,l,rfl⟩:=List.exists_cons_of_length_eq_add_one h
 replace h:=Nat.succ.inj h
 obtain⟨a15,l,rfl⟩:=List.exists_cons_of_length_eq_add_one h
 replace h:=Nat.succ.inj h
 obtain⟨a16,l,rfl⟩:=List.exists_cons_of_length_eq_add_one h
 replace h:=Nat.succ.inj h
 obtain⟨a17,l,rfl⟩:=List.exists_cons_of_length_eq_add_one h
 replace h:=Nat.succ.inj h
 obtain⟨a18,l,rfl⟩:=List.exists_cons_of_length_eq_add_one h
 replace h:=Nat.succ.inj h
 obtain⟨a19,l,rfl⟩:=List.exists_cons_of_length_eq_add_one h
 replace h:=Nat.succ.inj h
 obtain⟨a20,l,rfl⟩:=List.exists_cons_of_length_eq_add_one h
 replace h:=Nat.succ.inj h
 obtain⟨a21,l,rfl⟩:=List.exists_cons_of_length_eq_add_one h
 replace h:=Nat.succ.inj h
 obtain⟨a22,l,rfl⟩:=List.exists_cons_of_length_eq_add_one h
 replace h:=Nat.succ.inj h
 obtain⟨a23,l,rfl⟩:=List.exists_cons_of_length_eq_add_one h
 replace h:=Nat.succ.inj h
 obtain⟨a24,l,rfl⟩:=List.exists_cons_of_length_eq_add_one h
 replace h:=Nat.succ.inj h
 obtain⟨a25,l,rfl⟩:=List.exists_cons_of_length_eq_add_one h
 replace h:=Nat.succ.inj h
 obtain⟨a26,l,rfl⟩:=List.exists_cons_of_length_eq_add_one h
 replace h:=Nat.succ.inj h
 obtain⟨a27,l,rfl⟩:=List.exists_cons_of_length_eq_add_one h
 replace h:=Nat.succ.inj h
 obtain⟨a28,l,rfl⟩:=List.exists_cons_of_length_eq_add_one h
 replace h:=Nat.succ.inj h
 obtain⟨a29,l,rfl⟩:=List.exists_cons_of_length_eq_add_one h
 replace h:=Nat.succ.inj h
 obtain⟨a30,l,rfl⟩:=List.exists_cons_of_length_eq_add_one h
 replace h:=Nat.succ.inj h
 obtain⟨a31,l,rfl⟩:=List.exists_cons_of_length_eq_add_one h
 replace h:=Nat.succ.inj h
 have h0:=List.eq_nil_of_length_eq_zero h
 subst h0
 exact⟨_,_,_,_,_,_,_,_,_,_,_,_,_,_,_,_,_,_,_,_,_,_,_,_,_,_,_,_,_,_,_,_,rfl⟩
theorem built_set (k s:Int):Tryz.prog.built 28 [(0,.int .i64 k),(1,.int .i64 s)] = some (fcells ⟨k,s,0,0,0,Fld.zero32,[]⟩ none 0).toArray:=by unfold fcells;kernel_rfl
theorem built_blob (k:Int)(D B:List Int)(hD:D.length=32)(q:Option Addr)(n c:Nat)(hn:B.length=n):Tryz.prog.built 28 [(0,.int .i64 k),(4,.agg (D.map v8).toArray),(5,.slice q n c)] = some (fcells ⟨k,0,0,0,0,D,B⟩ q c).toArray:=by
 subst hn
 obtain⟨a0,a1,a2,a3,a4,a5,a6,a7,a8,a9,a10,a11,a12,a13,a14,a15,a16,a17,a18,a19,a20,a21,a22,a23,a24,a25,a26,a27,a28,a29,a30,a31,rfl⟩:=len32 D hD
 unfold fcells;kernel_rfl
theorem built_keep (k s:Int)(D:List Int)(hD:D.length=32):Tryz.prog.built 28 [(0,.int .i64 k),(1,.int .i64 s),(4,.agg (D.map v8).toArray)] = some (fcells ⟨k,s,0,0,0,D,[]⟩ none 0).toArray:=by
 obtain⟨a0,a1,a2,a3,a4,a5,a6,a7,a8,a9,a10,a11,a12,a13,a14,a15,a16,a17,a18,a19,a20,a21,a22,a23,a24,a25,a26,a27,a28,a29,a30,a31,rfl⟩:=len32 D hD
 unfold fcells;kernel_rfl
theorem built_hint (k h s:Int)(D:List Int)(hD:D.length=32):Tryz.prog.built 28 [(0,.int .i64 k),(2,.int .i64 h),(1,.int .i64 s),(4,.agg (D.map v8).toArray)] = some (fcells ⟨k,s,h,0,0,D,[]⟩ none 0).toArray:=by
 obtain⟨a0,a1,a2,a3,a4,a5,a6,a7,a8,a9,a10,a11,a12,a13,a14,a15,a16,a17,a18,a19,a20,a21,a22,a23,a24,a25,a26,a27,a28,a29,a30,a31,rfl⟩:=len32 D hD
 unfold fcells;kernel_rfl
theorem built_vote (k s n o:Int)(B:List Int)(q:Option Addr)(m c:Nat)(hm:B.length=m):Tryz.prog.built 28 [(0,.int .i64 k),(1,.int .i64 s),(3,.agg #[.int .i64 n,.int .i64 o]),(5,.slice q m c)] = some (fcells ⟨k,s,0,n,o,Fld.zero32,B⟩ q c).toArray:=by subst hm;unfold fcells;kernel_rfl
end
section
open Go.RowKit Sha Fct
@[irreducible] def allocOp (t:TypeId):Sem Next:=do pure (.value (<-Instr.alloc t true (.tuple #[])))
@[irreducible] def storeOp (t:TypeId) (x v:Value):Sem Next:=do Instr.storeAt t x v;pure .skip
@[irreducible] def boxOp (t:TypeId) (x:Value):Sem Next:=do pure (.value (<-Instr.box t x))
@[irreducible] def makeOp (t:TypeId) (parts:Array (Nat×Value)):Sem Next:=do pure (.value (<-Instr.build t parts))
section
variable (ρ:Operand->Value) (dst:Option Tmp) (ty:TypeId) (pos:String) (after:Array Edge) (guard:Option (Nat×Bool)) (x y:Operand) (parts:Array (Nat×Operand)) (len:Nat)
theorem execOp_allocFact:execOp ρ {dst:=dst,op:=.alloc 28,type:=ty,pos:=pos,after:=after,guard:=guard}= allocOp 28:=by unfold allocOp;rfl
theorem execOp_allocSte:execOp ρ {dst:=dst,op:=.alloc 47,type:=ty,pos:=pos,after:=after,guard:=guard}= allocOp 47:=by unfold allocOp;rfl
theorem execOp_storeFact:execOp ρ {dst:=dst,op:=.store 28 x y,type:=ty,pos:=pos,after:=after,guard:=guard}= storeOp 28 (ρ x) (ρ y):=by unfold storeOp;rfl
theorem execOp_storeSte:execOp ρ {dst:=dst,op:=.store 47 x y,type:=ty,pos:=pos,after:=after,guard:=guard}= storeOp 47 (ρ x) (ρ y):=by unfold storeOp;rfl
theorem execOp_boxFact:execOp ρ {dst:=dst,op:=.box 28 x,type:=ty,pos:=pos,after:=after,guard:=guard}= boxOp 28 (ρ x):=by unfold boxOp;rfl
theorem execOp_boxSte:execOp ρ {dst:=dst,op:=.box 47 x,type:=ty,pos:=pos,after:=after,guard:=guard}= boxOp 47 (ρ x):=by unfold boxOp;rfl
theorem execOp_loadSte:execOp ρ {dst:=dst,op:=.load 47 x,type:=ty,pos:=pos,after:=after,guard:=guard}= loadOp 47 (ρ x):=by unfold loadOp;rfl
theorem execOp_makeFact:execOp ρ {dst:=dst,op:=.build 28 parts,type:=ty,pos:=pos,after:=after,guard:=guard}= makeOp 28 (parts.map fun(i,x)=>(i,ρ x)):=by unfold makeOp;rfl
theorem execOp_makeSte:execOp ρ {dst:=dst,op:=.build 47 parts,type:=ty,pos:=pos,after:=after,guard:=guard}= makeOp 47 (parts.map fun(i,x)=>(i,ρ x)):=by unfold makeOp;rfl
theorem execOp_buildFacts:execOp ρ {dst:=dst,op:=.buildSlice 30 len parts,type:=ty,pos:=pos,after:=after,guard:=guard}= buildOp 30 len (parts.map fun(i,x)=>(i,ρ x)):=by unfold buildOp;rfl
end
section
variable {P:Program} {t:TypeId} {w:World} {cs old:Array Value}
theorem run_allocOp (w:World)(hz:(P.info? t).map (fun i=>i.zero)=some (some (.agg cs))):(allocOp t).run P w= .ok (.value (.pointer (some ⟨w.heap.size,0,none⟩))) (w.alloc (.cells cs t)):=by
 have hz':(zeroValue t).run P w= .ok (.agg cs) w:=by
  cases hq:P.info? t with
  | none=>simp[hq]at hz
  | some i=>simp[hq]at hz;simp[zeroValue,typeInfo,hq,hz]
 unfold allocOp
 simp only[Instr.alloc,Sem.run_bind,hz',Result.andThen_ok,Sem.run_pure]
 rfl
theorem run_boxOp (w:World):(boxOp t (.agg cs)).run P w= .ok (.value (.pointer (some ⟨w.heap.size,0,none⟩))) (w.alloc (.cells cs t)):=by
 unfold boxOp
 simp only[Instr.box,Sem.run_bind,Result.andThen_ok,Sem.run_pure]
 rfl
theorem run_storeOp {g:Nat} {te:TypeId}(hg:w.heap[g]? = some (.cells old te (0,0)))(hi:(P.info? t).map (fun i=>i.size)=some cs.size)(ho:old.size=cs.size)(h1:cs.all (·.oneCell')=true):(storeOp t (.pointer (some ⟨g,0,none⟩)) (.agg cs)).run P w= .ok .skip (w.setRow g cs):=by
 unfold storeOp
 simp only[Instr.storeAt,Instr.sureAddr,Sem.run_bind,Sem.run_pure,Result.andThen_ok,run_storeVar_row w g te t old cs hg hi ho h1]
theorem run_storeNew (w:World)(hi:(P.info? t).map (fun i=>i.size)=some cs.size)(ho:old.size=cs.size)(h1:cs.all (·.oneCell')=true):(storeOp t (.pointer (some ⟨w.heap.size,0,none⟩)) (.agg cs)).run P (w.alloc (.cells old t))= .ok .skip (w.alloc (.cells cs t)):=by
 rw[run_storeOp (heap_alloc_new w _) hi ho h1,World.setRow_alloc_new]
theorem World.setRow_alloc_old (w:World)(c c':Array Value)(t:TypeId)(o:Obj):((w.alloc (.cells c t)).alloc o).setRow w.heap.size c'=(w.alloc (.cells c' t)).alloc o:=by
 simp only[World.setRow,World.alloc]
 congr 1
 apply Array.ext_getElem?
 intro i
 rw[Array.getElem?_modify,Array.getElem?_push,Array.getElem?_push,Array.getElem?_push,Array.getElem?_push]
 simp only[Array.size_push]
 by_cases h:w.heap.size=i
 ·subst h;simp
 ·simp[h,show¬i=w.heap.size from fun e=>h e.symm]
theorem run_storeNew2 (w:World)(o:Obj)(hi:(P.info? t).map (fun i=>i.size)=some cs.size)(ho:old.size=cs.size)(h1:cs.all (·.oneCell')=true):(storeOp t (.pointer (some ⟨w.heap.size,0,none⟩)) (.agg cs)).run P ((w.alloc (.cells old t)).alloc o)= .ok .skip ((w.alloc (.cells cs t)).alloc o):=by
 rw[run_storeOp (old:=old) (te:=t) ((Blk.new w old t).old o) hi ho h1,World.setRow_alloc_old]
theorem run_loadRow {g:Nat} {te:TypeId} {d:TypeDesc}(hg:w.heap[g]? = some (.cells cs te (0,0)))(hu:P.underlying t=some d)(hd:(match d with | .struct _ | .array _ _=>true | _=>false)=true)(hi:(P.info? t).map (fun i=>i.size)=some cs.size):(loadOp t (.pointer (some ⟨g,0,none⟩))).run P w= .ok (.value (.agg cs)) w:=by
 refine run_loadOp ?_
 simp only[Instr.loadAt,Instr.sureAddr,Sem.run_bind,Sem.run_pure,Result.andThen_ok,run_loadVar_row w g te t cs (0,0) d hg hu hd hi]
theorem run_makeOp {parts:Array (Nat×Value)}(w:World)(h:P.built t parts.toList=some cs):(makeOp t parts).run P w= .ok (.value (.agg cs)) w:=by
 unfold makeOp;simp only[Sem.run_bind,run_build w t _ cs h,Result.andThen_ok,Sem.run_pure]
end
abbrev fz:Fac:=⟨0,0,0,0,0,Fld.zero32,[]⟩
theorem zlen:Fld.zero32.length=32:=by simp[Fld.zero32]
theorem fact_zero1:(Tryz.prog.info? 28).map (fun i=>i.zero)=some (some (.agg (fcells fz none 0).toArray)):=by unfold fcells;kernel_rfl
theorem fact_sizeA {x:Fac}(hx:x.D.length=32)(q:Option Addr)(c:Nat):(Tryz.prog.info? 28).map (fun i=>i.size)=some (fcells x q c).toArray.size:=by
 rw[fact_size,List.size_toArray,fcells_length hx]
theorem fact_sizeE {x y:Fac}(hx:x.D.length=32)(hy:y.D.length=32)(q r:Option Addr)(c d:Nat):(fcells x q c).toArray.size=(fcells y r d).toArray.size:=by
 rw[List.size_toArray,List.size_toArray,fcells_length hx,fcells_length hy]
theorem fact_all1 (x:Fac)(q:Option Addr)(c:Nat):(fcells x q c).toArray.all (·.oneCell')=true:=by
 rw[Array.all_eq_true_iff_forall_mem];intro v hv;exact fcells_one x q c v (by simpa using hv)
theorem alloc_fact (w:World):(allocOp 28).run Tryz.prog w= .ok (.value (.pointer (some ⟨w.heap.size,0,none⟩))) (w.alloc (.cells (fcells fz none 0).toArray 28)):=run_allocOp w fact_zero1
theorem store_fact {x y:Fac} {q r:Option Addr} {c d:Nat} {w:World} {g:Nat}(h:Blk w g (fcells y r d) 28)(hy:y.D.length=32)(hx:x.D.length=32):(storeOp 28 (.pointer (some ⟨g,0,none⟩)) (.agg (fcells x q c).toArray)).run Tryz.prog w= .ok .skip (w.setRow g (fcells x q c).toArray):=
 run_storeOp h (fact_sizeA hx q c) (fact_sizeE hy hx ..) (fact_all1 ..)
theorem store_fact1 (w:World) {x:Fac} {q:Option Addr} {c:Nat}(hx:x.D.length=32):(storeOp 28 (.pointer (some ⟨w.heap.size,0,none⟩)) (.agg (fcells x q c).toArray)).run Tryz.prog (w.alloc (.cells (fcells fz none 0).toArray 28))= .ok .skip (w.alloc (.cells (fcells x q c).toArray 28)):=
 run_storeNew w (fact_sizeA hx q c) (fact_sizeE zlen hx ..) (fact_all1 ..)
theorem store_fact2 (w:World)(o:Obj) {x:Fac} {q:Option Addr} {c:Nat}(hx:x.D.length=32):(storeOp 28 (.pointer (some ⟨w.heap.size,0,none⟩)) (.agg (fcells x q c).toArray)).run Tryz.prog ((w.alloc (.cells (fcells fz none 0).toArray 28)).alloc o)= .ok .skip ((w.alloc (.cells (fcells x q c).toArray 28)).alloc o):=
 run_storeNew2 w o (fact_sizeA hx q c) (fact_sizeE zlen hx ..) (fact_all1 ..)
theorem load_factB {x:Fac} {q:Option Addr} {c:Nat} {w:World} {g:Nat}(h:Blk w g (fcells x q c) 28)(hx:x.D.length=32):(loadOp 28 (.pointer (some ⟨g,0,none⟩))).run Tryz.prog w= .ok (.value (.agg (fcells x q c).toArray)) w:=
 run_loadRow h Tryz.underlying28 rfl (fact_sizeA hx q c)
theorem ste_zero1:(Tryz.prog.info? 47).map (fun i=>i.zero)=some (some (.agg (scells Ste.none Hds.none).toArray)):=by rw[scells_eq];kernel_rfl
theorem ste_size:(Tryz.prog.info? 47).map (fun i=>i.size)=some 7:=by kernel_rfl
theorem ste_sizeA (s:Ste)(h:Hds):(Tryz.prog.info? 47).map (fun i=>i.size)=some (scells s h).toArray.size:=by rw[ste_size,List.size_toArray,scells_length]
theorem ste_sizeE (s t:Ste)(h k:Hds):(scells s h).toArray.size=(scells t k).toArray.size:=by rw[List.size_toArray,List.size_toArray,scells_length,scells_length]
theorem ste_all1 (s:Ste)(h:Hds):(scells s h).toArray.all (·.oneCell')=true:=by
 rw[Array.all_eq_true_iff_forall_mem];intro v hv;exact scells_one s h v (by simpa using hv)
theorem ste_built:Tryz.prog.built 47 [] = some (scells Ste.none Hds.none).toArray:=by rw[scells_eq];kernel_rfl
theorem alloc_ste (w:World):(allocOp 47).run Tryz.prog w= .ok (.value (.pointer (some ⟨w.heap.size,0,none⟩))) (w.alloc (.cells (scells Ste.none Hds.none).toArray 47)):=run_allocOp w ste_zero1
theorem make_ste (w:World):(makeOp 47 #[]).run Tryz.prog w= .ok (.value (.agg (scells Ste.none Hds.none).toArray)) w:=run_makeOp w ste_built
theorem store_ste {s t:Ste} {h k:Hds} {w:World} {g:Nat}(hb:Blk w g (scells t k) 47):(storeOp 47 (.pointer (some ⟨g,0,none⟩)) (.agg (scells s h).toArray)).run Tryz.prog w= .ok .skip (w.setRow g (scells s h).toArray):=
 run_storeOp hb (ste_sizeA s h) (ste_sizeE ..) (ste_all1 ..)
theorem store_ste1 (w:World)(s:Ste)(h:Hds):(storeOp 47 (.pointer (some ⟨w.heap.size,0,none⟩)) (.agg (scells s h).toArray)).run Tryz.prog (w.alloc (.cells (scells Ste.none Hds.none).toArray 47))= .ok .skip (w.alloc (.cells (scells s h).toArray 47)):=
 run_storeNew w (ste_sizeA s h) (ste_sizeE ..) (ste_all1 ..)
theorem load_steB {s:Ste} {h:Hds} {w:World} {g:Nat}(hb:Blk w g (scells s h) 47):(loadOp 47 (.pointer (some ⟨g,0,none⟩))).run Tryz.prog w= .ok (.value (.agg (scells s h).toArray)) w:=
 run_loadRow hb Tryz.underlying47 rfl (ste_sizeA s h)
end
section
open Go.RowKit Sha Fct
attribute [local go_sem ↓] execOp_allocFact execOp_allocSte execOp_storeFact execOp_storeSte execOp_boxFact execOp_boxSte execOp_loadSte execOp_makeFact execOp_makeSte execOp_buildFacts execOp_loadFact
def FTold (x:Fac)(w:World)(e:Ending)(w':World):Prop:=∃q c,e= .returned (.agg (fcells x q c).toArray)/\sF.Good w' x q c/\Below w.heap.size w w'
abbrev xid:List Int:=Sha.sum [1,2]
theorem fbytes_any (w:World):Calls Tryz.prog 74 #[] w fun e w'=>e= .returned (.slice (some ⟨w.heap.size,0,none⟩) 2 2)/\w'=w.alloc (Obj.cells #[.int .u8 1,.int .u8 2] 5):=by
 go_enter Tryz.func74,Tryz.ntmps74
 go_wp2_with fail
 go_ret
 exact⟨rfl,rfl⟩
def FBytes (w:World)(e:Ending)(w':World):Prop:=∃g,e= .returned (.slice (some ⟨g,0,none⟩) 2 2)/\At w' (some ⟨g,0,none⟩) (([1,2]:List Int).map v8)/\Below w.heap.size w w'
theorem fbytes_told (w:World):Calls Tryz.prog 74 #[] w (FBytes w):=by
 refine(fbytes_any w).mono ?_
 rintro e w' ⟨rfl,rfl⟩
 have h:=Blk.new w #[.int .u8 1,.int .u8 2] 5
 exact⟨_,rfl,Or.inr ⟨_,0,rfl,fun i v hi=>by rw[Nat.zero_add,h.cell];exact hi⟩,(Below.refl _ w).alloc (Nat.le_refl _) _⟩
theorem xsum_any (g:Nat)(w:World)(h:At w (some ⟨g,0,none⟩) (([1,2]:List Int).map v8)):
 Calls Tryz.prog 73 #[.slice (some ⟨g,0,none⟩) 2 2] w fun e w'=>e= .returned (.agg (xid.map v8).toArray)/\Below w.heap.size w w':=
 sum_any [1,2] _ 2 w (by simp) h (by simp) (fun h=>by cases h) (by omega)
theorem xid_len:xid.length=32:=sum32 _
theorem fact_ok0 {k s h n o:Int} {D B:List Int}(hk:fit k)(hs:fit s)(hh:fit h)(hn:fit n)(ho:fit o)(hD:D.length=32)(hD8:∀n∈D,0<=n/\n<=255)(hB:∀n∈B,0<=n/\n<=255):(⟨k,s,h,n,o,D,B⟩:Fac).ok:=by
 constructor<;>assumption
theorem fit_small {n:Int}(h:-1000000<=n/\n<=1000000):fit n:=by unfold fit;omega
theorem ftold_end {x:Fac} {q:Option Addr} {c:Nat} {w w1:World} {g:Nat}(hb:Below w.heap.size w w1)(hg:w.heap.size<=g)(h:sF.Good w1 x q c)(ho:OutOf g x.B q)(hk:Blk w1 g (fcells fz none 0) 28):
 Blk (w1.setRow g (fcells x q c).toArray) g (fcells x q c) 28/\FTold x w (.returned (.agg (fcells x q c).toArray)) (w1.setRow g (fcells x q c).toArray):=by
 refine⟨hk.row _,q,c,rfl,⟨h.ok,?_,h.le,h.max,h.nil⟩,Below.setRow hb hg _⟩
 by_cases e:x.B= []
 ·have h2:(sF.byt x).map v8= []:=by show x.B.map v8= [];rw[e];rfl
  rw[h2];exact At.nil _ _
 ·rcases h.at_ with h0 | ⟨b,off,rfl,hc⟩
  ·exact .inl h0
  ·refine .inr ⟨b,off,rfl,fun i v hi=>?_⟩
   exact(cell_setRow_other w1 g _ ⟨b,off+i,none⟩ (show b≠g from ho e ⟨b,off,none⟩ rfl)).trans (hc i v hi)
theorem fblob_any (w:World):Calls Tryz.prog 32 #[] w (FTold ⟨3,0,0,0,0,xid,[1,2]⟩ w):=by
 have al:=fun w=>alloc_fact w
 go_enter Tryz.func32,Tryz.ntmps32
 go_wp2_with fail
 obtain⟨w1,hw1⟩:∃x,x=w.alloc (.cells (fcells fz none 0).toArray 28):=⟨_,rfl⟩
 have K1:=Lib.hid (show Blk w1 w.heap.size (fcells fz none 0) 28 by rw[hw1];exact Blk.new w _ _)
 have B1:=Lib.hid (show Below w.heap.size w w1 by rw[hw1];exact(Below.refl _ w).alloc (Nat.le_refl _) _)
 rw[<-hw1]
 clear hw1
 obtain⟨g0,hg0⟩:∃g,g=w.heap.size:=⟨_,rfl⟩
 rw[<-hg0]at K1 ⊢
 have G0:=Lib.hid (show w.heap.size<=g0 by omega)
 clear hg0
 refine(fbytes_told w1).mono ?_
 rintro e w2 ⟨g2,rfl,ha2,hb2⟩
 have A2:=Lib.hid ha2
 have B2:=Lib.hid (B1.out.trans (hb2.mono B1.out.size))
 have K2:=Lib.hid (K1.out.below hb2 K1.out.lt)
 clear ha2 hb2 B1 K1
 go_wp2_with fail
 refine(xsum_any g2 w2 A2.out).mono ?_
 rintro e w3 ⟨rfl,hb3⟩
 have B3:=Lib.hid (B2.out.trans (hb3.mono B2.out.size))
 have K3:=Lib.hid (K2.out.below hb3 K2.out.lt)
 clear hb3 B2 K2
 go_wp2_with fail
 refine(fbytes_any w3).mono ?_
 rintro e w4 ⟨rfl,hw4⟩
 have B4:=Lib.hid (show Below w.heap.size w w4 by rw[hw4];exact B3.out.trans (((Below.refl _ w3).alloc (Nat.le_refl _) _).mono B3.out.size))
 have K4:=Lib.hid (show Blk w4 g0 (fcells fz none 0) 28 by rw[hw4];exact K3.out.old _)
 have A4:=Lib.hid (show At w4 (some ⟨w3.heap.size,0,none⟩) (([1,2]:List Int).map v8) by rw[hw4];exact Or.inr ⟨_,0,rfl,fun i v hi=>by rw[Nat.zero_add,(Blk.new w3 #[.int .u8 1,.int .u8 2] 5).cell];exact hi⟩)
 have O4:=Lib.hid (show w3.heap.size≠g0 from fun e=>by have:=K3.out.lt;omega)
 clear hw4 B3 K3
 generalize w3.heap.size=g4 at *
 have mk:=run_makeOp w4 (built_blob 3 xid [1,2] xid_len (some ⟨g4,0,none⟩) 2 2 rfl)
 have st:=store_fact (q:=(some ⟨g4,0,none⟩)) (c:=2) (x:=⟨3,0,0,0,0,xid,[1,2]⟩) K4.out zlen xid_len
 go_wp2_with fail
 have hend:=ftold_end (q:=(some ⟨g4,0,none⟩)) (c:=2) (x:=⟨3,0,0,0,0,xid,[1,2]⟩) B4.out G0.out ⟨fact_ok0 (fit_small (by omega)) (fit_small (by omega)) (fit_small (by omega)) (fit_small (by omega)) (fit_small (by omega)) xid_len (sum8 _) (by simp),A4.out,by simp[sF],by omega,(fun h=>by cases h)⟩ (fun _ a ha=>by cases ha;exact O4.out) K4.out
 refine bodyPost_ret (v:=.agg (fcells ⟨3,0,0,0,0,xid,[1,2]⟩ (some ⟨g4,0,none⟩) 2).toArray) (results_cell_row rfl _ _ _ _ _ _ _ rfl hend.1 (Tryz.underlying28) rfl (fact_sizeA xid_len _ _)) rfl hend.2
theorem fkeep_any (s:Int)(w:World)(hs:fit s):Calls Tryz.prog 35 #[.int .i64 s] w (FTold ⟨4,s,0,0,0,xid,[]⟩ w):=by
 have al:=fun w=>alloc_fact w
 go_enter Tryz.func35,Tryz.ntmps35
 go_wp2_with fail
 obtain⟨w1,hw1⟩:∃x,x=w.alloc (.cells (fcells fz none 0).toArray 28):=⟨_,rfl⟩
 have K1:=Lib.hid (show Blk w1 w.heap.size (fcells fz none 0) 28 by rw[hw1];exact Blk.new w _ _)
 have B1:=Lib.hid (show Below w.heap.size w w1 by rw[hw1];exact(Below.refl _ w).alloc (Nat.le_refl _) _)
 rw[<-hw1]
 clear hw1
 obtain⟨g0,hg0⟩:∃g,g=w.heap.size:=⟨_,rfl⟩
 rw[<-hg0]at K1 ⊢
 have G0:=Lib.hid (show w.heap.size<=g0 by omega)
 clear hg0
 refine(fbytes_told w1).mono ?_
 rintro e w2 ⟨g2,rfl,ha2,hb2⟩
 have A2:=Lib.hid ha2
 have B2:=Lib.hid (B1.out.trans (hb2.mono B1.out.size))
 have K2:=Lib.hid (K1.out.below hb2 K1.out.lt)
 clear ha2 hb2 B1 K1
 go_wp2_with fail
 refine(xsum_any g2 w2 A2.out).mono ?_
 rintro e w3 ⟨rfl,hb3⟩
 have B3:=Lib.hid (B2.out.trans (hb3.mono B2.out.size))
 have K3:=Lib.hid (K2.out.below hb3 K2.out.lt)
 clear hb3 B2 K2
 have mk:=run_makeOp w3 (built_keep 4 s xid xid_len)
 have st:=store_fact (q:=none) (c:=0) (x:=⟨4,s,0,0,0,xid,[]⟩) K3.out zlen xid_len
 go_wp2_with fail
 have hend:=ftold_end (q:=none) (c:=0) (x:=⟨4,s,0,0,0,xid,[]⟩) B3.out G0.out ⟨fact_ok0 (fit_small (by omega)) hs (fit_small (by omega)) (fit_small (by omega)) (fit_small (by omega)) xid_len (sum8 _) (by simp),At.nil _ _,by simp[sF],by omega,(fun _=>rfl)⟩ (fun h=>absurd rfl h) K3.out
 refine bodyPost_ret (v:=.agg (fcells ⟨4,s,0,0,0,xid,[]⟩ none 0).toArray) (results_cell_row rfl _ _ _ _ _ _ _ rfl hend.1 (Tryz.underlying28) rfl (fact_sizeA xid_len _ _)) rfl hend.2
theorem fhint_any (h s:Int)(w:World)(hh:fit h)(hs:fit s):Calls Tryz.prog 33 #[.int .i64 h,.int .i64 s] w (FTold ⟨5,s,h,0,0,xid,[]⟩ w):=by
 have al:=fun w=>alloc_fact w
 go_enter Tryz.func33,Tryz.ntmps33
 go_wp2_with fail
 obtain⟨w1,hw1⟩:∃x,x=w.alloc (.cells (fcells fz none 0).toArray 28):=⟨_,rfl⟩
 have K1:=Lib.hid (show Blk w1 w.heap.size (fcells fz none 0) 28 by rw[hw1];exact Blk.new w _ _)
 have B1:=Lib.hid (show Below w.heap.size w w1 by rw[hw1];exact(Below.refl _ w).alloc (Nat.le_refl _) _)
 rw[<-hw1]
 clear hw1
 obtain⟨g0,hg0⟩:∃g,g=w.heap.size:=⟨_,rfl⟩
 rw[<-hg0]at K1 ⊢
 have G0:=Lib.hid (show w.heap.size<=g0 by omega)
 clear hg0
 refine(fbytes_told w1).mono ?_
 rintro e w2 ⟨g2,rfl,ha2,hb2⟩
 have A2:=Lib.hid ha2
 have B2:=Lib.hid (B1.out.trans (hb2.mono B1.out.size))
 have K2:=Lib.hid (K1.out.below hb2 K1.out.lt)
 clear ha2 hb2 B1 K1
 go_wp2_with fail
 refine(xsum_any g2 w2 A2.out).mono ?_
 rintro e w3 ⟨rfl,hb3⟩
 have B3:=Lib.hid (B2.out.trans (hb3.mono B2.out.size))
 have K3:=Lib.hid (K2.out.below hb3 K2.out.lt)
 clear hb3 B2 K2
 have mk:=run_makeOp w3 (built_hint 5 h s xid xid_len)
 have st:=store_fact (q:=none) (c:=0) (x:=⟨5,s,h,0,0,xid,[]⟩) K3.out zlen xid_len
 go_wp2_with fail
 have hend:=ftold_end (q:=none) (c:=0) (x:=⟨5,s,h,0,0,xid,[]⟩) B3.out G0.out ⟨fact_ok0 (fit_small (by omega)) hs hh (fit_small (by omega)) (fit_small (by omega)) xid_len (sum8 _) (by simp),At.nil _ _,by simp[sF],by omega,(fun _=>rfl)⟩ (fun h=>absurd rfl h) K3.out
 refine bodyPost_ret (v:=.agg (fcells ⟨5,s,h,0,0,xid,[]⟩ none 0).toArray) (results_cell_row rfl _ _ _ _ _ _ _ rfl hend.1 (Tryz.underlying28) rfl (fact_sizeA xid_len _ _)) rfl hend.2
theorem fvote_any (k n o:Int)(B:List Int)(q:Option Addr)(m c:Nat)(w:World)(hkf:fit k)(hn:fit n)(ho:fit o)(hm:B.length=m)(hBB:∀n∈B,0<=n/\n<=255)(hA:At w q (B.map v8))(hc:m<=c)(hcm:c<=9223372036854775807)(hq:q=none->c=0):Calls Tryz.prog 36 #[.int .i64 k,.int .i64 n,.int .i64 o,.slice q m c] w (FTold ⟨k,3,0,n,o,Fld.zero32,B⟩ w):=by
 have al:=fun w=>alloc_fact w
 go_enter Tryz.func36,Tryz.ntmps36
 have mk:=fun w=>run_makeOp w (built_vote k 3 n o B q m c hm)
 have st:=fun w=>store_fact1 w (q:=q) (c:=c) (x:=⟨k,3,0,n,o,Fld.zero32,B⟩) zlen
 go_wp2_with fail
 have hk:=Blk.new w (fcells ⟨k,3,0,n,o,Fld.zero32,B⟩ q c).toArray 28
 have hB:=(Below.refl w.heap.size w).alloc (Nat.le_refl _) (Obj.cells (fcells ⟨k,3,0,n,o,Fld.zero32,B⟩ q c).toArray 28)
 refine bodyPost_ret (v:=.agg (fcells ⟨k,3,0,n,o,Fld.zero32,B⟩ q c).toArray) (results_cell_row rfl _ _ _ _ _ _ _ rfl hk (Tryz.underlying28) rfl (fact_sizeA zlen _ _)) rfl ?_
 exact⟨q,c,rfl,⟨fact_ok0 hkf (fit_small (by omega)) (fit_small (by omega)) hn ho zlen zero8 hBB,hA.alloc _,by show B.length<=c;omega,by omega,hq⟩,hB⟩
end
section
namespace Fct
open Fld (zero32)
abbrev xd:List Int:=Sha.sum [1,2]
abbrev eBlob:Fac:=⟨3,0,0,0,0,xd,[1,2]⟩
abbrev eKeep (s:Int):Fac:=⟨4,s,0,0,0,xd,[]⟩
abbrev eHint (h s:Int):Fac:=⟨5,s,h,0,0,xd,[]⟩
abbrev eVote (k n o:Int)(b:List Int):Fac:=⟨k,3,0,n,o,zero32,b⟩
abbrev eDrop (s:Int):Fac:=⟨10,s,0,0,0,zero32,[]⟩
theorem e_put:put (eVote 7 5 2 [])=([7,3,5,2],0):=by decide +kernel
theorem e_get:get [1] = (⟨1,0,0,0,0,zero32,[]⟩,0,0):=by decide +kernel
abbrev cnt (l:List Fac)(a b c:Nat):Prop:=(fold l).2=0/\(fold l).1.blobs.length=a/\(fold l).1.keeps.length=b/\(fold l).1.hints.length=c
theorem e_f1:cnt [eBlob,eKeep 4,eHint 2 4] 1 1 1:=by decide +kernel
theorem e_f2:cnt [eBlob,eKeep 4,eHint 2 4,eDrop 4] 0 0 0:=by decide +kernel
end Fct
end
section
open Go.RowKit Sha Fct
theorem scells_2 (s:Ste)(h:Hds):(scells s h)[2]? = some (.slice h.b.1 h.b.2.1 h.b.2.2):=by rw[scells_eq];rfl
theorem scells_3 (s:Ste)(h:Hds):(scells s h)[3]? = some (.slice h.k.1 h.k.2.1 h.k.2.2):=by rw[scells_eq];rfl
theorem scells_4 (s:Ste)(h:Hds):(scells s h)[4]? = some (.slice h.h.1 h.h.2.1 h.h.2.2):=by rw[scells_eq];rfl
def headS (s t:Ste):Prop:=s.born=t.born/\s.boot=t.boot/\s.blobs.length=t.blobs.length/\s.keeps.length=t.keeps.length/\s.hints.length=t.hints.length/\s.votes.length=t.votes.length/\s.decs.length=t.decs.length
instance (s t:Ste):Decidable (headS s t):=by unfold headS;infer_instance
end
section
open Go.RowKit Sha Fct
structure FactsBytes:Prop where
 check:∀(x:Fac) q c w,sF.Good w x q c->x.B.length<=dataMost->Calls Tryz.prog 15 #[.agg (fcells x q c).toArray] w fun e w'=>e= .returned (.int .i64 (Fct.check x))/\Below w.heap.size w w'
 put:∀(x:Fac) q c w,sF.Good w x q c->x.B.length<=dataMost->Calls Tryz.prog 12 #[.agg (fcells x q c).toArray] w (FPut w (Fct.put x))
 get:∀(b:List Int) p n c w,b.length=n->(∀m∈b,0<=m/\m<=255)->At w p (b.map v8)->n<=c->c<=9223372036854775807->(p=none->c=0)->n<=1000000->Calls Tryz.prog 37 #[.slice p n c] w (FGet w (Fct.get b))
structure FactsFold:Prop extends FactsBytes where
 fold:∀(l:List Fac) p n c w,sF.Told w p n c l->l.length<=4*listMost->(∀x∈l,x.B.length<=dataMost)->Calls Tryz.prog 20 #[.slice p n c] w (FSte w (Fct.fold l))
end
section
open Go.RowKit Sha Fct
attribute [local go_sem ↓] execOp_allocFact execOp_allocSte execOp_storeFact execOp_storeSte execOp_boxFact execOp_boxSte execOp_loadSte execOp_makeFact execOp_makeSte execOp_buildFacts execOp_loadFact
theorem fact_all2:(Tryz.prog.info? 28).map (fun i=>(i.zero,i.size))=some (some (.agg (fcells fz none 0).toArray),38):=by unfold fcells;kernel_rfl
theorem build_facts (w:World)(ys:List (Hd Fac))(hok:∀y∈ys,y.1.D.length=32)(hl:ys.length<=100):
 (buildOp 30 (ys.map sF.row).length ((ys.map sF.row).zipIdx.map fun c=>(c.2,Value.agg c.1.toArray)).toArray).run Tryz.prog w= .ok (.value (.slice (some ⟨w.heap.size,0,none⟩) (ys.map sF.row).length (ys.map sF.row).length)) (w.alloc (.cells (ys.map sF.row).flatten.toArray 28)):=
 run_buildOp (run_build_items (P:=Tryz.prog) w 30 28 38 _ (by omega) Tryz.underlying30 fact_all2 (ys.map sF.row) (by intro c hc;obtain⟨y,hy,rfl⟩:=List.mem_map.1 hc;exact fcells_length (hok y hy) _ _) (by rw[List.length_map];omega))
theorem told_facts (w:World)(ys:List (Hd Fac))(h:∀y∈ys,sF.Good w y.1 y.2.1 y.2.2)(hl:ys.length<=100):sF.Told (w.alloc (.cells (ys.map sF.row).flatten.toArray 28)) (some ⟨w.heap.size,0,none⟩) ys.length ys.length (ys.map (·.1)):=by
 refine⟨by rw[List.length_map],Nat.le_refl _,by omega,(fun h=>by cases h),ys,rfl,?_,fun y hy=>(h y hy).below ((Below.refl _ w).alloc (Nat.le_refl _) _)⟩
 rw[<-List.flatMap_def]
 exact at_made w _ _
theorem counts_any (F:FactsFold)(X Y Z:Int)(x y z:Nat)(l:List Fac)(p:Option Addr)(n c:Nat)(w:World)(h:sF.Told w p n c l)(hn:n<=1000)(hB:∀x∈l,x.B.length<=dataMost)(he:cnt l x y z)(hX:X=x)(hY:Y=y)(hZ:Z=z):
 Calls Tryz.prog 31 #[.int .i64 X,.int .i64 Y,.int .i64 Z,.slice p n c] w fun e w'=>e= .returned (.bool true)/\Below w.heap.size w w':=by
 subst hX hY hZ
 have hlen:=h.len
 have HF:=Lib.hid (F.fold l p n c w h (by have:listMost=2000000:=rfl;omega) hB)
 obtain⟨⟨t,er⟩,ht⟩:∃r,r=Fct.fold l:=⟨_,rfl⟩
 obtain⟨h0,h1,h2,h3⟩:=he
 rw[<-ht]at HF h0 h1 h2 h3
 simp only at h0 h1 h2 h3
 subst h0 h1 h2 h3
 unfold FSte at HF
 have al:=fun w=>alloc_ste w
 have st:=fun w h=>store_ste1 w t h
 clear h hB ht hlen
 go_enter Tryz.func31,Tryz.ntmps31
 go_wp2_with fail
 refine HF.out.mono ?_
 rintro e w1 ⟨hd,rfl,hg,hb⟩
 have l1:=hg.b.len
 have l2:=hg.k.len
 have l3:=hg.h.len
 have HB:=Lib.hid hb
 have HK:=Lib.hid (Blk.new w1 (scells t hd).toArray 47)
 have c2:(w1.alloc (.cells (scells t hd).toArray 47)).cell? ⟨w1.heap.size,2,none⟩=some (.slice hd.b.1 t.blobs.length hd.b.2.2):=by rw[<-l1];exact(HK.out.cell 2).trans (scells_2 t hd)
 have c3:(w1.alloc (.cells (scells t hd).toArray 47)).cell? ⟨w1.heap.size,3,none⟩=some (.slice hd.k.1 t.keeps.length hd.k.2.2):=by rw[<-l2];exact(HK.out.cell 3).trans (scells_3 t hd)
 have c4:(w1.alloc (.cells (scells t hd).toArray 47)).cell? ⟨w1.heap.size,4,none⟩=some (.slice hd.h.1 t.hints.length hd.h.2.2):=by rw[<-l3];exact(HK.out.cell 4).trans (scells_4 t hd)
 clear hg hb HF l1 l2 l3
 go_wp2_with fail
 go_ret
 exact⟨rfl,HB.out.trans (((Below.refl _ w1).alloc (Nat.le_refl _) _).mono HB.out.size)⟩
theorem drop_good {w:World}(s:Int)(h:fit s:=by exact fit_small (by omega)):sF.Good w (eDrop s) none 0:=
 ⟨fact_ok0 (fit_small (by omega)) h (fit_small (by omega)) (fit_small (by omega)) (fit_small (by omega)) zlen zero8 (by simp),At.nil _ _,by simp[sF],by omega,fun _=>rfl⟩
theorem awake_any (F:FactsFold)(w:World):Calls Tryz.prog 10 #[] w fun e w'=>e= .returned (.bool true)/\Below w.heap.size w w':=by
 have al:=fun w=>alloc_fact w
 have HP:=Lib.hid e_put
 have HGT:=Lib.hid e_get
 go_enter Tryz.func10,Tryz.ntmps10
 go_wp2_with fail
 refine(fvote_any 7 5 2 [] none 0 0 w (fit_small (by omega)) (fit_small (by omega)) (fit_small (by omega)) rfl (by simp) (At.nil _ _) (by omega) (by omega) (fun _=>rfl)).mono ?_
 rintro e w1 ⟨q,d,rfl,hg,hb⟩
 have B1:=Lib.hid hb
 have G1:=Lib.hid hg
 clear hb hg
 go_wp2_with fail
 refine(F.put _ q d w1 G1.out (by simp)).mono ?_
 rintro e w2 ⟨v,he,ho,hb⟩
 rw[HP.out]at he ho
 subst he
 obtain⟨p2,c2,rfl,hl2,hm2,hA2,_,hn2⟩:=own_at ho.row
 have A2:=Lib.hid hA2
 have B2:=Lib.hid (B1.out.trans (hb.mono B1.out.size))
 clear ho hb hA2 hn2 hl2 hm2 B1 G1
 go_wp2_with fail
 refine(F.get [1] _ 1 1 _ rfl (by simp) (at_made w2 [.int .u8 1] 5) (by omega) (by omega) (fun h=>by cases h) (by omega)).mono ?_
 rintro e w4 ⟨q4,d4,he,hg4,hb4⟩
 rw[HGT.out]at he hg4
 subst he
 have hb24:Below w2.heap.size w2 w4:=((Below.refl w2.heap.size w2).alloc (Nat.le_refl _) _).trans (hb4.mono (by simp))
 have A4:=Lib.hid (A2.out.below hb24)
 have B4:=Lib.hid (B2.out.trans (hb24.mono B2.out.size))
 have st:=fun o=>store_fact2 w4 o (x:=⟨1,0,0,0,0,Fld.zero32,[]⟩) (q:=q4) (c:=d4) zlen
 clear hg4 hb4 hb24 B2 A2
 go_wp2_with fail
 have K4:=Lib.hid (Blk.new w4 (fcells ⟨1,0,0,0,0,Fld.zero32,[]⟩ q4 d4).toArray 28)
 obtain⟨w5,hw5⟩:∃x,x=(((w4.alloc (Obj.cells (fcells ⟨1,0,0,0,0,Fld.zero32,[]⟩ q4 d4).toArray 28)).alloc (Obj.cells #[Value.int .i64 0,Value.int .i64 0] 64)).alloc (Obj.cells #[Value.int .u8 7,Value.int .u8 3,Value.int .u8 5,Value.int .u8 2] 5)):=⟨_,rfl⟩
 have hz1:(w4.alloc (Obj.cells (fcells ⟨1,0,0,0,0,Fld.zero32,[]⟩ q4 d4).toArray 28)).heap.size=w4.heap.size+1:=World.size_alloc ..
 have hz2:((w4.alloc (Obj.cells (fcells ⟨1,0,0,0,0,Fld.zero32,[]⟩ q4 d4).toArray 28)).alloc (Obj.cells #[Value.int .i64 0,Value.int .i64 0] 64)).heap.size=w4.heap.size+1+1:=by rw[World.size_alloc,hz1]
 have cK:w5.cell? ⟨w4.heap.size,0,none⟩=some (.int .i64 1):=by rw[hw5];exact(((K4.out.old _).old _).cell 0).trans (fcells_K _ _ _)
 have cE:w5.cell? ⟨w4.heap.size+1,0,none⟩=some (.int .i64 0):=by rw[hw5,<-hz1];exact((Blk.new _ #[Value.int .i64 0,Value.int .i64 0] 64).old _).cell 0
 have hb5:Below w4.heap.size w4 w5:=by rw[hw5];exact(((Below.refl w4.heap.size w4).alloc (Nat.le_refl _) _).alloc (by rw[hz1];omega) _).alloc (by rw[hz2];omega) _
 have A5:=Lib.hid (A4.out.below hb5)
 have L5:=Lib.hid (show At w5 (some ⟨w4.heap.size+1+1,0,none⟩) (([7,3,5,2]:List Int).map v8) by rw[hw5,<-hz2];exact at_made _ [.int .u8 7,.int .u8 3,.int .u8 5,.int .u8 2] _)
 have Bw5:=Lib.hid (B4.out.trans (hb5.mono B4.out.size))
 rw[<-hw5]
 clear hw5 hz1 hz2 hb5 K4 A4 B4 st
 refine(same_true [7,3,5,2] 4 4 p2 _ c2 4 w5 rfl rfl A5.out L5.out (by simp)).mono ?_
 rintro e w6 ⟨rfl,rfl⟩
 clear A5 L5
 go_wp2_with fail
 refine(fblob_any w5).mono ?_
 rintro e u1 ⟨q1,d1,rfl,hg,hb⟩
 have Bu1:=Lib.hid (Bw5.out.trans (hb.mono Bw5.out.size))
 have Gu1:=Lib.hid hg
 clear hg hb Bw5
 go_wp2_with fail
 refine(fkeep_any 4 u1 (fit_small (by omega))).mono ?_
 rintro e u2 ⟨q2,d2,rfl,hg,hb⟩
 have Bu2:=Lib.hid (Bu1.out.trans (hb.mono Bu1.out.size))
 have Gu1:=Lib.hid (Gu1.out.below hb)
 have Gu2:=Lib.hid hg
 clear hg hb Bu1
 go_wp2_with fail
 refine(fhint_any 2 4 u2 (fit_small (by omega)) (fit_small (by omega))).mono ?_
 rintro e u3 ⟨q3,d3,rfl,hg,hb⟩
 have Bu3:=Lib.hid (Bu2.out.trans (hb.mono Bu2.out.size))
 have Gu1:=Lib.hid (Gu1.out.below hb)
 have Gu2:=Lib.hid (Gu2.out.below hb)
 have Gu3:=Lib.hid hg
 clear hg hb Bu2
 have bf:(buildOp 30 3 #[(0,Value.agg (fcells (eBlob) q1 d1).toArray),(1,Value.agg (fcells (eKeep 4) q2 d2).toArray),(2,Value.agg (fcells (eHint 2 4) q3 d3).toArray)]).run Tryz.prog u3= .ok (.value (.slice (some ⟨u3.heap.size,0,none⟩) 3 3)) (u3.alloc (.cells (([(eBlob,q1,d1),(eKeep 4,q2,d2),(eHint 2 4,q3,d3)]:List (Hd Fac)).map sF.row).flatten.toArray 28)):=build_facts u3 [(eBlob,q1,d1),(eKeep 4,q2,d2),(eHint 2 4,q3,d3)] (by intro y hy;simp only[List.mem_cons,List.not_mem_nil,or_false]at hy;rcases hy with rfl | rfl | rfl<;>first | exact sum32 _ | exact zlen) (by simp)
 have tf:=told_facts u3 [(eBlob,q1,d1),(eKeep 4,q2,d2),(eHint 2 4,q3,d3)] (by intro y hy;simp only[List.mem_cons,List.not_mem_nil,or_false]at hy;rcases hy with rfl | rfl | rfl<;>first | exact Gu1.out | exact Gu2.out | exact Gu3.out | exact drop_good _) (by simp)
 have hb:=(Below.refl u3.heap.size u3).alloc (Nat.le_refl _) (.cells (([(eBlob,q1,d1),(eKeep 4,q2,d2),(eHint 2 4,q3,d3)]:List (Hd Fac)).map sF.row).flatten.toArray 28)
 obtain⟨u4,hnw⟩:∃x,x=u3.alloc (.cells (([(eBlob,q1,d1),(eKeep 4,q2,d2),(eHint 2 4,q3,d3)]:List (Hd Fac)).map sF.row).flatten.toArray 28):=⟨_,rfl⟩
 rw[<-hnw]at bf tf hb
 have Tu4:=Lib.hid tf
 have Bu4:=Lib.hid (Bu3.out.trans (hb.mono Bu3.out.size))
 clear tf hb hnw Gu1 Gu2 Gu3 Bu3
 go_wp2_with fail
 refine(counts_any F _ _ _ 1 1 1 [eBlob,eKeep 4,eHint 2 4] _ 3 3 u4 Tu4.out (by omega) (by simp[show 2<=dataMost from by decide]) e_f1 rfl rfl rfl).mono ?_
 rintro e u5 ⟨rfl,hb⟩
 have Bu5:=Lib.hid (Bu4.out.trans (hb.mono Bu4.out.size))
 clear hb bf Tu4 Bu4
 go_wp2_with fail
 refine(fblob_any u5).mono ?_
 rintro e u6 ⟨q6,d6,rfl,hg,hb⟩
 have Bu6:=Lib.hid (Bu5.out.trans (hb.mono Bu5.out.size))
 have Gu6:=Lib.hid hg
 clear hg hb Bu5
 go_wp2_with fail
 refine(fkeep_any 4 u6 (fit_small (by omega))).mono ?_
 rintro e u7 ⟨q7,d7,rfl,hg,hb⟩
 have Bu7:=Lib.hid (Bu6.out.trans (hb.mono Bu6.out.size))
 have Gu6:=Lib.hid (Gu6.out.below hb)
 have Gu7:=Lib.hid hg
 clear hg hb Bu6
 go_wp2_with fail
 refine(fhint_any 2 4 u7 (fit_small (by omega)) (fit_small (by omega))).mono ?_
 rintro e u8 ⟨q8,d8,rfl,hg,hb⟩
 have Bu8:=Lib.hid (Bu7.out.trans (hb.mono Bu7.out.size))
 have Gu6:=Lib.hid (Gu6.out.below hb)
 have Gu7:=Lib.hid (Gu7.out.below hb)
 have Gu8:=Lib.hid hg
 clear hg hb Bu7
 have bf:(buildOp 30 4 #[(0,Value.agg (fcells (eBlob) q6 d6).toArray),(1,Value.agg (fcells (eKeep 4) q7 d7).toArray),(2,Value.agg (fcells (eHint 2 4) q8 d8).toArray),(3,Value.agg (fcells (eDrop 4) none 0).toArray)]).run Tryz.prog u8= .ok (.value (.slice (some ⟨u8.heap.size,0,none⟩) 4 4)) (u8.alloc (.cells (([(eBlob,q6,d6),(eKeep 4,q7,d7),(eHint 2 4,q8,d8),(eDrop 4,none,0)]:List (Hd Fac)).map sF.row).flatten.toArray 28)):=build_facts u8 [(eBlob,q6,d6),(eKeep 4,q7,d7),(eHint 2 4,q8,d8),(eDrop 4,none,0)] (by intro y hy;simp only[List.mem_cons,List.not_mem_nil,or_false]at hy;rcases hy with rfl | rfl | rfl | rfl<;>first | exact sum32 _ | exact zlen) (by simp)
 have tf:=told_facts u8 [(eBlob,q6,d6),(eKeep 4,q7,d7),(eHint 2 4,q8,d8),(eDrop 4,none,0)] (by intro y hy;simp only[List.mem_cons,List.not_mem_nil,or_false]at hy;rcases hy with rfl | rfl | rfl | rfl<;>first | exact Gu6.out | exact Gu7.out | exact Gu8.out | exact drop_good _) (by simp)
 have hb:=(Below.refl u8.heap.size u8).alloc (Nat.le_refl _) (.cells (([(eBlob,q6,d6),(eKeep 4,q7,d7),(eHint 2 4,q8,d8),(eDrop 4,none,0)]:List (Hd Fac)).map sF.row).flatten.toArray 28)
 obtain⟨u10,hnw⟩:∃x,x=u8.alloc (.cells (([(eBlob,q6,d6),(eKeep 4,q7,d7),(eHint 2 4,q8,d8),(eDrop 4,none,0)]:List (Hd Fac)).map sF.row).flatten.toArray 28):=⟨_,rfl⟩
 rw[<-hnw]at bf tf hb
 have Tu10:=Lib.hid tf
 have Bu10:=Lib.hid (Bu8.out.trans (hb.mono Bu8.out.size))
 have mk:=fun w=>run_makeOp (P:=Tryz.prog) w (parts:=#[(0,.int .i64 10),(1,.int .i64 4)]) (built_set 10 4)
 clear tf hb hnw Gu6 Gu7 Gu8 Bu8
 go_wp2_with fail
 refine(counts_any F _ _ _ 0 0 0 [eBlob,eKeep 4,eHint 2 4,eDrop 4] _ 4 4 u10 Tu10.out (by omega) (by simp[show 2<=dataMost from by decide]) e_f2 rfl rfl rfl).mono ?_
 rintro e u11 ⟨rfl,hb⟩
 have Bu11:=Lib.hid (Bu10.out.trans (hb.mono Bu10.out.size))
 clear hb bf Tu10 Bu10 mk
 go_wp2_with fail
 go_ret
 exact⟨rfl,Bu11.out⟩
end
section
open Go.RowKit Sha Fct
attribute [local go_sem ↓] execOp_allocFact execOp_allocSte execOp_storeFact execOp_storeSte execOp_boxFact execOp_boxSte execOp_loadSte execOp_makeFact execOp_makeSte execOp_buildFacts execOp_loadFact
theorem range_below {w w':World} {b o:Nat} {cs:List Value}(h:w.rangeAt b o cs)(hb:Below w.heap.size w w'):w'.rangeAt b o cs:=fun j v hv=>(hb.cell (World.block_lt_of_cell? w _ (h j v hv))).trans (h j v hv)
end
section
namespace Fld
theorem encs_bd:∀(s:List Int)(l:List Itm),(∀x∈l,x.ok)->∀n∈encs s l,0<=n/\n<=255
 | [],_,_,n,h=>by simp[encs]at h
 | _::_,[],_,n,h=>by simp[encs]at h
 | c::s,x::l,hx,n,h=>by
    simp only[encs,List.mem_append]at h
    rcases h with h | h
    ·exact enc_bd c x (hx x (List.mem_cons_self ..)) n h
    ·exact encs_bd s l (fun y hy=>hx y (List.mem_cons_of_mem _ hy)) n h
end Fld
namespace Fct
theorem put_bd {f:Fac}(h:f.ok):∀n∈(put f).1,0<=n/\n<=255:=by
 by_cases hc:Can f
 ·rw[put_can hc];exact Fld.encs_bd _ _ (items_ok h)
 ·rw[put_not hc];simp
end Fct
end
section
open Go.RowKit
variable {P:Program}
theorem wp_region_cls {I:Type}(W:I->World) {id:Nat} {Q:Exit->Act->World->Prop} {a:Act} {w:World} {l:List Oper}(hm:P.follows .mixedOrders=true)(hB:Region.lexB .any l.toArray=true)(h0:∃n,w.drew=W n)
 (h:wpQuiet P l.toArray (fun w'=>∃n,w'=W n) (fun a'=>∀w',(∃n,w'=W n)->Q .normal a' w') l a):(Code.region id l.toArray true).wp P Q a w:=
 wp_region_quiet (C:=fun w'=>∃n,w'=W n) hm hB h0 (by simpa using h)
structure Cls (w:World)(I:Type)(W:I->World):Prop where
 back:∀n,Below w.heap.size w (W n)
 all:∀w',Below w.heap.size w w'->∃n,w'=W n
theorem cls_of (w:World):∃(I:Type)(W:I->World),Cls w I W:=⟨{w':World // Below w.heap.size w w'},Subtype.val,fun n=>n.2,fun w' h=>⟨⟨w',h⟩,rfl⟩⟩
section
variable {w:World} {I:Type} {W:I->World}
theorem Cls.ne (h:Cls w I W):Nonempty I:=by
 obtain⟨n,_⟩:=h.all w (Below.refl _ _)
 exact⟨n⟩
theorem Cls.one (h:Cls w I W):∃n,w.drew=W n:=h.all _ (Below.refl _ _).drew
theorem Cls.cell (h:Cls w I W) {p:Addr} {v:Value}(hc:w.cell? p=some v):∀n,(W n).cell? p=some v:=fun n=>((h.back n).cell (World.block_lt_of_cell? w p hc)).trans hc
theorem Cls.call (h:Cls w I W) {f:Nat} {args:Array Value} {v:Value}(hc:∀w',Below w.heap.size w w'->Calls P f args w' fun e w''=>e= .returned v/\Below w'.heap.size w' w''):∀n,Calls P f args (W n) fun e w''=>e= .returned v/\∃m,w''=W m:=fun n=>
 (hc _ (h.back n)).mono fun e w'' ⟨he,hb⟩=>⟨he,h.all _ ((h.back n).trans (hb.mono (h.back n).size))⟩
end
end
section
open Go.RowKit Sha Fct
@[irreducible] def eqlOp (t:TypeId) (x y:Operand) (u v:Value):Sem Next:=do pure (.value (<-(do eqGuard .eql t x y u v;binOp .eql t u v)))
theorem execOp_eqlId (ρ:Operand->Value)(dst:Option Tmp)(x y:Operand)(r:TypeId)(ty:TypeId)(pos:String)(after:Array Edge)(guard:Option (Nat×Bool)):
 execOp ρ {dst:=dst,op:=.binOp .eql 25 x y r,type:=ty,pos:=pos,after:=after,guard:=guard}= eqlOp 25 x y (ρ x) (ρ y):=by unfold eqlOp;rfl
theorem run_eqlId (x y:Operand)(xs ys:List Int)(hx:xs.length=32)(hy:ys.length=32)(b:Bool)(hb:b=decide (xs=ys))(w:World):(eqlOp 25 x y (.agg (xs.map v8).toArray) (.agg (ys.map v8).toArray)).run Tryz.prog w= .ok (.value (.bool b)) w:=by
 have hr:=run_eql_arr (P:=Tryz.prog) w x y 25 5 32 .u8 Tryz.underlying25 Tryz.underlying5 kslice1 xs ys hx hy
 subst hb
 unfold eqlOp
 simp only[Sem.run_bind,Sem.run_pure,Result.andThen_ok]at hr ⊢
 rw[hr]
 rfl
theorem load_idr {w:World} {g o:Nat} {xs:List Int}(hx:xs.length=32)(h:w.rangeAt g o (xs.map v8)):(loadOp 25 (.pointer (some ⟨g,o,none⟩))).run Tryz.prog w= .ok (.value (.agg (xs.map v8).toArray)) w:=
 run_loadOp (run_loadAt_mid w g o 25 _ _ h Tryz.underlying25 rfl (by rw[id_size,List.length_map,hx]))
theorem execOp_boxId (ρ:Operand->Value)(dst:Option Tmp)(x:Operand)(ty:TypeId)(pos:String)(after:Array Edge)(guard:Option (Nat×Bool)):
 execOp ρ {dst:=dst,op:=.box 25 x,type:=ty,pos:=pos,after:=after,guard:=guard}= boxOp 25 (ρ x):=by unfold boxOp;rfl
attribute [local go_sem ↓] execOp_allocFact execOp_allocSte execOp_storeFact execOp_storeSte execOp_boxFact execOp_boxSte execOp_loadSte execOp_makeFact execOp_makeSte execOp_buildFacts execOp_loadFact execOp_loadId execOp_eqlId execOp_boxId
end
end Go.Proofs.YtokpabkcaofahaaGreat
