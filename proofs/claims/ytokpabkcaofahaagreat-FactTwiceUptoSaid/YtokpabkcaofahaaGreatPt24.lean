/-
  What stands under factTwice_holds: part 24.
-/
import Derived.Test.YtokpabkcaofahaaGreatPt6
import Derived.Test.YtokpabkcaofahaaGreatPt23
import Derived.Test.YtokpabkcaofahaaGreatPt4
import Derived.Test.YtokpabkcaofahaaGreatPt1
import Derived.ProofKit
import Derived.OpenShut
import Derived.Test.YtokpabkcaofahaaGreatRows
import Derived.ChangeSlices
import Derived.Deep.Slices
import Derived.Deep.Strs
import Derived.Test.YtokpabkcaofahaaGreatPt3
namespace Go.Proofs.YtokpabkcaofahaaGreat
set_option linter.unusedSimpArgs false
set_option linter.unusedVariables false
set_option maxRecDepth 100000
set_option maxHeartbeats 20000000
section
open Go.RowKit Sha Fct
attribute [local go_sem ↓] execOp_allocFact execOp_allocSte execOp_storeFact execOp_storeSte execOp_boxFact execOp_boxSte execOp_loadSte execOp_makeFact execOp_makeSte execOp_buildFacts execOp_loadFact
theorem ftwice_any (F:FactsSame)(l:List Fac)(p:Option Addr)(n c:Nat)(x:Fac)(q:Option Addr)(d:Nat)(w:World)(h:sF.Told w p n c l)(hx:sF.Good w x q d)(hl:l.length<=listMost)(hB:∀y∈l,y.B.length<=dataMost):
 Calls Tryz.prog 9 #[.slice p n c,.agg (fcells x q d).toArray] w fun e w'=>e= .returned (.bool true)/\Below w.heap.size w w':=by
 have as_:=fun w=>alloc_ste w
 have bx:=fun w=>run_boxOp (P:=Tryz.prog) (t:=28) (cs:=(fcells x q d).toArray) w
 have HT:=Lib.hid h
 have HX:=Lib.hid hx
 have HBB:=Lib.hid hB
 have HLL:=Lib.hid hl
 have hxl:=hx.ok.len
 clear h hx hB hl
 go_enter Tryz.func9,Tryz.ntmps9
 go_wp2_with fail
 have hk:=Blk.new w (fcells x q d).toArray 28
 have hb1:=(Below.refl w.heap.size w).alloc (Nat.le_refl _) (Obj.cells (fcells x q d).toArray 28)
 refine(awake_any F.toFactsFold _).mono ?_
 rintro e w1 ⟨rfl,hb⟩
 have hb2:=hb1.trans (hb.mono (by simp))
 have B1:=Lib.hid hb2
 have K1:=Lib.hid (hk.below hb (by simp))
 have X1:=Lib.hid (HX.out.below hb2)
 have T1:=Lib.hid (HT.out.below hb2)
 clear hk hb1 hb hb2 HT HX
 obtain⟨g0,hg0⟩:∃g,g=w.heap.size:=⟨_,rfl⟩
 rw[<-hg0]at K1 ⊢
 clear hg0
 have HFO:=Lib.hid (F.fold l p n c w1 T1.out (by have:=HLL.out;omega) HBB.out)
 have HSO:=Lib.hid (run_ok l Ste.none Sound.none (fun x hx=>T1.out.rows.ok x hx))
 have HFW:=Lib.hid (fun t h=>fold_few (l:=l) (t:=t) h)
 rw[show Ste.none.run l=Fct.fold l from rfl]at HSO
 unfold FSte at HFO
 obtain⟨⟨s,er⟩,hr⟩:∃r,r=Fct.fold l:=⟨_,rfl⟩
 rw[<-hr]at HFO HSO HFW
 simp only at HSO
 clear hr
 go_wp2_with fail
 refine HFO.out.mono ?_
 rintro e w3 ⟨hd,rfl,hg,hb⟩
 have st:=store_ste1 w3 s hd
 have hb4:=hb.trans (((Below.refl w3.heap.size w3).alloc (Nat.le_refl _) (Obj.cells (scells s hd).toArray 47)).mono hb.size)
 have hb5:=(Below.refl w3.heap.size w3).alloc (Nat.le_refl _) (Obj.cells (scells s hd).toArray 47)
 have B4:=Lib.hid (B1.out.trans (hb4.mono B1.out.size))
 have K4:=Lib.hid (K1.out.below hb4 K1.out.lt)
 have X4:=Lib.hid (X1.out.below hb4)
 have T4:=Lib.hid (T1.out.below hb4)
 have G4:=Lib.hid (hg.below hb5)
 have S4:=Lib.hid (Blk.new w3 (scells s hd).toArray 47)
 have hlf:=longFacts_any p n c l _ T4.out
 clear hb hg hb4 hb5 HFO B1 K1 X1 T1
 simp only
 go_wp2_with fail
 refine hlf.mono ?_
 rintro e w5 ⟨b,rfl,hl,rfl⟩
 obtain⟨w5,hw5⟩:∃y,y=w3.alloc (Obj.cells (scells s hd).toArray 47):=⟨_,rfl⟩
 rw[<-hw5]at B4 K4 X4 T4 G4 S4 ⊢
 clear hlf st
 obtain⟨g1,hg1⟩:∃g,g=w3.heap.size:=⟨_,rfl⟩
 rw[<-hg1]at S4 ⊢
 clear hg1 hw5
 cases b with
 | true=>
    clear hl
    go_wp2_with fail
    go_ret
    exact⟨rfl,B4.out⟩
 | false=>
    obtain⟨hl60,_⟩:=hl rfl
    have HL60:=Lib.hid hl60
    clear hl hl60
    have ldx:=load_factB K4.out hxl
    have bf:(buildOp 30 1 #[(0,Value.agg (fcells x q d).toArray)]).run Tryz.prog w5= .ok (.value (.slice (some ⟨w5.heap.size,0,none⟩) 1 1)) (w5.alloc (.cells (([(x,q,d)]:List (Hd Fac)).map sF.row).flatten.toArray 28)):=build_facts w5 [(x,q,d)] (by intro y hy;rw[List.mem_singleton.1 hy];exact hxl) (by simp)
    have tf:=told_facts w5 [(x,q,d)] (by intro y hy;rw[List.mem_singleton.1 hy];exact X4.out) (by simp)
    have hb:=(Below.refl w5.heap.size w5).alloc (Nat.le_refl _) (Obj.cells (([(x,q,d)]:List (Hd Fac)).map sF.row).flatten.toArray 28)
    obtain⟨w6,hnw⟩:∃y,y=w5.alloc (.cells (([(x,q,d)]:List (Hd Fac)).map sF.row).flatten.toArray 28):=⟨_,rfl⟩
    rw[<-hnw]at bf tf hb
    have T6:=Lib.hid tf
    have B6:=Lib.hid (B4.out.trans (hb.mono B4.out.size))
    have K6:=Lib.hid (K4.out.below hb K4.out.lt)
    have S6:=Lib.hid (S4.out.below hb S4.out.lt)
    have X6:=Lib.hid (X4.out.below hb)
    have G6:=Lib.hid (G4.out.below hb)
    clear tf hb hnw B4 K4 X4 T4 G4 S4
    go_wp2_with fail
    refine(longFacts_any _ 1 1 [x] w6 T6.out).mono ?_
    rintro e w7 ⟨b,rfl,hl,rfl⟩
    clear ldx bf
    cases b with
    | true=>
       clear hl
       go_wp2_with fail
       go_ret
       exact⟨rfl,B6.out⟩
    | false=>
       have hxm:x.B.length<=dataMost:=by have h1:=(hl rfl).2 x (by simp);have:dataMost=1000000000000:=rfl;omega
       have HXM:=Lib.hid hxm
       clear hl hxm T6
       by_cases her:er=0
       ·subst her
        have HFS:=Lib.hid (HFW.out s rfl)
        clear HFW
        obtain⟨kv,hkv⟩:∃kv,kv=x.K:=⟨_,rfl⟩
        have c0:w6.cell? ⟨g0,0,none⟩=some (.int .i64 kv):=by rw[hkv];exact(K6.out.cell 0).trans (fcells_K x q d)
        have ldx:=load_factB K6.out hxl
        have lds:=load_steB S6.out
        have HAP:=Lib.hid (F.apply s hd x q d w6 HSO.out (by have:listMost=2000000:=rfl;have:=HFS.out;have:=HL60.out;omega) G6.out X6.out HXM.out)
        unfold FSteQ at HAP
        by_cases hk:kv=1\/kv=2\/kv=3\/kv=7\/kv=9
        ·have HK:=Lib.hid (show x.K=1\/x.K=2\/x.K=3\/x.K=7\/x.K=9 from by rw[<-hkv];exact hk)
         have HOF:=Lib.hid (on_few s x)
         by_cases hc:Fct.Can x
         ·have hap:s.apply x=(s.on x,0):=by unfold Ste.apply;rw[if_pos ((can_iff x).2 hc)]
          have hap2:(s.on x).apply x=(s.on x,0):=by unfold Ste.apply;rw[if_pos ((can_iff x).2 hc),on_twice HSO.out X6.out.ok hc HK.out]
          have HSN:=Lib.hid (HSO.out.on X6.out.ok hc)
          have HCK:=Lib.hid (check_ok hc)
          have HAP2:=Lib.hid hap2
          rw[hap]at HAP
          clear hap hap2 hc hkv
          rcases hk with rfl | rfl | rfl | rfl | rfl
          ·go_wp2_with fail
           refine HAP.out.mono ?_
           rintro e w8 ⟨h8,rfl,hg,hb,-⟩
           have st8:=store_ste1 w8 (s.on x) h8
           have hb8:=hb.trans (((Below.refl w8.heap.size w8).alloc (Nat.le_refl _) (Obj.cells (scells (s.on x) h8).toArray 47)).mono hb.size)
           have hb9:=(Below.refl w8.heap.size w8).alloc (Nat.le_refl _) (Obj.cells (scells (s.on x) h8).toArray 47)
           have B8:=Lib.hid (B6.out.trans (hb8.mono B6.out.size))
           have K8:=Lib.hid (K6.out.below hb8 K6.out.lt)
           have X8:=Lib.hid (X6.out.below hb8)
           have G8:=Lib.hid (hg.below hb9)
           have S8:=Lib.hid (Blk.new w8 (scells (s.on x) h8).toArray 47)
           have ldx8:=load_factB K8.out hxl
           have lds8:=load_steB S8.out
           have HA2:=Lib.hid (F.apply (s.on x) h8 x q d _ HSN.out (by have:listMost=2000000:=rfl;have:=HFS.out;have:=HL60.out;have:=HOF.out;omega) G8.out X8.out HXM.out)
           unfold FSteQ at HA2
           rw[HAP2.out]at HA2
           clear hb hg hb8 hb9 HAP B6 K6 X6 G6 S6 c0 ldx lds
           simp only
           go_wp2_with fail
           refine HA2.out.mono ?_
           rintro e w10 ⟨h10,rfl,hg,hb,-⟩
           have st10:=store_ste1 w10 (s.on x) h10
           have hb11:=hb.trans (((Below.refl w10.heap.size w10).alloc (Nat.le_refl _) (Obj.cells (scells (s.on x) h10).toArray 47)).mono hb.size)
           have hb12:=(Below.refl w10.heap.size w10).alloc (Nat.le_refl _) (Obj.cells (scells (s.on x) h10).toArray 47)
           have B10:=Lib.hid (B8.out.trans (hb11.mono B8.out.size))
           have K10:=Lib.hid (K8.out.below hb11 K8.out.lt)
           have X10:=Lib.hid (X8.out.below hb11)
           have G10:=Lib.hid (G8.out.below hb11)
           have H10:=Lib.hid (hg.below hb12)
           have S10:=Lib.hid (S8.out.below hb11 S8.out.lt)
           have R10:=Lib.hid (Blk.new w10 (scells (s.on x) h10).toArray 47)
           have ldx10:=load_factB K10.out hxl
           have hck:=F.check x q d _ X10.out HXM.out
           clear hb hg hb11 hb12 HA2 B8 K8 X8 G8 S8 ldx8 lds8 st8
           simp only
           go_wp2_with fail
           refine hck.mono ?_
           rintro e w11 ⟨rfl,hb⟩
           have B11:=Lib.hid (B10.out.trans (hb.mono B10.out.size))
           have G11:=Lib.hid (G10.out.below hb)
           have H11:=Lib.hid (H10.out.below hb)
           have lds11:=load_steB (S10.out.below hb S10.out.lt)
           have ldr11:=load_steB (R10.out.below hb R10.out.lt)
           clear hb hck ldx10 st10 B10 K10 X10 G10 H10 S10 R10
           rw[HCK.out]
           go_wp2_with fail
           refine(F.same (s.on x) (s.on x) h8 h10 w11 HSN.out HSN.out (by have:listMost=2000000:=rfl;have:=HFS.out;have:=HL60.out;have:=HOF.out;omega) (by have:listMost=2000000:=rfl;have:=HFS.out;have:=HL60.out;have:=HOF.out;omega) G11.out H11.out).mono ?_
           rintro e w12 ⟨rfl,hb⟩
           have B12:=Lib.hid (B11.out.trans (hb.mono B11.out.size))
           clear hb B11 G11 H11 lds11 ldr11
           first | rw[decide_eq_true (rfl:s.on x=s.on x)] | simp only[decide_true]
           go_wp2_with fail
           go_ret
           exact⟨rfl,B12.out⟩
          ·go_wp2_with fail
           refine HAP.out.mono ?_
           rintro e w8 ⟨h8,rfl,hg,hb,-⟩
           have st8:=store_ste1 w8 (s.on x) h8
           have hb8:=hb.trans (((Below.refl w8.heap.size w8).alloc (Nat.le_refl _) (Obj.cells (scells (s.on x) h8).toArray 47)).mono hb.size)
           have hb9:=(Below.refl w8.heap.size w8).alloc (Nat.le_refl _) (Obj.cells (scells (s.on x) h8).toArray 47)
           have B8:=Lib.hid (B6.out.trans (hb8.mono B6.out.size))
           have K8:=Lib.hid (K6.out.below hb8 K6.out.lt)
           have X8:=Lib.hid (X6.out.below hb8)
           have G8:=Lib.hid (hg.below hb9)
           have S8:=Lib.hid (Blk.new w8 (scells (s.on x) h8).toArray 47)
           have ldx8:=load_factB K8.out hxl
           have lds8:=load_steB S8.out
           have HA2:=Lib.hid (F.apply (s.on x) h8 x q d _ HSN.out (by have:listMost=2000000:=rfl;have:=HFS.out;have:=HL60.out;have:=HOF.out;omega) G8.out X8.out HXM.out)
           unfold FSteQ at HA2
           rw[HAP2.out]at HA2
           clear hb hg hb8 hb9 HAP B6 K6 X6 G6 S6 c0 ldx lds
           simp only
           go_wp2_with fail
           refine HA2.out.mono ?_
           rintro e w10 ⟨h10,rfl,hg,hb,-⟩
           have st10:=store_ste1 w10 (s.on x) h10
           have hb11:=hb.trans (((Below.refl w10.heap.size w10).alloc (Nat.le_refl _) (Obj.cells (scells (s.on x) h10).toArray 47)).mono hb.size)
           have hb12:=(Below.refl w10.heap.size w10).alloc (Nat.le_refl _) (Obj.cells (scells (s.on x) h10).toArray 47)
           have B10:=Lib.hid (B8.out.trans (hb11.mono B8.out.size))
           have K10:=Lib.hid (K8.out.below hb11 K8.out.lt)
           have X10:=Lib.hid (X8.out.below hb11)
           have G10:=Lib.hid (G8.out.below hb11)
           have H10:=Lib.hid (hg.below hb12)
           have S10:=Lib.hid (S8.out.below hb11 S8.out.lt)
           have R10:=Lib.hid (Blk.new w10 (scells (s.on x) h10).toArray 47)
           have ldx10:=load_factB K10.out hxl
           have hck:=F.check x q d _ X10.out HXM.out
           clear hb hg hb11 hb12 HA2 B8 K8 X8 G8 S8 ldx8 lds8 st8
           simp only
           go_wp2_with fail
           refine hck.mono ?_
           rintro e w11 ⟨rfl,hb⟩
           have B11:=Lib.hid (B10.out.trans (hb.mono B10.out.size))
           have G11:=Lib.hid (G10.out.below hb)
           have H11:=Lib.hid (H10.out.below hb)
           have lds11:=load_steB (S10.out.below hb S10.out.lt)
           have ldr11:=load_steB (R10.out.below hb R10.out.lt)
           clear hb hck ldx10 st10 B10 K10 X10 G10 H10 S10 R10
           rw[HCK.out]
           go_wp2_with fail
           refine(F.same (s.on x) (s.on x) h8 h10 w11 HSN.out HSN.out (by have:listMost=2000000:=rfl;have:=HFS.out;have:=HL60.out;have:=HOF.out;omega) (by have:listMost=2000000:=rfl;have:=HFS.out;have:=HL60.out;have:=HOF.out;omega) G11.out H11.out).mono ?_
           rintro e w12 ⟨rfl,hb⟩
           have B12:=Lib.hid (B11.out.trans (hb.mono B11.out.size))
           clear hb B11 G11 H11 lds11 ldr11
           first | rw[decide_eq_true (rfl:s.on x=s.on x)] | simp only[decide_true]
           go_wp2_with fail
           go_ret
           exact⟨rfl,B12.out⟩
          ·go_wp2_with fail
           refine HAP.out.mono ?_
           rintro e w8 ⟨h8,rfl,hg,hb,-⟩
           have st8:=store_ste1 w8 (s.on x) h8
           have hb8:=hb.trans (((Below.refl w8.heap.size w8).alloc (Nat.le_refl _) (Obj.cells (scells (s.on x) h8).toArray 47)).mono hb.size)
           have hb9:=(Below.refl w8.heap.size w8).alloc (Nat.le_refl _) (Obj.cells (scells (s.on x) h8).toArray 47)
           have B8:=Lib.hid (B6.out.trans (hb8.mono B6.out.size))
           have K8:=Lib.hid (K6.out.below hb8 K6.out.lt)
           have X8:=Lib.hid (X6.out.below hb8)
           have G8:=Lib.hid (hg.below hb9)
           have S8:=Lib.hid (Blk.new w8 (scells (s.on x) h8).toArray 47)
           have ldx8:=load_factB K8.out hxl
           have lds8:=load_steB S8.out
           have HA2:=Lib.hid (F.apply (s.on x) h8 x q d _ HSN.out (by have:listMost=2000000:=rfl;have:=HFS.out;have:=HL60.out;have:=HOF.out;omega) G8.out X8.out HXM.out)
           unfold FSteQ at HA2
           rw[HAP2.out]at HA2
           clear hb hg hb8 hb9 HAP B6 K6 X6 G6 S6 c0 ldx lds
           simp only
           go_wp2_with fail
           refine HA2.out.mono ?_
           rintro e w10 ⟨h10,rfl,hg,hb,-⟩
           have st10:=store_ste1 w10 (s.on x) h10
           have hb11:=hb.trans (((Below.refl w10.heap.size w10).alloc (Nat.le_refl _) (Obj.cells (scells (s.on x) h10).toArray 47)).mono hb.size)
           have hb12:=(Below.refl w10.heap.size w10).alloc (Nat.le_refl _) (Obj.cells (scells (s.on x) h10).toArray 47)
           have B10:=Lib.hid (B8.out.trans (hb11.mono B8.out.size))
           have K10:=Lib.hid (K8.out.below hb11 K8.out.lt)
           have X10:=Lib.hid (X8.out.below hb11)
           have G10:=Lib.hid (G8.out.below hb11)
           have H10:=Lib.hid (hg.below hb12)
           have S10:=Lib.hid (S8.out.below hb11 S8.out.lt)
           have R10:=Lib.hid (Blk.new w10 (scells (s.on x) h10).toArray 47)
           have ldx10:=load_factB K10.out hxl
           have hck:=F.check x q d _ X10.out HXM.out
           clear hb hg hb11 hb12 HA2 B8 K8 X8 G8 S8 ldx8 lds8 st8
           simp only
           go_wp2_with fail
           refine hck.mono ?_
           rintro e w11 ⟨rfl,hb⟩
           have B11:=Lib.hid (B10.out.trans (hb.mono B10.out.size))
           have G11:=Lib.hid (G10.out.below hb)
           have H11:=Lib.hid (H10.out.below hb)
           have lds11:=load_steB (S10.out.below hb S10.out.lt)
           have ldr11:=load_steB (R10.out.below hb R10.out.lt)
           clear hb hck ldx10 st10 B10 K10 X10 G10 H10 S10 R10
           rw[HCK.out]
           go_wp2_with fail
           refine(F.same (s.on x) (s.on x) h8 h10 w11 HSN.out HSN.out (by have:listMost=2000000:=rfl;have:=HFS.out;have:=HL60.out;have:=HOF.out;omega) (by have:listMost=2000000:=rfl;have:=HFS.out;have:=HL60.out;have:=HOF.out;omega) G11.out H11.out).mono ?_
           rintro e w12 ⟨rfl,hb⟩
           have B12:=Lib.hid (B11.out.trans (hb.mono B11.out.size))
           clear hb B11 G11 H11 lds11 ldr11
           first | rw[decide_eq_true (rfl:s.on x=s.on x)] | simp only[decide_true]
           go_wp2_with fail
           go_ret
           exact⟨rfl,B12.out⟩
          ·go_wp2_with fail
           refine HAP.out.mono ?_
           rintro e w8 ⟨h8,rfl,hg,hb,-⟩
           have st8:=store_ste1 w8 (s.on x) h8
           have hb8:=hb.trans (((Below.refl w8.heap.size w8).alloc (Nat.le_refl _) (Obj.cells (scells (s.on x) h8).toArray 47)).mono hb.size)
           have hb9:=(Below.refl w8.heap.size w8).alloc (Nat.le_refl _) (Obj.cells (scells (s.on x) h8).toArray 47)
           have B8:=Lib.hid (B6.out.trans (hb8.mono B6.out.size))
           have K8:=Lib.hid (K6.out.below hb8 K6.out.lt)
           have X8:=Lib.hid (X6.out.below hb8)
           have G8:=Lib.hid (hg.below hb9)
           have S8:=Lib.hid (Blk.new w8 (scells (s.on x) h8).toArray 47)
           have ldx8:=load_factB K8.out hxl
           have lds8:=load_steB S8.out
           have HA2:=Lib.hid (F.apply (s.on x) h8 x q d _ HSN.out (by have:listMost=2000000:=rfl;have:=HFS.out;have:=HL60.out;have:=HOF.out;omega) G8.out X8.out HXM.out)
           unfold FSteQ at HA2
           rw[HAP2.out]at HA2
           clear hb hg hb8 hb9 HAP B6 K6 X6 G6 S6 c0 ldx lds
           simp only
           go_wp2_with fail
           refine HA2.out.mono ?_
           rintro e w10 ⟨h10,rfl,hg,hb,-⟩
           have st10:=store_ste1 w10 (s.on x) h10
           have hb11:=hb.trans (((Below.refl w10.heap.size w10).alloc (Nat.le_refl _) (Obj.cells (scells (s.on x) h10).toArray 47)).mono hb.size)
           have hb12:=(Below.refl w10.heap.size w10).alloc (Nat.le_refl _) (Obj.cells (scells (s.on x) h10).toArray 47)
           have B10:=Lib.hid (B8.out.trans (hb11.mono B8.out.size))
           have K10:=Lib.hid (K8.out.below hb11 K8.out.lt)
           have X10:=Lib.hid (X8.out.below hb11)
           have G10:=Lib.hid (G8.out.below hb11)
           have H10:=Lib.hid (hg.below hb12)
           have S10:=Lib.hid (S8.out.below hb11 S8.out.lt)
           have R10:=Lib.hid (Blk.new w10 (scells (s.on x) h10).toArray 47)
           have ldx10:=load_factB K10.out hxl
           have hck:=F.check x q d _ X10.out HXM.out
           clear hb hg hb11 hb12 HA2 B8 K8 X8 G8 S8 ldx8 lds8 st8
           simp only
           go_wp2_with fail
           refine hck.mono ?_
           rintro e w11 ⟨rfl,hb⟩
           have B11:=Lib.hid (B10.out.trans (hb.mono B10.out.size))
           have G11:=Lib.hid (G10.out.below hb)
           have H11:=Lib.hid (H10.out.below hb)
           have lds11:=load_steB (S10.out.below hb S10.out.lt)
           have ldr11:=load_steB (R10.out.below hb R10.out.lt)
           clear hb hck ldx10 st10 B10 K10 X10 G10 H10 S10 R10
           rw[HCK.out]
           go_wp2_with fail
           refine(F.same (s.on x) (s.on x) h8 h10 w11 HSN.out HSN.out (by have:listMost=2000000:=rfl;have:=HFS.out;have:=HL60.out;have:=HOF.out;omega) (by have:listMost=2000000:=rfl;have:=HFS.out;have:=HL60.out;have:=HOF.out;omega) G11.out H11.out).mono ?_
           rintro e w12 ⟨rfl,hb⟩
           have B12:=Lib.hid (B11.out.trans (hb.mono B11.out.size))
           clear hb B11 G11 H11 lds11 ldr11
           first | rw[decide_eq_true (rfl:s.on x=s.on x)] | simp only[decide_true]
           go_wp2_with fail
           go_ret
           exact⟨rfl,B12.out⟩
          ·go_wp2_with fail
           refine HAP.out.mono ?_
           rintro e w8 ⟨h8,rfl,hg,hb,-⟩
           have st8:=store_ste1 w8 (s.on x) h8
           have hb8:=hb.trans (((Below.refl w8.heap.size w8).alloc (Nat.le_refl _) (Obj.cells (scells (s.on x) h8).toArray 47)).mono hb.size)
           have hb9:=(Below.refl w8.heap.size w8).alloc (Nat.le_refl _) (Obj.cells (scells (s.on x) h8).toArray 47)
           have B8:=Lib.hid (B6.out.trans (hb8.mono B6.out.size))
           have K8:=Lib.hid (K6.out.below hb8 K6.out.lt)
           have X8:=Lib.hid (X6.out.below hb8)
           have G8:=Lib.hid (hg.below hb9)
           have S8:=Lib.hid (Blk.new w8 (scells (s.on x) h8).toArray 47)
           have ldx8:=load_factB K8.out hxl
           have lds8:=load_steB S8.out
           have HA2:=Lib.hid (F.apply (s.on x) h8 x q d _ HSN.out (by have:listMost=2000000:=rfl;have:=HFS.out;have:=HL60.out;have:=HOF.out;omega) G8.out X8.out HXM.out)
           unfold FSteQ at HA2
           rw[HAP2.out]at HA2
           clear hb hg hb8 hb9 HAP B6 K6 X6 G6 S6 c0 ldx lds
           simp only
           go_wp2_with fail
           refine HA2.out.mono ?_
           rintro e w10 ⟨h10,rfl,hg,hb,-⟩
           have st10:=store_ste1 w10 (s.on x) h10
           have hb11:=hb.trans (((Below.refl w10.heap.size w10).alloc (Nat.le_refl _) (Obj.cells (scells (s.on x) h10).toArray 47)).mono hb.size)
           have hb12:=(Below.refl w10.heap.size w10).alloc (Nat.le_refl _) (Obj.cells (scells (s.on x) h10).toArray 47)
           have B10:=Lib.hid (B8.out.trans (hb11.mono B8.out.size))
           have K10:=Lib.hid (K8.out.below hb11 K8.out.lt)
           have X10:=Lib.hid (X8.out.below hb11)
           have G10:=Lib.hid (G8.out.below hb11)
           have H10:=Lib.hid (hg.below hb12)
           have S10:=Lib.hid (S8.out.below hb11 S8.out.lt)
           have R10:=Lib.hid (Blk.new w10 (scells (s.on x) h10).toArray 47)
           have ldx10:=load_factB K10.out hxl
           have hck:=F.check x q d _ X10.out HXM.out
           clear hb hg hb11 hb12 HA2 B8 K8 X8 G8 S8 ldx8 lds8 st8
           simp only
           go_wp2_with fail
           refine hck.mono ?_
           rintro e w11 ⟨rfl,hb⟩
           have B11:=Lib.hid (B10.out.trans (hb.mono B10.out.size))
           have G11:=Lib.hid (G10.out.below hb)
           have H11:=Lib.hid (H10.out.below hb)
           have lds11:=load_steB (S10.out.below hb S10.out.lt)
           have ldr11:=load_steB (R10.out.below hb R10.out.lt)
           clear hb hck ldx10 st10 B10 K10 X10 G10 H10 S10 R10
           rw[HCK.out]
           go_wp2_with fail
           refine(F.same (s.on x) (s.on x) h8 h10 w11 HSN.out HSN.out (by have:listMost=2000000:=rfl;have:=HFS.out;have:=HL60.out;have:=HOF.out;omega) (by have:listMost=2000000:=rfl;have:=HFS.out;have:=HL60.out;have:=HOF.out;omega) G11.out H11.out).mono ?_
           rintro e w12 ⟨rfl,hb⟩
           have B12:=Lib.hid (B11.out.trans (hb.mono B11.out.size))
           clear hb B11 G11 H11 lds11 ldr11
           first | rw[decide_eq_true (rfl:s.on x=s.on x)] | simp only[decide_true]
           go_wp2_with fail
           go_ret
           exact⟨rfl,B12.out⟩
         ·have hap:s.apply x=(Ste.none,2):=by unfold Ste.apply;rw[if_neg (fun e=>hc ((can_iff x).1 e))]
          have hap2:Ste.none.apply x=(Ste.none,2):=by unfold Ste.apply;rw[if_neg (fun e=>hc ((can_iff x).1 e))]
          have HCK:=Lib.hid (check_no hc)
          have HAP2:=Lib.hid hap2
          rw[hap]at HAP
          clear hap hap2 hc hkv
          rcases hk with rfl | rfl | rfl | rfl | rfl
          ·go_wp2_with fail
           refine HAP.out.mono ?_
           rintro e w8 ⟨h8,rfl,hg,hb,-⟩
           have st8:=store_ste1 w8 Ste.none h8
           have hb8:=hb.trans (((Below.refl w8.heap.size w8).alloc (Nat.le_refl _) (Obj.cells (scells Ste.none h8).toArray 47)).mono hb.size)
           have hb9:=(Below.refl w8.heap.size w8).alloc (Nat.le_refl _) (Obj.cells (scells Ste.none h8).toArray 47)
           have B8:=Lib.hid (B6.out.trans (hb8.mono B6.out.size))
           have K8:=Lib.hid (K6.out.below hb8 K6.out.lt)
           have X8:=Lib.hid (X6.out.below hb8)
           have G8:=Lib.hid (hg.below hb9)
           have S8:=Lib.hid (Blk.new w8 (scells Ste.none h8).toArray 47)
           have ldx8:=load_factB K8.out hxl
           have lds8:=load_steB S8.out
           have HA2:=Lib.hid (F.apply Ste.none h8 x q d _ Sound.none (by decide) G8.out X8.out HXM.out)
           unfold FSteQ at HA2
           rw[HAP2.out]at HA2
           clear hb hg hb8 hb9 HAP B6 K6 X6 G6 S6 c0 ldx lds
           simp only
           go_wp2_with fail
           refine HA2.out.mono ?_
           rintro e w10 ⟨h10,rfl,hg,hb,-⟩
           have st10:=store_ste1 w10 Ste.none h10
           have hb11:=hb.trans (((Below.refl w10.heap.size w10).alloc (Nat.le_refl _) (Obj.cells (scells Ste.none h10).toArray 47)).mono hb.size)
           have B10:=Lib.hid (B8.out.trans (hb11.mono B8.out.size))
           have X10:=Lib.hid (X8.out.below hb11)
           have ldx10:=load_factB (K8.out.below hb11 K8.out.lt) hxl
           have hck:=F.check x q d _ X10.out HXM.out
           clear hb hg hb11 HA2 B8 K8 X8 G8 S8 ldx8 lds8 st8
           simp only
           go_wp2_with fail
           refine hck.mono ?_
           rintro e w11 ⟨rfl,hb⟩
           have B11:=Lib.hid (B10.out.trans (hb.mono B10.out.size))
           clear hb hck ldx10 st10 B10 X10
           rw[HCK.out]
           go_wp2_with fail
           go_ret
           exact⟨rfl,B11.out⟩
          ·go_wp2_with fail
           refine HAP.out.mono ?_
           rintro e w8 ⟨h8,rfl,hg,hb,-⟩
           have st8:=store_ste1 w8 Ste.none h8
           have hb8:=hb.trans (((Below.refl w8.heap.size w8).alloc (Nat.le_refl _) (Obj.cells (scells Ste.none h8).toArray 47)).mono hb.size)
           have hb9:=(Below.refl w8.heap.size w8).alloc (Nat.le_refl _) (Obj.cells (scells Ste.none h8).toArray 47)
           have B8:=Lib.hid (B6.out.trans (hb8.mono B6.out.size))
           have K8:=Lib.hid (K6.out.below hb8 K6.out.lt)
           have X8:=Lib.hid (X6.out.below hb8)
           have G8:=Lib.hid (hg.below hb9)
           have S8:=Lib.hid (Blk.new w8 (scells Ste.none h8).toArray 47)
           have ldx8:=load_factB K8.out hxl
           have lds8:=load_steB S8.out
           have HA2:=Lib.hid (F.apply Ste.none h8 x q d _ Sound.none (by decide) G8.out X8.out HXM.out)
           unfold FSteQ at HA2
           rw[HAP2.out]at HA2
           clear hb hg hb8 hb9 HAP B6 K6 X6 G6 S6 c0 ldx lds
           simp only
           go_wp2_with fail
           refine HA2.out.mono ?_
           rintro e w10 ⟨h10,rfl,hg,hb,-⟩
           have st10:=store_ste1 w10 Ste.none h10
           have hb11:=hb.trans (((Below.refl w10.heap.size w10).alloc (Nat.le_refl _) (Obj.cells (scells Ste.none h10).toArray 47)).mono hb.size)
           have B10:=Lib.hid (B8.out.trans (hb11.mono B8.out.size))
           have X10:=Lib.hid (X8.out.below hb11)
           have ldx10:=load_factB (K8.out.below hb11 K8.out.lt) hxl
           have hck:=F.check x q d _ X10.out HXM.out
           clear hb hg hb11 HA2 B8 K8 X8 G8 S8 ldx8 lds8 st8
           simp only
           go_wp2_with fail
           refine hck.mono ?_
           rintro e w11 ⟨rfl,hb⟩
           have B11:=Lib.hid (B10.out.trans (hb.mono B10.out.size))
           clear hb hck ldx10 st10 B10 X10
           rw[HCK.out]
           go_wp2_with fail
           go_ret
           exact⟨rfl,B11.out⟩
          ·go_wp2_with fail
           refine HAP.out.mono ?_
           rintro e w8 ⟨h8,rfl,hg,hb,-⟩
           have st8:=store_ste1 w8 Ste.none h8
           have hb8:=hb.trans (((Below.refl w8.heap.size w8).alloc (Nat.le_refl _) (Obj.cells (scells Ste.none h8).toArray 47)).mono hb.size)
           have hb9:=(Below.refl w8.heap.size w8).alloc (Nat.le_refl _) (Obj.cells (scells Ste.none h8).toArray 47)
           have B8:=Lib.hid (B6.out.trans (hb8.mono B6.out.size))
           have K8:=Lib.hid (K6.out.below hb8 K6.out.lt)
           have X8:=Lib.hid (X6.out.below hb8)
           have G8:=Lib.hid (hg.below hb9)
           have S8:=Lib.hid (Blk.new w8 (scells Ste.none h8).toArray 47)
           have ldx8:=load_factB K8.out hxl
           have lds8:=load_steB S8.out
           have HA2:=Lib.hid (F.apply Ste.none h8 x q d _ Sound.none (by decide) G8.out X8.out HXM.out)
           unfold FSteQ at HA2
           rw[HAP2.out]at HA2
           clear hb hg hb8 hb9 HAP B6 K6 X6 G6 S6 c0 ldx lds
           simp only
           go_wp2_with fail
           refine HA2.out.mono ?_
           rintro e w10 ⟨h10,rfl,hg,hb,-⟩
           have st10:=store_ste1 w10 Ste.none h10
           have hb11:=hb.trans (((Below.refl w10.heap.size w10).alloc (Nat.le_refl _) (Obj.cells (scells Ste.none h10).toArray 47)).mono hb.size)
           have B10:=Lib.hid (B8.out.trans (hb11.mono B8.out.size))
           have X10:=Lib.hid (X8.out.below hb11)
           have ldx10:=load_factB (K8.out.below hb11 K8.out.lt) hxl
           have hck:=F.check x q d _ X10.out HXM.out
           clear hb hg hb11 HA2 B8 K8 X8 G8 S8 ldx8 lds8 st8
           simp only
           go_wp2_with fail
           refine hck.mono ?_
           rintro e w11 ⟨rfl,hb⟩
           have B11:=Lib.hid (B10.out.trans (hb.mono B10.out.size))
           clear hb hck ldx10 st10 B10 X10
           rw[HCK.out]
           go_wp2_with fail
           go_ret
           exact⟨rfl,B11.out⟩
          ·go_wp2_with fail
           refine HAP.out.mono ?_
           rintro e w8 ⟨h8,rfl,hg,hb,-⟩
           have st8:=store_ste1 w8 Ste.none h8
           have hb8:=hb.trans (((Below.refl w8.heap.size w8).alloc (Nat.le_refl _) (Obj.cells (scells Ste.none h8).toArray 47)).mono hb.size)
           have hb9:=(Below.refl w8.heap.size w8).alloc (Nat.le_refl _) (Obj.cells (scells Ste.none h8).toArray 47)
           have B8:=Lib.hid (B6.out.trans (hb8.mono B6.out.size))
           have K8:=Lib.hid (K6.out.below hb8 K6.out.lt)
           have X8:=Lib.hid (X6.out.below hb8)
           have G8:=Lib.hid (hg.below hb9)
           have S8:=Lib.hid (Blk.new w8 (scells Ste.none h8).toArray 47)
           have ldx8:=load_factB K8.out hxl
           have lds8:=load_steB S8.out
           have HA2:=Lib.hid (F.apply Ste.none h8 x q d _ Sound.none (by decide) G8.out X8.out HXM.out)
           unfold FSteQ at HA2
           rw[HAP2.out]at HA2
           clear hb hg hb8 hb9 HAP B6 K6 X6 G6 S6 c0 ldx lds
           simp only
           go_wp2_with fail
           refine HA2.out.mono ?_
           rintro e w10 ⟨h10,rfl,hg,hb,-⟩
           have st10:=store_ste1 w10 Ste.none h10
           have hb11:=hb.trans (((Below.refl w10.heap.size w10).alloc (Nat.le_refl _) (Obj.cells (scells Ste.none h10).toArray 47)).mono hb.size)
           have B10:=Lib.hid (B8.out.trans (hb11.mono B8.out.size))
           have X10:=Lib.hid (X8.out.below hb11)
           have ldx10:=load_factB (K8.out.below hb11 K8.out.lt) hxl
           have hck:=F.check x q d _ X10.out HXM.out
           clear hb hg hb11 HA2 B8 K8 X8 G8 S8 ldx8 lds8 st8
           simp only
           go_wp2_with fail
           refine hck.mono ?_
           rintro e w11 ⟨rfl,hb⟩
           have B11:=Lib.hid (B10.out.trans (hb.mono B10.out.size))
           clear hb hck ldx10 st10 B10 X10
           rw[HCK.out]
           go_wp2_with fail
           go_ret
           exact⟨rfl,B11.out⟩
          ·go_wp2_with fail
           refine HAP.out.mono ?_
           rintro e w8 ⟨h8,rfl,hg,hb,-⟩
           have st8:=store_ste1 w8 Ste.none h8
           have hb8:=hb.trans (((Below.refl w8.heap.size w8).alloc (Nat.le_refl _) (Obj.cells (scells Ste.none h8).toArray 47)).mono hb.size)
           have hb9:=(Below.refl w8.heap.size w8).alloc (Nat.le_refl _) (Obj.cells (scells Ste.none h8).toArray 47)
           have B8:=Lib.hid (B6.out.trans (hb8.mono B6.out.size))
           have K8:=Lib.hid (K6.out.below hb8 K6.out.lt)
           have X8:=Lib.hid (X6.out.below hb8)
           have G8:=Lib.hid (hg.below hb9)
           have S8:=Lib.hid (Blk.new w8 (scells Ste.none h8).toArray 47)
           have ldx8:=load_factB K8.out hxl
           have lds8:=load_steB S8.out
           have HA2:=Lib.hid (F.apply Ste.none h8 x q d _ Sound.none (by decide) G8.out X8.out HXM.out)
           unfold FSteQ at HA2
           rw[HAP2.out]at HA2
           clear hb hg hb8 hb9 HAP B6 K6 X6 G6 S6 c0 ldx lds
           simp only
           go_wp2_with fail
           refine HA2.out.mono ?_
           rintro e w10 ⟨h10,rfl,hg,hb,-⟩
           have st10:=store_ste1 w10 Ste.none h10
           have hb11:=hb.trans (((Below.refl w10.heap.size w10).alloc (Nat.le_refl _) (Obj.cells (scells Ste.none h10).toArray 47)).mono hb.size)
           have B10:=Lib.hid (B8.out.trans (hb11.mono B8.out.size))
           have X10:=Lib.hid (X8.out.below hb11)
           have ldx10:=load_factB (K8.out.below hb11 K8.out.lt) hxl
           have hck:=F.check x q d _ X10.out HXM.out
           clear hb hg hb11 HA2 B8 K8 X8 G8 S8 ldx8 lds8 st8
           simp only
           go_wp2_with fail
           refine hck.mono ?_
           rintro e w11 ⟨rfl,hb⟩
           have B11:=Lib.hid (B10.out.trans (hb.mono B10.out.size))
           clear hb hck ldx10 st10 B10 X10
           rw[HCK.out]
           go_wp2_with fail
           go_ret
           exact⟨rfl,B11.out⟩
        ·have n1:(kv != 1)=true:=by rw[bne_iff_ne];omega
         have n2:(kv != 2)=true:=by rw[bne_iff_ne];omega
         have n3:(kv != 3)=true:=by rw[bne_iff_ne];omega
         have n7:(kv != 7)=true:=by rw[bne_iff_ne];omega
         have n9:(kv != 9)=true:=by rw[bne_iff_ne];omega
         clear hk hkv HAP
         go_wp2_with fail
         go_ret
         exact⟨rfl,B6.out⟩
       ·have her':(er == 0)=false:=by rw[beq_eq_false_iff_ne];exact her
        go_wp2_with fail
        go_ret
        exact⟨rfl,B6.out⟩
end
section
open Go.RowKit Sha Fct
theorem factTwice_law (l:List Fac)(n:Nat)(p:Option Addr)(c:Nat)(x:Fac)(q:Option Addr)(d:Nat)(w:World)(h:sF.Told w p n c l)(hx:sF.Good w x q d)(big:l.length<=listMost/\∀y∈l,y.B.length<=dataMost):
 Calls Tryz.prog 9 #[.slice p n c,.agg (fcells x q d).toArray] w fun e w'=>e= .returned (.bool true)/\Below w.heap.size w w':=ftwice_any factSame l p n c x q d w h hx big.1 big.2
end
section
open Go.ChangeShapes Go.WideShapes Go.ChangeAt Go.RowKit
section
variable {H:Type} {enc:TypeId×Value->H} {P:Program}
theorem trodAll_carry {W W':World}(hl:laidOutB P=true)(hb:Below W.heap.size W W'):
 ∀{ts:List TypeId} {vs:List Value} {ds:List (DataW H)} {ps:List MemPlace},DataW.TrodAll enc P W 0 (fun _=>true) true ts vs ds ps->(∀t∈ts,P.readableRec t=true/\t < P.types.size)->(∀x∈ps,x.block < W.heap.size)->
  DataW.TrodAll enc P W' 0 (fun b=>decide (b < W.heap.size)) true ts vs ds ps
 | [],vs,ds,ps,h,_,_=>by
    obtain⟨rfl,rfl,rfl⟩:=trodAll_nil h
    exact trodAll_mk0
 | t::ts,vs,ds,ps,h,hr,hp=>by
    obtain⟨v,vs',d,ds',p,p',rfl,rfl,rfl,h1,h2⟩:=trodAll_cons h
    exact⟨p,p',Below.trod hl (hr t (by simp)).1 (hr t (by simp)).2 h1 hb (fun x hx=>hp x (by simp[hx])),trodAll_carry hl hb h2 (fun t ht=>hr t (by simp[ht])) (fun x hx=>hp x (by simp[hx])),rfl⟩
theorem law_post {f:Func} {s:ChangeSpec} {W W':World} {args:Array Value} {ds:List (DataW H)} {before:List MemPlace} {tb:TypeId}
 (hW:DataW.Whole enc P f.params.toList s.vars false W args.toList ds [] before) (hv:s.vars= []) (hfn:s.fn H (ds++[])= {results:=[.lit (.bool true)],args:=ds})
 (hr:f.resultTypes=#[tb]) (hu:P.underlying tb=some .bool) (hl:laidOutB P=true) (hps:∀t∈f.params.toList,P.readableRec t=true/\t < P.types.size) (hb:Below W.heap.size W W'):
 s.post enc P f false true false false W args (.bool true) W':=by
 have hlt:∀p∈before,p.block < W.heap.size:=fun p hp=>hW.lt p hp
 have hW2:=hW
 obtain⟨p,q,hA,hV,hbe,_,_⟩:=hW2
 rw[hv]at hV
 obtain⟨_,hq⟩:=trodVars_none hV
 have hbp:before=p:=by rw[hbe,hq,List.append_nil]
 refine⟨ds,[],before,[],p,[],hW,?_,?_,?_,?_,fun h=>by cases h⟩
 ·rw[hr,hfn]
  exact trodAll_mk1 (shut_bool hu true)
 ·rw[hfn]
  exact trodAll_carry hl hb hA hps (fun x hx=>hlt x (by rw[hbp];exact hx))
 ·rw[hv,hfn];rfl
 ·refine World.keptBut_mono (fun x hx=>⟨hx,?_⟩) (hb.frame (· ∈before))
  right;left
  rw[<-hbp];exact hx
end
end
section
open Go.ChangeShapes Go.WideShapes Go.ChangeAt Go.RowKit
theorem Tryz.own:ownKnob Tryz.prog.godebug=none:=by kernel_rfl
theorem Tryz.laidOut:laidOutB Tryz.prog=true:=by kernel_rfl
section
variable {H:Type} {enc:TypeId×Value->H} {P:Program} {w:World} {base:Nat} {spare:Nat->Bool} {held:Bool}
end
end
section
open Go.ChangeShapes Go.WideShapes Go.ChangeAt Go.RowKit Sha
section
variable {H:Type} {enc:TypeId×Value->H} {P:Program} {w:World} {base:Nat} {spare:Nat->Bool} {held:Bool}
theorem cells_bytesl {t e:TypeId} {fuel:Nat} {cs:List Value} {x:DataW H×List MemPlace}(ht:P.underlying t=some (.slice e))(he:P.underlying e=some (.int .u8))(hc:P.cellsOf e=1)
 (hf:DataW.trod enc P w base spare held fuel t cs=some x):
 ∃(q:Option Addr) (xs:List Int) (cap:Nat),cs= [.slice q xs.length cap]/\At w q (xs.map v8)/\xs.length<=cap/\cap<=maxLen/\(q=none->cap=0)/\(∀n∈xs,0<=n/\n<=255):=by
 rcases open_ints ht he hc hf with⟨hcs,hx⟩ | ⟨a,len,cap,zs,hcs,_,hl,hm,hz,hx,hcell,hwz⟩
 ·exact⟨none,[],0,hcs,At.nil _ _,Nat.le_refl _,by simp[maxLen],fun _=>rfl,by simp⟩
 ·have hzl:len<=zs.length:=by rw[hz];split<;>omega
  have hlen:(zs.take len).length=len:=by simp;omega
  refine⟨some a,zs.take len,cap,by rw[hlen];exact hcs,?_,by rw[hlen];exact hl,hm,(fun h=>by cases h),fun n hn=>bounds_u8 (hwz n (List.mem_of_mem_take hn))⟩
  by_cases h0:len=0
  ·subst h0;simp;exact At.nil _ _
  ·have h1:=hcell 0 (by omega)
   have hsp:a.spot=none:=by
    have:a.add 0=a:=by simp[Addr.add]
    rw[this]at h1
    cases hs:a.spot with
    | none=>rfl
    | some s=>
       unfold World.cell? at h1
       split at h1
       ·simp[hs]at h1
       ·cases h1
   obtain⟨b,off,sp⟩:=a
   simp only at hsp
   subst hsp
   refine Or.inr ⟨b,off,rfl,fun i v hi=>?_⟩
   rw[List.getElem?_map]at hi
   rcases Nat.lt_or_ge i len with hlt | hge
   ·rw[List.getElem?_take,if_pos hlt,List.getElem?_eq_getElem (by omega)]at hi
    simp at hi
    subst hi
    have:=hcell i (by omega)
    rw[Addr.add_mid]at this
    rw[this];simp[v8,List.getElem?_eq_getElem (show i < zs.length by omega)]
   ·rw[List.getElem?_eq_none (by simp;omega)]at hi;cases hi
end
end
section
set_option maxRecDepth 100000
open Go.ChangeShapes Go.WideShapes Go.ChangeAt Go.RowKit Sha Fct
section
variable {H:Type} {enc:TypeId×Value->H} {P:Program} {w:World} {base:Nat} {spare:Nat->Bool} {held:Bool}
theorem cells_bytes9 {t e:TypeId} {n fuel:Nat} {cs:List Value} {x:DataW H×List MemPlace}(ht:P.underlying t=some (.array n e))(he:P.underlying e=some (.int .u8))(hce:P.cellsOf e=1)(hct:P.cellsOf t=n)
 (hf:DataW.trod enc P w base spare held fuel t cs=some x):
 ∃xs:List Int,cs=xs.map v8/\xs.length=n/\(∀m∈xs,0<=m/\m<=255):=by
 obtain⟨ys,m,_,hx,hl,hyl,hel⟩:=DataW.trod_array ht hf
 simp only[hce,Nat.mul_one]at hel
 have hcl:cs.length=n:=by rw[hl,hct]
 have each:∀i,i < n->∃z,cs[i]? = some (.int .u8 z)/\0<=z/\z<=255:=by
  intro i hi
  have h1:=hel i hi
  obtain⟨y,hy⟩:∃y,ys[i]? = some y:=⟨ys[i],List.getElem?_eq_getElem (by omega)⟩
  rw[hy]at h1
  obtain⟨z,hc,rfl,hwf⟩:=DataW.trod_int he h1
  refine⟨z,?_,bounds_u8 hwf⟩
  have:=congrArg (·[0]?) hc
  simpa[List.getElem?_take,List.getElem?_drop]using this
 refine⟨(cs.map fun c=>match c with | .int _ z=>z | _=>0),?_,by simpa using hcl,?_⟩
 ·simp only[List.map_map]
  apply List.ext_getElem?
  intro i
  rw[List.getElem?_map]
  by_cases hi:i < n
  ·obtain⟨z,hz,_⟩:=each i hi
   simp[hz,v8]
  ·rw[List.getElem?_eq_none (by omega)];rfl
 ·intro q hq
  obtain⟨c,hc,rfl⟩:=List.mem_map.1 hq
  obtain⟨i,hi,hci⟩:=List.mem_iff_getElem.1 hc
  obtain⟨z,hz,hb⟩:=each i (by omega)
  rw[List.getElem?_eq_getElem hi,hci]at hz
  cases hz
  exact hb
end
section
variable {H:Type} {enc:TypeId×Value->H} {w:World} {base:Nat} {spare:Nat->Bool} {held:Bool}
theorem trod_struct6 {P:Program} {t:TypeId} {f0 f1 f2 f3 f4 f5:Field} {fuel:Nat} {cs:List Value} {x:DataW H×List MemPlace}(ht:P.underlying t=some (.struct #[f0,f1,f2,f3,f4,f5]))(h:DataW.trod enc P w base spare held fuel t cs=some x):
 ∃y0 y1 y2 y3 y4 y5 n,cs.length=P.cellsOf t/\DataW.trod enc P w base spare held n f0.type ((cs.drop f0.offset).take (P.cellsOf f0.type))=some y0/\
  DataW.trod enc P w base spare held n f1.type ((cs.drop f1.offset).take (P.cellsOf f1.type))=some y1/\DataW.trod enc P w base spare held n f2.type ((cs.drop f2.offset).take (P.cellsOf f2.type))=some y2/\
  DataW.trod enc P w base spare held n f3.type ((cs.drop f3.offset).take (P.cellsOf f3.type))=some y3/\DataW.trod enc P w base spare held n f4.type ((cs.drop f4.offset).take (P.cellsOf f4.type))=some y4/\
  DataW.trod enc P w base spare held n f5.type ((cs.drop f5.offset).take (P.cellsOf f5.type))=some y5:=by
 obtain⟨xs,n,_,rfl,hl,hlen,hf⟩:=DataW.trod_struct ht h
 match xs,hlen with
 | [y0,y1,y2,y3,y4,y5],_=>exact⟨y0,y1,y2,y3,y4,y5,n,hl,by simpa using hf 0 f0 rfl,by simpa using hf 1 f1 rfl,by simpa using hf 2 f2 rfl,by simpa using hf 3 f3 rfl,by simpa using hf 4 f4 rfl,by simpa using hf 5 f5 rfl⟩
theorem cells32f:Tryz.prog.cellsOf 25=32:=by kernel_rfl
theorem cells1sf:Tryz.prog.cellsOf 26=1:=by kernel_rfl
theorem cells1bf:Tryz.prog.cellsOf 5=1:=by kernel_rfl
theorem cells1if:Tryz.prog.cellsOf 3=1:=by kernel_rfl
theorem cells38:Tryz.prog.cellsOf 28=38:=by kernel_rfl
theorem cells2b:Tryz.prog.cellsOf 23=2:=by kernel_rfl
theorem open_fact {fuel:Nat} {cs:List Value} {x:DataW H×List MemPlace}(h:DataW.trod enc Tryz.prog w base spare held fuel 28 cs=some x):
 ∃y:Hd Fac,cs=sF.row y/\sF.Good w y.1 y.2.1 y.2.2:=by
 obtain⟨y0,y1,y2,y3,y4,y5,n,hl,h0,h1,h2,h3,h4,h5⟩:=trod_struct6 Tryz.underlying28 h
 have h0':DataW.trod enc Tryz.prog w base spare held n 3 ((cs.drop 0).take 1)=some y0:=by rw[<-cells1if];exact h0
 have h1':DataW.trod enc Tryz.prog w base spare held n 3 ((cs.drop 1).take 1)=some y1:=by rw[<-cells1if];exact h1
 have h2':DataW.trod enc Tryz.prog w base spare held n 3 ((cs.drop 2).take 1)=some y2:=by rw[<-cells1if];exact h2
 have h3':DataW.trod enc Tryz.prog w base spare held n 23 ((cs.drop 3).take 2)=some y3:=by rw[<-cells2b];exact h3
 have h4':DataW.trod enc Tryz.prog w base spare held n 25 ((cs.drop 5).take 32)=some y4:=by rw[<-cells32f];exact h4
 have h5':DataW.trod enc Tryz.prog w base spare held n 26 ((cs.drop 37).take 1)=some y5:=by rw[<-cells1sf];exact h5
 rw[cells38]at hl
 clear h0 h1 h2 h3 h4 h5 h
 obtain⟨K,c0,_,hw0⟩:=DataW.trod_int Tryz.underlying3 h0'
 obtain⟨S,c1,_,hw1⟩:=DataW.trod_int Tryz.underlying3 h1'
 obtain⟨Hm,c2,_,hw2⟩:=DataW.trod_int Tryz.underlying3 h2'
 obtain⟨z0,z1,n3,_,hl3,g0,g1⟩:=Go.ChangeShapes.trod_struct2 Tryz.underlying23 h3'
 have g0':DataW.trod enc Tryz.prog w base spare held n3 3 ((((cs.drop 3).take 2).drop 0).take 1)=some z0:=by rw[<-cells1if];exact g0
 have g1':DataW.trod enc Tryz.prog w base spare held n3 3 ((((cs.drop 3).take 2).drop 1).take 1)=some z1:=by rw[<-cells1if];exact g1
 obtain⟨N,c3,_,hw3⟩:=DataW.trod_int Tryz.underlying3 g0'
 obtain⟨O,c4,_,hw4⟩:=DataW.trod_int Tryz.underlying3 g1'
 obtain⟨D,c5,hD,hDb⟩:=cells_bytes9 Tryz.underlying25 Tryz.underlying5 cells1bf cells32f h4'
 obtain⟨q,B,cap,c6,hA,hle,hm,hn,hB⟩:=cells_bytesl Tryz.underlying26 Tryz.underlying5 cells1bf h5'
 clear h0' h1' h2' h3' h4' h5' g0 g1 g0' g1' hl3
 have e:cs= .int .i64 K::.int .i64 S::.int .i64 Hm::.int .i64 N::.int .i64 O::(D.map v8++[.slice q B.length cap]):=by
  rcases cs with _ | ⟨a0,_ | ⟨a1,_ | ⟨a2,_ | ⟨a3,_ | ⟨a4,r⟩⟩⟩⟩⟩
  ·simp at hl
  ·simp at hl
  ·simp at hl
  ·simp at hl
  ·simp at hl
  ·simp at c0 c1 c2 c3 c4 c5 c6 hl
   subst c0 c1 c2 c3 c4
   rw[<-c5,<-c6]
   have hr:r=r.take 32++(r.drop 32).take 1:=by rw[List.take_of_length_le (l:=r.drop 32) (by rw[List.length_drop];omega),List.take_append_drop]
   rw[<-hr]
 have k0:=bounds_i64 hw0
 have k1:=bounds_i64 hw1
 have k2:=bounds_i64 hw2
 have k3:=bounds_i64 hw3
 have k4:=bounds_i64 hw4
 exact⟨(⟨K,S,Hm,N,O,D,B⟩,q,cap),e,⟨⟨k0,k1,k2,k3,k4,hDb,hB,hD⟩,hA,hle,by unfold maxLen at hm;omega,hn⟩⟩
theorem open_fact1 {r:Reach} {b0:Nat} {v:Value} {d:DataW H} {p:List MemPlace}(hv:Value.okWide Tryz.prog w r b0 28 v)(h:DataW.Trod enc Tryz.prog w base spare held 28 v d p):
 ∃(x:Fac) (q:Option Addr) (c:Nat),v= .agg (fcells x q c).toArray/\sF.Good w x q c:=by
 obtain⟨cs,rfl,_⟩:=okWide_struct Tryz.underlying28 hv
 obtain⟨fuel,hf⟩:=h
 obtain⟨⟨x,q,c⟩,h1,h2⟩:=open_fact hf
 exact⟨x,q,c,by simp[Value.cells]at h1;rw[show(fcells x q c)=cs.toList from h1.symm],h2⟩
theorem fflat_inv (ys:List (Hd Fac))(h:∀y∈ys,y.1.ok)(j:Nat)(v:Value)(hv:(ys.flatMap sF.row)[j]? = some v):∃(i r:Nat)(hi:i < ys.length),r < 38/\j=i*38+r/\(sF.row ys[i])[r]? = some v:=by
 induction ys generalizing j with
 | nil=>simp at hv
 | cons y ys ih=>
    have hl:(sF.row y).length=38:=fcells_length (h y (List.mem_cons_self ..)).len _ _
    rw[List.flatMap_cons]at hv
    by_cases hj:j < 38
    ·rw[List.getElem?_append_left (by omega)]at hv
     exact⟨0,j,by simp,hj,by omega,by simpa using hv⟩
    ·rw[List.getElem?_append_right (by omega),hl]at hv
     obtain⟨i,r,hi,hr,he,hv'⟩:=ih (fun y hy=>h y (List.mem_cons_of_mem _ hy)) (j - 38) hv
     exact⟨i+1,r,by simpa using hi,hr,by omega,by simpa using hv'⟩
end
end
section
set_option maxRecDepth 100000
open Go.ChangeShapes Go.WideShapes Go.ChangeAt Go.RowKit Sha Fct
theorem bulk_one {H:Type}(d:DataW H):1<=Rows.uptoBulk d:=by
 cases d with
 | lit l=>cases l<;>simp[Rows.uptoBulk]
 | nil=>simp[Rows.uptoBulk]
 | ptr d=>simp[Rows.uptoBulk]
 | slice elems spare=>simp[Rows.uptoBulk]
 | agg parts=>simp[Rows.uptoBulk]
 | iface t d=>simp[Rows.uptoBulk]
 | map entries=>simp[Rows.uptoBulk]
 | held h=>simp[Rows.uptoBulk]
theorem bulk_length {H:Type}(l:List (DataW H)):l.length<=Rows.uptoBulkAll l:=by
 induction l with
 | nil=>simp[Rows.uptoBulkAll]
 | cons x r ih=>have:=bulk_one x;simp only[Rows.uptoBulkAll,List.length_cons];omega
theorem bulk_mem {H:Type} {l:List (DataW H)} {x:DataW H}(h:x∈l):Rows.uptoBulk x<=Rows.uptoBulkAll l:=by
 induction l with
 | nil=>cases h
 | cons y r ih=>
    simp only[Rows.uptoBulkAll]
    rcases List.mem_cons.1 h with rfl | h
    ·omega
    ·have:=ih h;omega
section
variable {H:Type} {enc:TypeId×Value->H} {w:World} {base:Nat} {spare:Nat->Bool} {held:Bool}
theorem slice_bulk {P:Program} {t e:TypeId} {fuel:Nat} {q:Option Addr} {n c:Nat} {x:DataW H×List MemPlace}(ht:P.underlying t=some (.slice e))(h:DataW.trod enc P w base spare held fuel t [.slice q n c] = some x):n<=Rows.uptoBulk x.1:=by
 rcases Deep.open_slice ht h with⟨hcs,hx⟩ | ⟨a,len,cap,m,k,D,Pl,hcs,_,hl,hm,hmm,hx,hel⟩
 ·simp at hcs
  omega
 ·simp at hcs
  obtain⟨rfl,rfl,rfl⟩:=hcs
  rw[hx]
  have:=bulk_length ((List.range n).map D)
  simp only[List.length_map,List.length_range]at this
  simp only[Rows.uptoBulk]
  omega
theorem fact_bulk {fuel:Nat} {y:Hd Fac} {x:DataW H×List MemPlace}(hy:y.1.D.length=32)(h:DataW.trod enc Tryz.prog w base spare held fuel 28 (sF.row y)=some x):y.1.B.length<=Rows.uptoBulk x.1:=by
 obtain⟨xs,n,_,hx,hl,hlen,hf⟩:=DataW.trod_struct Tryz.underlying28 h
 match xs,hlen with
 | [y0,y1,y2,y3,y4,y5],_=>
    have h5:DataW.trod enc Tryz.prog w base spare held n 26 (((sF.row y).drop 37).take 1)=some y5:=by rw[<-cells1sf];exact hf 5 _ rfl
    have e:((sF.row y).drop 37).take 1= [.slice y.2.1 y.1.B.length y.2.2]:=by
     show((fcells y.1 y.2.1 y.2.2).drop 37).take 1=_
     unfold fcells
     simp only[List.drop_succ_cons]
     rw[List.drop_append_of_le_length (by simp[hy]),List.drop_of_length_le (by simp[hy])]
     simp
    rw[e]at h5
    have h6:=slice_bulk Tryz.underlying26 h5
    have h7:=congrArg Prod.fst hx
    rw[h7]
    have h8:=bulk_mem (l:=[y0.1,y1.1,y2.1,y3.1,y4.1,y5.1]) (x:=y5.1) (by simp)
    simp only[List.map_cons,List.map_nil,Rows.uptoBulk]
    omega
theorem open_facts_n {r:Reach} {b0:Nat} {v:Value} {d:DataW H} {p:List MemPlace}(hv:Value.okWide Tryz.prog w r b0 30 v)(h:DataW.Trod enc Tryz.prog w base spare held 30 v d p):
 ∃(q:Option Addr) (l:List Fac) (len cap:Nat),v= .slice q len cap/\sF.Told w q len cap l/\(l.length<=Rows.uptoBulk d/\∀y∈l,y.B.length<=Rows.uptoBulk d):=by
 obtain⟨a0,len0,cap0,rfl⟩:=okWide_slice Tryz.underlying30 hv
 obtain⟨fuel,hf⟩:=h
 rcases Deep.open_slice Tryz.underlying30 hf with⟨hcs,hx⟩ | ⟨a,len,cap,m,n,D,Pl,hcs,_,hl,hm,hmm,hx,hel⟩
 ·simp[Value.cells]at hcs
  obtain⟨rfl,rfl,rfl⟩:=hcs
  exact⟨none,[],0,0,rfl,Shp.Told.none_ _,by simp,by simp⟩
 ·simp[Value.cells]at hcs
  obtain⟨rfl,rfl,rfl⟩:=hcs
  have hlm:len0<=m:=by rw[hmm];split<;>omega
  have key:∀i,i < len0->∃y:Hd Fac,w.cells? base (a.add (i*38)) 38=some (sF.row y)/\sF.Good w y.1 y.2.1 y.2.2/\y.1.B.length<=Rows.uptoBulk (D i):=by
   intro i hi
   obtain⟨cs',h1,h2⟩:=hel i (by omega)
   rw[cells38]at h1
   obtain⟨y,rfl,hg⟩:=open_fact h2
   exact⟨y,h1,hg,fact_bulk hg.ok.len h2⟩
  have hd:d= .slice ((List.range len0).map D) ((List.range (m - len0)).map fun j=>D (len0+j)):=congrArg Prod.fst hx
  have hB0:∀i,i < len0->Rows.uptoBulk (D i)<=Rows.uptoBulk d:=by
   intro i hi
   rw[hd]
   have:=bulk_mem (l:=(List.range len0).map D) (x:=D i) (List.mem_map.2 ⟨i,List.mem_range.2 hi,rfl⟩)
   simp only[Rows.uptoBulk]
   omega
  have hB1:len0<=Rows.uptoBulk d:=by
   rw[hd]
   have:=bulk_length ((List.range len0).map D)
   simp only[List.length_map,List.length_range]at this
   simp only[Rows.uptoBulk]
   omega
  have:Inhabited (Hd Fac):=⟨(⟨0,0,0,0,0,[],[]⟩,none,0)⟩
  obtain⟨f,hF⟩:=Deep.choose_lt key
  have hgood:∀y∈(List.range len0).map f,sF.Good w y.1 y.2.1 y.2.2:=by
   intro y hy
   obtain⟨i,hi,rfl⟩:=List.mem_map.1 hy
   exact(hF i (List.mem_range.1 hi)).2.1
  refine⟨some a,((List.range len0).map f).map (·.1),len0,cap0,rfl,⟨by simp,hl,by unfold maxLen at hm;omega,(fun h=>by cases h),(List.range len0).map f,rfl,?_,hgood⟩,by simpa using hB1,?_⟩
  ·by_cases h0:len0=0
   ·subst h0;exact At.nil _ _
   ·have h1:=(World.cells?_some (hF 0 (by omega)).1).2.2 0 (by omega)
    have hsp:a.spot=none:=by
     have e:(a.add (0*38)).add 0=a:=by simp[Addr.add]
     rw[e,show(sF.row (f 0))[0]? = some (.int .i64 (f 0).1.K)from fcells_K _ _ _]at h1
     cases hs:a.spot with
     | none=>rfl
     | some s=>
        unfold World.cell? at h1
        split at h1
        ·simp[hs]at h1
        ·cases h1
    obtain⟨b,off,sp⟩:=a
    simp only at hsp
    subst hsp
    refine Or.inr ⟨b,off,rfl,fun j v hj=>?_⟩
    obtain⟨i,r,hi,hr,rfl,hv'⟩:=fflat_inv _ (fun y hy=>(hgood y hy).ok) j v hj
    have h2:=(World.cells?_some (hF i (by simpa using hi)).1).2.2 r hr
    rw[Addr.add_mid,Addr.add_mid,Nat.add_assoc]at h2
    rw[h2]
    simpa using hv'
  ·intro y hy
   obtain⟨z,hz,rfl⟩:=List.mem_map.1 hy
   obtain⟨i,hi,rfl⟩:=List.mem_map.1 hz
   have h1:=(hF i (List.mem_range.1 hi)).2.2
   have h2:=hB0 i (List.mem_range.1 hi)
   omega
end
end
end Go.Proofs.YtokpabkcaofahaaGreat
