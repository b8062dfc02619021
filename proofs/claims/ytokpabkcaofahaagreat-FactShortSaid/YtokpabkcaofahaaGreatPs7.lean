/-
  What stands under factShort_holds: part 7.
-/
import Derived.Test.YtokpabkcaofahaaGreatPs4
import Derived.Deep.DeepCutAuto
import Derived.Deep.CutBlock
import Derived.Test.YtokpabkcaofahaaGreatPs6
import Derived.BigQuiet
import Derived.Deep.RegionHeld3
import Derived.Test.YtokpabkcaofahaaGreatPs3
namespace Go.Proofs.YtokpabkcaofahaaGreat
set_option linter.unusedSimpArgs false
set_option linter.unusedVariables false
set_option maxRecDepth 100000
set_option maxHeartbeats 20000000
section
open Go.RowKit Sha Fct
theorem scells_0 (s:Ste)(h:Hds):(scells s h)[0]? = some (.bool s.born):=by rw[scells_eq];rfl
theorem scells_1 (s:Ste)(h:Hds):(scells s h)[1]? = some (.int .i64 s.boot):=by rw[scells_eq];rfl
theorem scells_2 (s:Ste)(h:Hds):(scells s h)[2]? = some (.slice h.b.1 h.b.2.1 h.b.2.2):=by rw[scells_eq];rfl
theorem scells_3 (s:Ste)(h:Hds):(scells s h)[3]? = some (.slice h.k.1 h.k.2.1 h.k.2.2):=by rw[scells_eq];rfl
theorem scells_4 (s:Ste)(h:Hds):(scells s h)[4]? = some (.slice h.h.1 h.h.2.1 h.h.2.2):=by rw[scells_eq];rfl
theorem scells_5 (s:Ste)(h:Hds):(scells s h)[5]? = some (.slice h.v.1 h.v.2.1 h.v.2.2):=by rw[scells_eq];rfl
theorem scells_6 (s:Ste)(h:Hds):(scells s h)[6]? = some (.slice h.d.1 h.d.2.1 h.d.2.2):=by rw[scells_eq];rfl
structure SS (w0:World)(s t:Ste)(h k:Hds)(g g2:Nat)(w:World):Prop where
 a:Blk w g (scells s h) 47
 b:Blk w g2 (scells t k) 47
 gs:SGood w s h
 gt:SGood w t k
 below:Below w0.heap.size w0 w
theorem SS.on {w0 w w':World} {s t:Ste} {h k:Hds} {g g2:Nat}(x:SS w0 s t h k g g2 w)(hb:Below w.heap.size w w'):SS w0 s t h k g g2 w':=
 ⟨x.a.below hb x.a.lt,x.b.below hb x.b.lt,x.gs.below hb,x.gt.below hb,x.below.trans (hb.mono x.below.size)⟩
def headS (s t:Ste):Prop:=s.born=t.born/\s.boot=t.boot/\s.blobs.length=t.blobs.length/\s.keeps.length=t.keeps.length/\s.hints.length=t.hints.length/\s.votes.length=t.votes.length/\s.decs.length=t.decs.length
instance (s t:Ste):Decidable (headS s t):=by unfold headS;infer_instance
theorem sameState_any (s t:Ste)(h k:Hds)(w:World)(hs:SGood w s h)(ht:SGood w t k):
 Calls Tryz.prog 22 #[.agg (scells s h).toArray,.agg (scells t k).toArray] w fun e w'=>e= .returned (.bool (decide (s=t)))/\Below w.heap.size w w':=by
 have HS:=Lib.hid hs
 have HT:=Lib.hid ht
 clear hs ht
 go_enter Tryz.func22,Tryz.ntmps22
 go_upto_region 1 with(first
  | ((refine wpList_box_new rfl 47 (.tmp 0) rfl _ rfl ?_);(intro w1 g K1 B1 G1);(have HK1:=Lib.hid K1);(have HB1:=Lib.hid B1);clear K1 B1)
  | ((refine wpList_box_new rfl 47 (.tmp 1) rfl _ rfl ?_);(intro w2 g2 K2 B2 G2);(have HSS:=Lib.hid (show SS w s t h k g g2 w2 from⟨HK1.out.below B2 HK1.out.lt,K2,HS.out.below (HB1.out.trans (B2.mono HB1.out.size)),HT.out.below (HB1.out.trans (B2.mono HB1.out.size)),HB1.out.trans (B2.mono HB1.out.size)⟩));clear K2 B2))
 clear HK1 HB1 G1 G2
 go_cut [5] (fun c wx=>c= .bool (decide (headS s t))/\w2=wx)
 case first=>
  as_aux_lemma=>
  have a0:=(HSS.out.a.cell 0).trans (scells_0 s h)
  have b0:=(HSS.out.b.cell 0).trans (scells_0 t k)
  have a1:=(HSS.out.a.cell 1).trans (scells_1 s h)
  have b1:=(HSS.out.b.cell 1).trans (scells_1 t k)
  have a2:=(HSS.out.a.cell 2).trans (scells_2 s h)
  have b2:=(HSS.out.b.cell 2).trans (scells_2 t k)
  have la2:h.b.2.1=s.blobs.length:=HSS.out.gs.b.len
  have lb2:k.b.2.1=t.blobs.length:=HSS.out.gt.b.len
  have a3:=(HSS.out.a.cell 3).trans (scells_3 s h)
  have b3:=(HSS.out.b.cell 3).trans (scells_3 t k)
  have la3:h.k.2.1=s.keeps.length:=HSS.out.gs.k.len
  have lb3:k.k.2.1=t.keeps.length:=HSS.out.gt.k.len
  have a4:=(HSS.out.a.cell 4).trans (scells_4 s h)
  have b4:=(HSS.out.b.cell 4).trans (scells_4 t k)
  have la4:h.h.2.1=s.hints.length:=HSS.out.gs.h.len
  have lb4:k.h.2.1=t.hints.length:=HSS.out.gt.h.len
  have a5:=(HSS.out.a.cell 5).trans (scells_5 s h)
  have b5:=(HSS.out.b.cell 5).trans (scells_5 t k)
  have la5:h.v.2.1=s.votes.length:=HSS.out.gs.v.len
  have lb5:k.v.2.1=t.votes.length:=HSS.out.gt.v.len
  have a6:=(HSS.out.a.cell 6).trans (scells_6 s h)
  have b6:=(HSS.out.b.cell 6).trans (scells_6 t k)
  have la6:h.d.2.1=s.decs.length:=HSS.out.gs.d.len
  have lb6:k.d.2.1=t.decs.length:=HSS.out.gt.d.len
  rw[la2]at a2
  rw[lb2]at b2
  clear la2 lb2
  rw[la3]at a3
  rw[lb3]at b3
  clear la3 lb3
  rw[la4]at a4
  rw[lb4]at b4
  clear la4 lb4
  rw[la5]at a5
  rw[lb5]at b5
  clear la5 lb5
  rw[la6]at a6
  rw[lb6]at b6
  clear la6 lb6
  generalize h.b.1=ap2,h.b.2.2=ac2 at a2
  generalize k.b.1=bp2,k.b.2.2=bc2 at b2
  generalize h.k.1=ap3,h.k.2.2=ac3 at a3
  generalize k.k.1=bp3,k.k.2.2=bc3 at b3
  generalize h.h.1=ap4,h.h.2.2=ac4 at a4
  generalize k.h.1=bp4,k.h.2.2=bc4 at b4
  generalize h.v.1=ap5,h.v.2.2=ac5 at a5
  generalize k.v.1=bp5,k.v.2.2=bc5 at b5
  generalize h.d.1=ap6,h.d.2.2=ac6 at a6
  generalize k.d.1=bp6,k.d.2.2=bc6 at b6
  have HD:Hid (headS s t↔s.born=t.born/\s.boot=t.boot/\s.blobs.length=t.blobs.length/\s.keeps.length=t.keeps.length/\s.hints.length=t.hints.length/\s.votes.length=t.votes.length/\s.decs.length=t.decs.length):=Lib.hid Iff.rfl
  generalize s.born=x0 at a0 HD
  generalize t.born=y0 at b0 HD
  generalize s.boot=x1 at a1 HD
  generalize t.boot=y1 at b1 HD
  generalize s.blobs.length=x2 at a2 HD
  generalize t.blobs.length=y2 at b2 HD
  generalize s.keeps.length=x3 at a3 HD
  generalize t.keeps.length=y3 at b3 HD
  generalize s.hints.length=x4 at a4 HD
  generalize t.hints.length=y4 at b4 HD
  generalize s.votes.length=x5 at a5 HD
  generalize t.votes.length=y5 at b5 HD
  generalize s.decs.length=x6 at a6 HD
  generalize t.decs.length=y6 at b6 HD
  by_cases e0:x0=y0
  ·have t0:(x0 == y0)=true:=by simp[e0]
   have E0:=Lib.hid e0
   clear e0
   by_cases e1:x1=y1
   ·have t1:(x1 == y1)=true:=by simp[e1]
    have E1:=Lib.hid e1
    clear e1
    by_cases e2:x2=y2
    ·have t2:((x2:Int) == (y2:Int))=true:=by simp[e2]
     have E2:=Lib.hid e2
     clear e2
     by_cases e3:x3=y3
     ·have t3:((x3:Int) == (y3:Int))=true:=by simp[e3]
      have E3:=Lib.hid e3
      clear e3
      by_cases e4:x4=y4
      ·have t4:((x4:Int) == (y4:Int))=true:=by simp[e4]
       have E4:=Lib.hid e4
       clear e4
       by_cases e5:x5=y5
       ·have t5:((x5:Int) == (y5:Int))=true:=by simp[e5]
        have E5:=Lib.hid e5
        clear e5
        by_cases e6:x6=y6
        ·have t6:((x6:Int) == (y6:Int))=true:=by simp[e6]
         have E6:=Lib.hid e6
         clear e6
         go_wp2_with fail
         go_meet
         exact⟨congrArg Value.bool (decide_eq_true (HD.out.2 ⟨E0.out,E1.out,E2.out,E3.out,E4.out,E5.out,E6.out⟩)).symm,rfl⟩
        ·have t6:((x6:Int) == (y6:Int))=false:=by simp;omega
         have E6:=Lib.hid e6
         clear e6
         go_wp2_with fail
         go_meet
         exact⟨congrArg Value.bool (decide_eq_false fun hh=>E6.out (HD.out.1 hh).2.2.2.2.2.2).symm,rfl⟩
       ·have t5:((x5:Int) == (y5:Int))=false:=by simp;omega
        have E5:=Lib.hid e5
        clear e5
        go_wp2_with fail
        go_meet
        exact⟨congrArg Value.bool (decide_eq_false fun hh=>E5.out (HD.out.1 hh).2.2.2.2.2.1).symm,rfl⟩
      ·have t4:((x4:Int) == (y4:Int))=false:=by simp;omega
       have E4:=Lib.hid e4
       clear e4
       go_wp2_with fail
       go_meet
       exact⟨congrArg Value.bool (decide_eq_false fun hh=>E4.out (HD.out.1 hh).2.2.2.2.1).symm,rfl⟩
     ·have t3:((x3:Int) == (y3:Int))=false:=by simp;omega
      have E3:=Lib.hid e3
      clear e3
      go_wp2_with fail
      go_meet
      exact⟨congrArg Value.bool (decide_eq_false fun hh=>E3.out (HD.out.1 hh).2.2.2.1).symm,rfl⟩
    ·have t2:((x2:Int) == (y2:Int))=false:=by simp;omega
     have E2:=Lib.hid e2
     clear e2
     go_wp2_with fail
     go_meet
     exact⟨congrArg Value.bool (decide_eq_false fun hh=>E2.out (HD.out.1 hh).2.2.1).symm,rfl⟩
   ·have t1:(x1 == y1)=false:=by simp[e1]
    have E1:=Lib.hid e1
    clear e1
    go_wp2_with fail
    go_meet
    exact⟨congrArg Value.bool (decide_eq_false fun hh=>E1.out (HD.out.1 hh).2.1).symm,rfl⟩
  ·have t0:(x0 == y0)=false:=by simp[e0]
   have E0:=Lib.hid e0
   clear e0
   go_wp2_with fail
   go_meet
   exact⟨congrArg Value.bool (decide_eq_false fun hh=>E0.out (HD.out.1 hh).1).symm,rfl⟩
 case rest=>
  obtain⟨rfl,rfl⟩:=hcut
  go_upto_block 0 with fail
  go_cut [5] (fun c wx=>c= .bool (decide (headS s t/\s.blobs=t.blobs))/\Hid (SS w s t h k g g2 wx))
  case first=>
   as_aux_lemma=>
    obtain⟨n,hn⟩:∃n,n=s.blobs.length:=⟨_,rfl⟩
    have hmx:n<=9223372036854775807:=by have h1:=HSS.out.gs.b.max;have h2:=HSS.out.gs.b.le;have h3:=HSS.out.gs.b.len;omega
    have HN:=Lib.hid hn
    clear hn
    go_wp2_with fail
    go_loopw [5,6] (fun sv i wr=>∃(j:Nat) (sb:Bool),j<=n/\i= .int .i64 j/\sv= .bool sb/\Hid (sb=decide (headS s t/\s.blobs.take j=t.blobs.take j))/\Hid (SS w s t h k g g2 wr)) (fun _ i _=>n - (intOf i).toNat)
    case atStart=>exact⟨0,_,by omega,rfl,rfl,Lib.hid (by simp),HSS⟩
    case round=>
     clear HSS
     obtain⟨j,sb,hj,rfl,rfl,HSB,HSS⟩:=hrel
     have a2:=(HSS.out.a.cell 2).trans (scells_2 s h)
     have b2:=(HSS.out.b.cell 2).trans (scells_2 t k)
     rw[show h.b.2.1=n from by rw[HN.out];exact HSS.out.gs.b.len]at a2
     cases sb with
     | false=>
        have HE:=Lib.hid (show decide (headS s t/\s.blobs=t.blobs)=false from decide_eq_false fun hh=>by have:=of_decide_eq_false HSB.out.symm;exact this ⟨hh.1,by rw[hh.2]⟩)
        go_wp2_with fail
        go_meet
        exact⟨congrArg Value.bool HE.out.symm,HSS⟩
     | true=>
        have HHD:=Lib.hid (of_decide_eq_true HSB.out.symm)
        have hkn:k.b.2.1=n:=by rw[HN.out,HHD.out.1.2.2.1];exact HSS.out.gt.b.len
        rw[hkn]at b2
        clear hkn
        by_cases hlt:j < n
        ·have hkx:j < s.blobs.length:=by rw[<-HN.out];exact hlt
         have hky:j < t.blobs.length:=by rw[<-HHD.out.1.2.2.1];exact hkx
         obtain⟨b,off,q1,c1,hp,hr,hg⟩:=HSS.out.gs.b.rows.get j hkx
         obtain⟨b3,off3,q3,c3,hp3,hr3,hg3⟩:=HSS.out.gt.b.rows.get j hky
         have HT:=Lib.hid (ftake_eq_succ hkx hky HHD.out.2)
         obtain⟨x,hx⟩:∃x,x=s.blobs[j]:=⟨_,rfl⟩
         obtain⟨y,hy⟩:∃y,y=t.blobs[j]:=⟨_,rfl⟩
         rw[<-hx]at hr hg HT
         rw[<-hy]at hr3 hg3 HT
         rw[hp]at a2
         rw[hp3]at b2
         obtain⟨m,hm⟩:∃m,m=x.2.length:=⟨_,rfl⟩
         obtain⟨m3,hm3⟩:∃m,m=y.2.length:=⟨_,rfl⟩
         have a7:wr.cell? ⟨b,off+j*33+32,none⟩=some (.slice q1 m c1):=by rw[hm];exact hr 32 _ (bcells_B hg.ok.1.1 _ _)
         have b7:wr.cell? ⟨b3,off3+j*33+32,none⟩=some (.slice q3 m3 c3):=by rw[hm3];exact hr3 32 _ (bcells_B hg3.ok.1.1 _ _)
         obtain⟨bb,hbb⟩:∃b,b=decide (x.2=y.2):=⟨_,rfl⟩
         have QS:=Lib.hid (show∀nn,Calls Tryz.prog 14 #[.slice q1 m c1,.slice q3 m3 c3] (wr.drewN nn) fun e w'=>e= .returned (.bool bb)/\w'=wr.drewN nn from fun nn=>by
          have h1:=same_any x.2 y.2 m m3 q1 q3 c1 c3 (wr.drewN nn) hm.symm hm3.symm (hg.at_.carry fun _ _ h=>h) (hg3.at_.carry fun _ _ h=>h) hg.ok.2 hg3.ok.2
          rw[<-hbb]at h1
          exact h1.mono fun e w' h=>⟨h.1,h.2.symm⟩)
         have LA:=Lib.hid (fun(w':World) (hw:∃m,w'=wr.drewN m)=>show w'.rangeAt b (off+j*33) (x.1.map v8)from by obtain⟨m,rfl⟩:=hw;exact(rangeAt_sub hr 0 (fun i v hv=>by rw[Nat.zero_add];exact bcells_D x q1 c1 i v hv)))
         have LB:=Lib.hid (fun(w':World) (hw:∃m,w'=wr.drewN m)=>show w'.rangeAt b3 (off3+j*33) (y.1.map v8)from by obtain⟨m,rfl⟩:=hw;exact(rangeAt_sub hr3 0 (fun i v hv=>by rw[Nat.zero_add];exact bcells_D y q3 c3 i v hv)))
         have LX:=Lib.hid hg.ok.1.1
         have LY:=Lib.hid hg3.ok.1.1
         obtain⟨bd,hbd⟩:∃b,b=decide (x.1=y.1):=⟨_,rfl⟩
         have HXY:=Lib.hid (show decide (x=y)=(bd && bb) by rw[hbd,hbb];cases x;cases y;rw[Bool.eq_iff_iff];simp)
         have HBD:=Lib.hid hbd
         clear hr hr3 hg hg3 hx hy hm hm3 hp hp3 hbb hbd hkx hky
         cases bd with
         | true=>
            go_wp2_with fail
            refine wp_region_quiet_lit (by kernel_rfl) (by kernel_rfl) ?_
            repeat(first
             | go_big_quiet_skip
             | (go_big_quiet_want;refine quiet_load_mid 25 _ rfl b (off+j*33) rfl _ _ LA.out Tryz.underlying25 rfl (by rw[id_size,List.length_map,LX.out]) ?_;simp only[Act.put,List.setIfInBounds_toArray,List.set_cons_zero,List.set_cons_succ,List.getElem_toArray,List.getElem_cons_succ,List.getElem_cons_zero];go_big_quiet_on)
             | (go_big_quiet_want;refine quiet_load_mid 25 _ rfl b3 (off3+j*33) rfl _ _ LB.out Tryz.underlying25 rfl (by rw[id_size,List.length_map,LY.out]) ?_;simp only[Act.put,List.setIfInBounds_toArray,List.set_cons_zero,List.set_cons_succ,List.getElem_toArray,List.getElem_cons_succ,List.getElem_cons_zero];go_big_quiet_on)
             | (go_big_quiet_want;refine quiet_eql_arr 25 _ _ _ rfl 5 32 .u8 Tryz.underlying25 Tryz.underlying5 kslice1 x.1 y.1 rfl rfl LX.out LY.out ?_;rw[<-HBD.out];simp only[Act.put,List.setIfInBounds_toArray,List.set_cons_zero,List.set_cons_succ,List.getElem_toArray,List.getElem_cons_succ,List.getElem_cons_zero];go_big_quiet_on)
             | (go_big_quiet_want;go_big_quiet_op;first | go_big_quiet_on | go_big_quiet_call ((go_at_call 14;refine Calls.quiet_of_same (QS.out _)))))
            refine wpQuiet_nil ?_
            intro _ hw'
            obtain⟨nq,hw''⟩:=hw'
            subst hw''
            have HS9:=Lib.hid (HSS.out.on (below_drewN (Below.refl _ _) nq))
            go_wp2_with fail
            go_roundw
            case rel=>exact⟨j+1,bb,by omega,by go_num,rfl,Lib.hid (by
             have h1:=HXY.out
             rw[Bool.true_and]at h1
             rw[<-h1]
             exact decide_eq_decide.2 ⟨fun e=>⟨HHD.out.1,HT.out.2 e⟩,fun e=>HT.out.1 e.2⟩),HS9⟩
            case measure=>simp[intOf];omega
         | false=>
            go_wp2_with fail
            refine wp_region_quiet_lit (by kernel_rfl) (by kernel_rfl) ?_
            repeat(first
             | go_big_quiet_skip
             | (go_big_quiet_want;refine quiet_load_mid 25 _ rfl b (off+j*33) rfl _ _ LA.out Tryz.underlying25 rfl (by rw[id_size,List.length_map,LX.out]) ?_;simp only[Act.put,List.setIfInBounds_toArray,List.set_cons_zero,List.set_cons_succ,List.getElem_toArray,List.getElem_cons_succ,List.getElem_cons_zero];go_big_quiet_on)
             | (go_big_quiet_want;refine quiet_load_mid 25 _ rfl b3 (off3+j*33) rfl _ _ LB.out Tryz.underlying25 rfl (by rw[id_size,List.length_map,LY.out]) ?_;simp only[Act.put,List.setIfInBounds_toArray,List.set_cons_zero,List.set_cons_succ,List.getElem_toArray,List.getElem_cons_succ,List.getElem_cons_zero];go_big_quiet_on)
             | (go_big_quiet_want;refine quiet_eql_arr 25 _ _ _ rfl 5 32 .u8 Tryz.underlying25 Tryz.underlying5 kslice1 x.1 y.1 rfl rfl LX.out LY.out ?_;rw[<-HBD.out];simp only[Act.put,List.setIfInBounds_toArray,List.set_cons_zero,List.set_cons_succ,List.getElem_toArray,List.getElem_cons_succ,List.getElem_cons_zero];go_big_quiet_on)
             | (go_big_quiet_want;go_big_quiet_op;first | go_big_quiet_on | go_big_quiet_call ((go_at_call 14;refine Calls.quiet_of_same (QS.out _)))))
            refine wpQuiet_nil ?_
            intro _ hw'
            obtain⟨nq,hw''⟩:=hw'
            subst hw''
            have HS9:=Lib.hid (HSS.out.on (below_drewN (Below.refl _ _) nq))
            go_wp2_with fail
            go_roundw
            case rel=>exact⟨j+1,false,by omega,by go_num,rfl,Lib.hid (by
             have h1:=HXY.out
             rw[Bool.false_and]at h1
             rw[<-h1]
             exact decide_eq_decide.2 ⟨fun e=>⟨HHD.out.1,HT.out.2 e⟩,fun e=>HT.out.1 e.2⟩),HS9⟩
            case measure=>simp[intOf];omega
        ·obtain rfl:j=n:=by omega
         have HE:=Lib.hid (show decide (headS s t/\s.blobs=t.blobs)=true from decide_eq_true ⟨HHD.out.1,by
          have h1:=HHD.out.2
          rw[List.take_of_length_le (by rw[HN.out];exact Nat.le_refl _),List.take_of_length_le (by rw[<-HHD.out.1.2.2.1,HN.out];exact Nat.le_refl _)]at h1
          exact h1⟩)
         go_wp2_with fail
         go_meet
         exact⟨congrArg Value.bool HE.out.symm,HSS⟩
  case rest=>
   obtain⟨rfl,HSS⟩:=hcut
   go_upto_block 2 with fail
   go_cut [5] (fun c wx=>c= .bool (decide ((headS s t/\s.blobs=t.blobs)/\s.keeps=t.keeps))/\Hid (SS w s t h k g g2 wx))
   case first=>
    as_aux_lemma=>
     obtain⟨n,hn⟩:∃n,n=s.keeps.length:=⟨_,rfl⟩
     have hmx:n<=9223372036854775807:=by have h1:=HSS.out.gs.k.max;have h2:=HSS.out.gs.k.le;have h3:=HSS.out.gs.k.len;omega
     have HN:=Lib.hid hn
     clear hn
     go_wp2_with fail
     go_loopw [5,7] (fun sv i wr=>∃(j:Nat) (sb:Bool),j<=n/\i= .int .i64 j/\sv= .bool sb/\Hid (sb=decide ((headS s t/\s.blobs=t.blobs)/\s.keeps.take j=t.keeps.take j))/\Hid (SS w s t h k g g2 wr)) (fun _ i _=>n - (intOf i).toNat)
     case atStart=>exact⟨0,_,by omega,rfl,rfl,Lib.hid (by simp),HSS⟩
     case round=>
      clear HSS
      obtain⟨j,sb,hj,rfl,rfl,HSB,HSS⟩:=hrel
      have a2:=(HSS.out.a.cell 3).trans (scells_3 s h)
      have b2:=(HSS.out.b.cell 3).trans (scells_3 t k)
      rw[show h.k.2.1=n from by rw[HN.out];exact HSS.out.gs.k.len]at a2
      cases sb with
      | false=>
         have HE:=Lib.hid (show decide ((headS s t/\s.blobs=t.blobs)/\s.keeps=t.keeps)=false from decide_eq_false fun hh=>by have:=of_decide_eq_false HSB.out.symm;exact this ⟨hh.1,by rw[hh.2]⟩)
         go_wp2_with fail
         go_meet
         exact⟨congrArg Value.bool HE.out.symm,HSS⟩
      | true=>
         have HHD:=Lib.hid (of_decide_eq_true HSB.out.symm)
         have hkn:k.k.2.1=n:=by rw[HN.out,HHD.out.1.1.2.2.2.1];exact HSS.out.gt.k.len
         rw[hkn]at b2
         clear hkn
         by_cases hlt:j < n
         ·have hkx:j < s.keeps.length:=by rw[<-HN.out];exact hlt
          have hky:j < t.keeps.length:=by rw[<-HHD.out.1.1.2.2.2.1];exact hkx
          obtain⟨b,off,q1,c1,hp,hr,hg⟩:=HSS.out.gs.k.rows.get j hkx
          obtain⟨b3,off3,q3,c3,hp3,hr3,hg3⟩:=HSS.out.gt.k.rows.get j hky
          have HT:=Lib.hid (ftake_eq_succ hkx hky HHD.out.2)
          obtain⟨x,hx⟩:∃x,x=s.keeps[j]:=⟨_,rfl⟩
          obtain⟨y,hy⟩:∃y,y=t.keeps[j]:=⟨_,rfl⟩
          rw[<-hx]at hr hg HT
          rw[<-hy]at hr3 hg3 HT
          rw[hp]at a2
          rw[hp3]at b2
          have LA:=Lib.hid (fun(w':World) (hw:∃m,w'=wr.drewN m)=>show w'.rangeAt b (off+j*33) (kcells x q1 c1)from by obtain⟨m,rfl⟩:=hw;exact hr)
          have LB:=Lib.hid (fun(w':World) (hw:∃m,w'=wr.drewN m)=>show w'.rangeAt b3 (off3+j*33) (kcells y q3 c3)from by obtain⟨m,rfl⟩:=hw;exact hr3)
          have LX:=Lib.hid hg.ok.2.1
          have LY:=Lib.hid hg3.ok.2.1
          obtain⟨bb,hbb⟩:∃b,b=decide ([x.1] = [y.1]/\x.2=y.2):=⟨_,rfl⟩
          have HXY:=Lib.hid (show decide (x=y)=bb by rw[hbb];cases x;cases y;rw[Bool.eq_iff_iff];simp)
          have HBB:=Lib.hid hbb
          clear hr hr3 hg hg3 hx hy hp hp3 hbb hkx hky
          go_wp2_with fail
          refine wp_region_quiet_lit (by kernel_rfl) (by kernel_rfl) ?_
          repeat(first
           | go_big_quiet_skip
           | (go_big_quiet_want;refine quiet_load_mid 95 _ rfl b (off+j*33) rfl _ _ LA.out Tryz.underlying95 rfl (by rw[keep_size];unfold kcells;simp[LX.out]) ?_;simp only[Act.put,List.setIfInBounds_toArray,List.set_cons_zero,List.set_cons_succ,List.getElem_toArray,List.getElem_cons_succ,List.getElem_cons_zero];go_big_quiet_on)
           | (go_big_quiet_want;refine quiet_load_mid 95 _ rfl b3 (off3+j*33) rfl _ _ LB.out Tryz.underlying95 rfl (by rw[keep_size];unfold kcells;simp[LY.out]) ?_;simp only[Act.put,List.setIfInBounds_toArray,List.set_cons_zero,List.set_cons_succ,List.getElem_toArray,List.getElem_cons_succ,List.getElem_cons_zero];go_big_quiet_on)
           | (go_big_quiet_want;refine quiet_eql_nums 95 3 25 5 _ _ _ rfl 1 keep_under keep_held keep_guard keep_nums Tryz.underlying3 Tryz.underlying25 Tryz.underlying5 kslice1 id_size [x.1] [y.1] x.2 y.2 rfl rfl LX.out LY.out rfl rfl ?_;rw[<-HBB.out];simp only[Act.put,List.setIfInBounds_toArray,List.set_cons_zero,List.set_cons_succ,List.getElem_toArray,List.getElem_cons_succ,List.getElem_cons_zero];go_big_quiet_on)
           | (go_big_quiet_want;go_big_quiet_op;go_big_quiet_on))
          refine wpQuiet_nil ?_
          intro _ hw'
          obtain⟨nq,hw''⟩:=hw'
          subst hw''
          have HS9:=Lib.hid (HSS.out.on (below_drewN (Below.refl _ _) nq))
          go_wp2_with fail
          go_roundw
          case rel=>exact⟨j+1,bb,by omega,by go_num,rfl,Lib.hid (by
           have h1:=HXY.out
           rw[<-h1]
           exact decide_eq_decide.2 ⟨fun e=>⟨HHD.out.1,HT.out.2 e⟩,fun e=>HT.out.1 e.2⟩),HS9⟩
          case measure=>simp[intOf];omega
         ·obtain rfl:j=n:=by omega
          have HE:=Lib.hid (show decide ((headS s t/\s.blobs=t.blobs)/\s.keeps=t.keeps)=true from decide_eq_true ⟨HHD.out.1,by
           have h1:=HHD.out.2
           rw[List.take_of_length_le (by rw[HN.out];exact Nat.le_refl _),List.take_of_length_le (by rw[<-HHD.out.1.1.2.2.2.1,HN.out];exact Nat.le_refl _)]at h1
           exact h1⟩)
          go_wp2_with fail
          go_meet
          exact⟨congrArg Value.bool HE.out.symm,HSS⟩
   case rest=>
    obtain⟨rfl,HSS⟩:=hcut
    go_upto_block 4 with fail
    go_cut [5] (fun c wx=>c= .bool (decide (((headS s t/\s.blobs=t.blobs)/\s.keeps=t.keeps)/\s.hints=t.hints))/\Hid (SS w s t h k g g2 wx))
    case first=>
     as_aux_lemma=>
      obtain⟨n,hn⟩:∃n,n=s.hints.length:=⟨_,rfl⟩
      have hmx:n<=9223372036854775807:=by have h1:=HSS.out.gs.h.max;have h2:=HSS.out.gs.h.le;have h3:=HSS.out.gs.h.len;omega
      have HN:=Lib.hid hn
      clear hn
      go_wp2_with fail
      go_loopw [5,8] (fun sv i wr=>∃(j:Nat) (sb:Bool),j<=n/\i= .int .i64 j/\sv= .bool sb/\Hid (sb=decide (((headS s t/\s.blobs=t.blobs)/\s.keeps=t.keeps)/\s.hints.take j=t.hints.take j))/\Hid (SS w s t h k g g2 wr)) (fun _ i _=>n - (intOf i).toNat)
      case atStart=>exact⟨0,_,by omega,rfl,rfl,Lib.hid (by simp),HSS⟩
      case round=>
       clear HSS
       obtain⟨j,sb,hj,rfl,rfl,HSB,HSS⟩:=hrel
       have a2:=(HSS.out.a.cell 4).trans (scells_4 s h)
       have b2:=(HSS.out.b.cell 4).trans (scells_4 t k)
       rw[show h.h.2.1=n from by rw[HN.out];exact HSS.out.gs.h.len]at a2
       cases sb with
       | false=>
          have HE:=Lib.hid (show decide (((headS s t/\s.blobs=t.blobs)/\s.keeps=t.keeps)/\s.hints=t.hints)=false from decide_eq_false fun hh=>by have:=of_decide_eq_false HSB.out.symm;exact this ⟨hh.1,by rw[hh.2]⟩)
          go_wp2_with fail
          go_meet
          exact⟨congrArg Value.bool HE.out.symm,HSS⟩
       | true=>
          have HHD:=Lib.hid (of_decide_eq_true HSB.out.symm)
          have hkn:k.h.2.1=n:=by rw[HN.out,HHD.out.1.1.1.2.2.2.2.1];exact HSS.out.gt.h.len
          rw[hkn]at b2
          clear hkn
          by_cases hlt:j < n
          ·have hkx:j < s.hints.length:=by rw[<-HN.out];exact hlt
           have hky:j < t.hints.length:=by rw[<-HHD.out.1.1.1.2.2.2.2.1];exact hkx
           obtain⟨b,off,q1,c1,hp,hr,hg⟩:=HSS.out.gs.h.rows.get j hkx
           obtain⟨b3,off3,q3,c3,hp3,hr3,hg3⟩:=HSS.out.gt.h.rows.get j hky
           have HT:=Lib.hid (ftake_eq_succ hkx hky HHD.out.2)
           obtain⟨x,hx⟩:∃x,x=s.hints[j]:=⟨_,rfl⟩
           obtain⟨y,hy⟩:∃y,y=t.hints[j]:=⟨_,rfl⟩
           rw[<-hx]at hr hg HT
           rw[<-hy]at hr3 hg3 HT
           rw[hp]at a2
           rw[hp3]at b2
           have LA:=Lib.hid (fun(w':World) (hw:∃m,w'=wr.drewN m)=>show w'.rangeAt b (off+j*34) (hcells x q1 c1)from by obtain⟨m,rfl⟩:=hw;exact hr)
           have LB:=Lib.hid (fun(w':World) (hw:∃m,w'=wr.drewN m)=>show w'.rangeAt b3 (off3+j*34) (hcells y q3 c3)from by obtain⟨m,rfl⟩:=hw;exact hr3)
           have LX:=Lib.hid hg.ok.2.2.1
           have LY:=Lib.hid hg3.ok.2.2.1
           obtain⟨bb,hbb⟩:∃b,b=decide ([x.1,x.2.1] = [y.1,y.2.1]/\x.2.2=y.2.2):=⟨_,rfl⟩
           have HXY:=Lib.hid (show decide (x=y)=bb by rw[hbb];obtain⟨x1,x2,x3⟩:=x;obtain⟨y1,y2,y3⟩:=y;rw[Bool.eq_iff_iff];simp[and_assoc])
           have HBB:=Lib.hid hbb
           clear hr hr3 hg hg3 hx hy hp hp3 hbb hkx hky
           go_wp2_with fail
           refine wp_region_quiet_lit (by kernel_rfl) (by kernel_rfl) ?_
           repeat(first
            | go_big_quiet_skip
            | (go_big_quiet_want;refine quiet_load_mid 97 _ rfl b (off+j*34) rfl _ _ LA.out Tryz.underlying97 rfl (by rw[hint_size];unfold hcells;simp[LX.out]) ?_;simp only[Act.put,List.setIfInBounds_toArray,List.set_cons_zero,List.set_cons_succ,List.getElem_toArray,List.getElem_cons_succ,List.getElem_cons_zero];go_big_quiet_on)
            | (go_big_quiet_want;refine quiet_load_mid 97 _ rfl b3 (off3+j*34) rfl _ _ LB.out Tryz.underlying97 rfl (by rw[hint_size];unfold hcells;simp[LY.out]) ?_;simp only[Act.put,List.setIfInBounds_toArray,List.set_cons_zero,List.set_cons_succ,List.getElem_toArray,List.getElem_cons_succ,List.getElem_cons_zero];go_big_quiet_on)
            | (go_big_quiet_want;refine quiet_eql_nums 97 3 25 5 _ _ _ rfl 2 hint_under hint_held hint_guard hint_nums Tryz.underlying3 Tryz.underlying25 Tryz.underlying5 kslice1 id_size [x.1,x.2.1] [y.1,y.2.1] x.2.2 y.2.2 rfl rfl LX.out LY.out rfl rfl ?_;rw[<-HBB.out];simp only[Act.put,List.setIfInBounds_toArray,List.set_cons_zero,List.set_cons_succ,List.getElem_toArray,List.getElem_cons_succ,List.getElem_cons_zero];go_big_quiet_on)
            | (go_big_quiet_want;go_big_quiet_op;go_big_quiet_on))
           refine wpQuiet_nil ?_
           intro _ hw'
           obtain⟨nq,hw''⟩:=hw'
           subst hw''
           have HS9:=Lib.hid (HSS.out.on (below_drewN (Below.refl _ _) nq))
           go_wp2_with fail
           go_roundw
           case rel=>exact⟨j+1,bb,by omega,by go_num,rfl,Lib.hid (by
            have h1:=HXY.out
            rw[<-h1]
            exact decide_eq_decide.2 ⟨fun e=>⟨HHD.out.1,HT.out.2 e⟩,fun e=>HT.out.1 e.2⟩),HS9⟩
           case measure=>simp[intOf];omega
          ·obtain rfl:j=n:=by omega
           have HE:=Lib.hid (show decide (((headS s t/\s.blobs=t.blobs)/\s.keeps=t.keeps)/\s.hints=t.hints)=true from decide_eq_true ⟨HHD.out.1,by
            have h1:=HHD.out.2
            rw[List.take_of_length_le (by rw[HN.out];exact Nat.le_refl _),List.take_of_length_le (by rw[<-HHD.out.1.1.1.2.2.2.2.1,HN.out];exact Nat.le_refl _)]at h1
            exact h1⟩)
           go_wp2_with fail
           go_meet
           exact⟨congrArg Value.bool HE.out.symm,HSS⟩
    case rest=>
     obtain⟨rfl,HSS⟩:=hcut
     go_upto_block 6 with fail
     go_cut [5] (fun c wx=>c= .bool (decide ((((headS s t/\s.blobs=t.blobs)/\s.keeps=t.keeps)/\s.hints=t.hints)/\s.votes=t.votes))/\Hid (SS w s t h k g g2 wx))
     case first=>
      as_aux_lemma=>
       obtain⟨n,hn⟩:∃n,n=s.votes.length:=⟨_,rfl⟩
       have hmx:n<=9223372036854775807:=by have h1:=HSS.out.gs.v.max;have h2:=HSS.out.gs.v.le;have h3:=HSS.out.gs.v.len;omega
       have HN:=Lib.hid hn
       clear hn
       go_wp2_with fail
       go_loopw [5,9,10,11] (fun sv i _ _ wr=>∃(j:Nat) (sb:Bool),j<=n/\i= .int .i64 j/\sv= .bool sb/\Hid (sb=decide ((((headS s t/\s.blobs=t.blobs)/\s.keeps=t.keeps)/\s.hints=t.hints)/\s.votes.take j=t.votes.take j))/\Hid (SS w s t h k g g2 wr)) (fun _ i _ _ _=>n - (intOf i).toNat)
       case atStart=>exact⟨0,_,by omega,rfl,rfl,Lib.hid (by simp),HSS⟩
       case round=>
        clear HSS
        obtain⟨j,sb,hj,rfl,rfl,HSB,HSS⟩:=hrel
        have a2:=(HSS.out.a.cell 5).trans (scells_5 s h)
        have b2:=(HSS.out.b.cell 5).trans (scells_5 t k)
        rw[show h.v.2.1=n from by rw[HN.out];exact HSS.out.gs.v.len]at a2
        cases sb with
        | false=>
           have HE:=Lib.hid (show decide ((((headS s t/\s.blobs=t.blobs)/\s.keeps=t.keeps)/\s.hints=t.hints)/\s.votes=t.votes)=false from decide_eq_false fun hh=>by have:=of_decide_eq_false HSB.out.symm;exact this ⟨hh.1,by rw[hh.2]⟩)
           go_wp2_with fail
           go_meet
           exact⟨congrArg Value.bool HE.out.symm,HSS⟩
        | true=>
           have HHD:=Lib.hid (of_decide_eq_true HSB.out.symm)
           have hkn:k.v.2.1=n:=by rw[HN.out,HHD.out.1.1.1.1.2.2.2.2.2.1];exact HSS.out.gt.v.len
           rw[hkn]at b2
           clear hkn
           by_cases hlt:j < n
           ·have hkx:j < s.votes.length:=by rw[<-HN.out];exact hlt
            have hky:j < t.votes.length:=by rw[<-HHD.out.1.1.1.1.2.2.2.2.2.1];exact hkx
            obtain⟨b,off,q1,c1,hp,hr,hg⟩:=HSS.out.gs.v.rows.get j hkx
            obtain⟨b3,off3,q3,c3,hp3,hr3,hg3⟩:=HSS.out.gt.v.rows.get j hky
            have HT:=Lib.hid (ftake_eq_succ hkx hky HHD.out.2)
            obtain⟨x,hx⟩:∃x,x=s.votes[j]:=⟨_,rfl⟩
            obtain⟨y,hy⟩:∃y,y=t.votes[j]:=⟨_,rfl⟩
            rw[<-hx]at hr hg HT
            rw[<-hy]at hr3 hg3 HT
            rw[hp]at a2
            rw[hp3]at b2
            obtain⟨m,hm⟩:∃m,m=x.B.length:=⟨_,rfl⟩
            obtain⟨m3,hm3⟩:∃m,m=y.B.length:=⟨_,rfl⟩
            have p0:wr.cell? ⟨b,off+j*6,none⟩=some (.int .i64 x.S):=hr 0 _ rfl
            have r0:wr.cell? ⟨b3,off3+j*6,none⟩=some (.int .i64 y.S):=hr3 0 _ rfl
            have p1:wr.cell? ⟨b,off+j*6+1,none⟩=some (.int .i64 x.PN):=hr 1 _ rfl
            have r1:wr.cell? ⟨b3,off3+j*6+1,none⟩=some (.int .i64 y.PN):=hr3 1 _ rfl
            have p2:wr.cell? ⟨b,off+j*6+2,none⟩=some (.int .i64 x.PO):=hr 2 _ rfl
            have r2:wr.cell? ⟨b3,off3+j*6+2,none⟩=some (.int .i64 y.PO):=hr3 2 _ rfl
            have p3:wr.cell? ⟨b,off+j*6+3,none⟩=some (.int .i64 x.AN):=hr 3 _ rfl
            have r3:wr.cell? ⟨b3,off3+j*6+3,none⟩=some (.int .i64 y.AN):=hr3 3 _ rfl
            have p4:wr.cell? ⟨b,off+j*6+4,none⟩=some (.int .i64 x.AO):=hr 4 _ rfl
            have r4:wr.cell? ⟨b3,off3+j*6+4,none⟩=some (.int .i64 y.AO):=hr3 4 _ rfl
            have p5:wr.cell? ⟨b,off+j*6+5,none⟩=some (.slice q1 m c1):=by rw[hm];exact hr 5 _ rfl
            have r5:wr.cell? ⟨b3,off3+j*6+5,none⟩=some (.slice q3 m3 c3):=by rw[hm3];exact hr3 5 _ rfl
            have HG:=Lib.hid hg
            have HG3:=Lib.hid hg3
            have HM:=Lib.hid hm
            have HM3:=Lib.hid hm3
            obtain⟨bb,hbb⟩:∃b,b=decide (x.B=y.B):=⟨_,rfl⟩
            have HBB:=Lib.hid hbb
            have HXY:=Lib.hid (show decide (x=y)=(decide (x.S=y.S) && (decide (x.PN=y.PN) && decide (x.PO=y.PO)) && (decide (x.AN=y.AN) && decide (x.AO=y.AO)) && bb) by rw[hbb];cases x;cases y;rw[Bool.eq_iff_iff];simp[and_assoc])
            clear hr hr3 hg hg3 hx hy hm hm3 hp hp3 hkx hky hbb
            go_wp2_with fail
            go_region_held3 (fun w'=>w'.cell? ⟨g,5,none⟩=some (.slice (some ⟨b,off,none⟩) n h.v.2.2)/\w'.cell? ⟨g2,5,none⟩=some (.slice (some ⟨b3,off3,none⟩) n k.v.2.2)/\w'.cell? ⟨b,off+j*6,none⟩=some (.int .i64 x.S)/\w'.cell? ⟨b3,off3+j*6,none⟩=some (.int .i64 y.S)/\w'.cell? ⟨b,off+j*6+1,none⟩=some (.int .i64 x.PN)/\w'.cell? ⟨b3,off3+j*6+1,none⟩=some (.int .i64 y.PN)/\w'.cell? ⟨b,off+j*6+2,none⟩=some (.int .i64 x.PO)/\w'.cell? ⟨b3,off3+j*6+2,none⟩=some (.int .i64 y.PO)/\w'.cell? ⟨b,off+j*6+3,none⟩=some (.int .i64 x.AN)/\w'.cell? ⟨b3,off3+j*6+3,none⟩=some (.int .i64 y.AN)/\w'.cell? ⟨b,off+j*6+4,none⟩=some (.int .i64 x.AO)/\w'.cell? ⟨b3,off3+j*6+4,none⟩=some (.int .i64 y.AO)/\w'.cell? ⟨b,off+j*6+5,none⟩=some (.slice q1 m c1)/\w'.cell? ⟨b3,off3+j*6+5,none⟩=some (.slice q3 m3 c3)) (go_keep) (fail)
            all_goals
             by_cases eS:x.S=y.S
             ·have tS:(x.S == y.S)=true:=by rw[beq_iff_eq];exact eS
              have ES:=Lib.hid (show decide (x.S=y.S)=true from decide_eq_true eS)
              clear eS
              by_cases ePN:x.PN=y.PN
              ·have tPN:(x.PN == y.PN)=true:=by rw[beq_iff_eq];exact ePN
               have EPN:=Lib.hid (show decide (x.PN=y.PN)=true from decide_eq_true ePN)
               clear ePN
               by_cases ePO:x.PO=y.PO
               ·have tPO:(x.PO == y.PO)=true:=by rw[beq_iff_eq];exact ePO
                have EPO:=Lib.hid (show decide (x.PO=y.PO)=true from decide_eq_true ePO)
                clear ePO
                by_cases eAN:x.AN=y.AN
                ·have tAN:(x.AN == y.AN)=true:=by rw[beq_iff_eq];exact eAN
                 have EAN:=Lib.hid (show decide (x.AN=y.AN)=true from decide_eq_true eAN)
                 clear eAN
                 by_cases eAO:x.AO=y.AO
                 ·have tAO:(x.AO == y.AO)=true:=by rw[beq_iff_eq];exact eAO
                  have EAO:=Lib.hid (show decide (x.AO=y.AO)=true from decide_eq_true eAO)
                  clear eAO
                  go_wp2_with (first | (go_at_call 14;refine(same_any x.B y.B m m3 q1 q3 c1 c3 _ HM.out.symm HM3.out.symm (((HG.out.at_.alloc _).alloc _).drew) (((HG3.out.at_.alloc _).alloc _).drew) HG.out.ok.B HG3.out.ok.B).mono ?_;rw[<-HBB.out];rintro e w' ⟨rfl,rfl⟩))
                  go_roundw
                  case rel=>exact⟨j+1,bb,by omega,by go_num,rfl,Lib.hid (by
                   have h1:=HXY.out
                   rw[ES.out,EPN.out,EPO.out,EAN.out,EAO.out]at h1;simp only[Bool.true_and,Bool.and_self]at h1
                   rw[<-h1]
                   exact decide_eq_decide.2 ⟨fun e=>⟨HHD.out.1,HT.out.2 e⟩,fun e=>HT.out.1 e.2⟩),Lib.hid (HSS.out.on ((((Below.refl _ _).alloc (Nat.le_refl _) _).alloc (by simp) _).drew))⟩
                  case measure=>simp[intOf];omega
                 ·have tAO:(x.AO == y.AO)=false:=by rw[beq_eq_false_iff_ne];exact eAO
                  have EAO:=Lib.hid (show decide (x.AO=y.AO)=false from decide_eq_false eAO)
                  clear eAO
                  go_wp2_with (first | (go_at_call 14;refine(same_any x.B y.B m m3 q1 q3 c1 c3 _ HM.out.symm HM3.out.symm (((HG.out.at_.alloc _).alloc _).drew) (((HG3.out.at_.alloc _).alloc _).drew) HG.out.ok.B HG3.out.ok.B).mono ?_;rw[<-HBB.out];rintro e w' ⟨rfl,rfl⟩))
                  go_roundw
                  case rel=>exact⟨j+1,false,by omega,by go_num,rfl,Lib.hid (by
                   have h1:=HXY.out
                   rw[EAO.out]at h1;simp only[Bool.false_and,Bool.and_false]at h1
                   rw[<-h1]
                   exact decide_eq_decide.2 ⟨fun e=>⟨HHD.out.1,HT.out.2 e⟩,fun e=>HT.out.1 e.2⟩),Lib.hid (HSS.out.on ((((Below.refl _ _).alloc (Nat.le_refl _) _).alloc (by simp) _).drew))⟩
                  case measure=>simp[intOf];omega
                ·have tAN:(x.AN == y.AN)=false:=by rw[beq_eq_false_iff_ne];exact eAN
                 have EAN:=Lib.hid (show decide (x.AN=y.AN)=false from decide_eq_false eAN)
                 clear eAN
                 go_wp2_with (first | (go_at_call 14;refine(same_any x.B y.B m m3 q1 q3 c1 c3 _ HM.out.symm HM3.out.symm (((HG.out.at_.alloc _).alloc _).drew) (((HG3.out.at_.alloc _).alloc _).drew) HG.out.ok.B HG3.out.ok.B).mono ?_;rw[<-HBB.out];rintro e w' ⟨rfl,rfl⟩))
                 go_roundw
                 case rel=>exact⟨j+1,false,by omega,by go_num,rfl,Lib.hid (by
                  have h1:=HXY.out
                  rw[EAN.out]at h1;simp only[Bool.false_and,Bool.and_false]at h1
                  rw[<-h1]
                  exact decide_eq_decide.2 ⟨fun e=>⟨HHD.out.1,HT.out.2 e⟩,fun e=>HT.out.1 e.2⟩),Lib.hid (HSS.out.on ((((Below.refl _ _).alloc (Nat.le_refl _) _).alloc (by simp) _).drew))⟩
                 case measure=>simp[intOf];omega
               ·have tPO:(x.PO == y.PO)=false:=by rw[beq_eq_false_iff_ne];exact ePO
                have EPO:=Lib.hid (show decide (x.PO=y.PO)=false from decide_eq_false ePO)
                clear ePO
                go_wp2_with (first | (go_at_call 14;refine(same_any x.B y.B m m3 q1 q3 c1 c3 _ HM.out.symm HM3.out.symm (((HG.out.at_.alloc _).alloc _).drew) (((HG3.out.at_.alloc _).alloc _).drew) HG.out.ok.B HG3.out.ok.B).mono ?_;rw[<-HBB.out];rintro e w' ⟨rfl,rfl⟩))
                go_roundw
                case rel=>exact⟨j+1,false,by omega,by go_num,rfl,Lib.hid (by
                 have h1:=HXY.out
                 rw[EPO.out]at h1;simp only[Bool.false_and,Bool.and_false]at h1
                 rw[<-h1]
                 exact decide_eq_decide.2 ⟨fun e=>⟨HHD.out.1,HT.out.2 e⟩,fun e=>HT.out.1 e.2⟩),Lib.hid (HSS.out.on ((((Below.refl _ _).alloc (Nat.le_refl _) _).alloc (by simp) _).drew))⟩
                case measure=>simp[intOf];omega
              ·have tPN:(x.PN == y.PN)=false:=by rw[beq_eq_false_iff_ne];exact ePN
               have EPN:=Lib.hid (show decide (x.PN=y.PN)=false from decide_eq_false ePN)
               clear ePN
               go_wp2_with (first | (go_at_call 14;refine(same_any x.B y.B m m3 q1 q3 c1 c3 _ HM.out.symm HM3.out.symm (((HG.out.at_.alloc _).alloc _).drew) (((HG3.out.at_.alloc _).alloc _).drew) HG.out.ok.B HG3.out.ok.B).mono ?_;rw[<-HBB.out];rintro e w' ⟨rfl,rfl⟩))
               go_roundw
               case rel=>exact⟨j+1,false,by omega,by go_num,rfl,Lib.hid (by
                have h1:=HXY.out
                rw[EPN.out]at h1;simp only[Bool.false_and,Bool.and_false]at h1
                rw[<-h1]
                exact decide_eq_decide.2 ⟨fun e=>⟨HHD.out.1,HT.out.2 e⟩,fun e=>HT.out.1 e.2⟩),Lib.hid (HSS.out.on ((((Below.refl _ _).alloc (Nat.le_refl _) _).alloc (by simp) _).drew))⟩
               case measure=>simp[intOf];omega
             ·have tS:(x.S == y.S)=false:=by rw[beq_eq_false_iff_ne];exact eS
              have ES:=Lib.hid (show decide (x.S=y.S)=false from decide_eq_false eS)
              clear eS
              go_wp2_with (first | (go_at_call 14;refine(same_any x.B y.B m m3 q1 q3 c1 c3 _ HM.out.symm HM3.out.symm (((HG.out.at_.alloc _).alloc _).drew) (((HG3.out.at_.alloc _).alloc _).drew) HG.out.ok.B HG3.out.ok.B).mono ?_;rw[<-HBB.out];rintro e w' ⟨rfl,rfl⟩))
              go_roundw
              case rel=>exact⟨j+1,false,by omega,by go_num,rfl,Lib.hid (by
               have h1:=HXY.out
               rw[ES.out]at h1;simp only[Bool.false_and,Bool.and_false]at h1
               rw[<-h1]
               exact decide_eq_decide.2 ⟨fun e=>⟨HHD.out.1,HT.out.2 e⟩,fun e=>HT.out.1 e.2⟩),Lib.hid (HSS.out.on ((((Below.refl _ _).alloc (Nat.le_refl _) _).alloc (by simp) _).drew))⟩
              case measure=>simp[intOf];omega
           ·obtain rfl:j=n:=by omega
            have HE:=Lib.hid (show decide ((((headS s t/\s.blobs=t.blobs)/\s.keeps=t.keeps)/\s.hints=t.hints)/\s.votes=t.votes)=true from decide_eq_true ⟨HHD.out.1,by
             have h1:=HHD.out.2
             rw[List.take_of_length_le (by rw[HN.out];exact Nat.le_refl _),List.take_of_length_le (by rw[<-HHD.out.1.1.1.1.2.2.2.2.2.1,HN.out];exact Nat.le_refl _)]at h1
             exact h1⟩)
            go_wp2_with fail
            go_meet
            exact⟨congrArg Value.bool HE.out.symm,HSS⟩
     case rest=>
      obtain⟨rfl,HSS⟩:=hcut
      go_upto_block 8 with fail
      go_cut [5] (fun c wx=>c= .bool (decide (((((headS s t/\s.blobs=t.blobs)/\s.keeps=t.keeps)/\s.hints=t.hints)/\s.votes=t.votes)/\s.decs=t.decs))/\Hid (SS w s t h k g g2 wx))
      case first=>
       as_aux_lemma=>
        obtain⟨n,hn⟩:∃n,n=s.decs.length:=⟨_,rfl⟩
        have hmx:n<=9223372036854775807:=by have h1:=HSS.out.gs.d.max;have h2:=HSS.out.gs.d.le;have h3:=HSS.out.gs.d.len;omega
        have HN:=Lib.hid hn
        clear hn
        go_wp2_with fail
        go_loopw [5,12] (fun sv i wr=>∃(j:Nat) (sb:Bool),j<=n/\i= .int .i64 j/\sv= .bool sb/\Hid (sb=decide (((((headS s t/\s.blobs=t.blobs)/\s.keeps=t.keeps)/\s.hints=t.hints)/\s.votes=t.votes)/\s.decs.take j=t.decs.take j))/\Hid (SS w s t h k g g2 wr)) (fun _ i _=>n - (intOf i).toNat)
        case atStart=>exact⟨0,_,by omega,rfl,rfl,Lib.hid (by simp),HSS⟩
        case round=>
         clear HSS
         obtain⟨j,sb,hj,rfl,rfl,HSB,HSS⟩:=hrel
         have a2:=(HSS.out.a.cell 6).trans (scells_6 s h)
         have b2:=(HSS.out.b.cell 6).trans (scells_6 t k)
         rw[show h.d.2.1=n from by rw[HN.out];exact HSS.out.gs.d.len]at a2
         cases sb with
         | false=>
            have HE:=Lib.hid (show decide (((((headS s t/\s.blobs=t.blobs)/\s.keeps=t.keeps)/\s.hints=t.hints)/\s.votes=t.votes)/\s.decs=t.decs)=false from decide_eq_false fun hh=>by have:=of_decide_eq_false HSB.out.symm;exact this ⟨hh.1,by rw[hh.2]⟩)
            go_wp2_with fail
            go_meet
            exact⟨congrArg Value.bool HE.out.symm,HSS⟩
         | true=>
            have HHD:=Lib.hid (of_decide_eq_true HSB.out.symm)
            have hkn:k.d.2.1=n:=by rw[HN.out,HHD.out.1.1.1.1.1.2.2.2.2.2.2];exact HSS.out.gt.d.len
            rw[hkn]at b2
            clear hkn
            by_cases hlt:j < n
            ·have hkx:j < s.decs.length:=by rw[<-HN.out];exact hlt
             have hky:j < t.decs.length:=by rw[<-HHD.out.1.1.1.1.1.2.2.2.2.2.2];exact hkx
             obtain⟨b,off,q1,c1,hp,hr,hg⟩:=HSS.out.gs.d.rows.get j hkx
             obtain⟨b3,off3,q3,c3,hp3,hr3,hg3⟩:=HSS.out.gt.d.rows.get j hky
             have HT:=Lib.hid (ftake_eq_succ hkx hky HHD.out.2)
             obtain⟨x,hx⟩:∃x,x=s.decs[j]:=⟨_,rfl⟩
             obtain⟨y,hy⟩:∃y,y=t.decs[j]:=⟨_,rfl⟩
             rw[<-hx]at hr hg HT
             rw[<-hy]at hr3 hg3 HT
             rw[hp]at a2
             rw[hp3]at b2
             obtain⟨m,hm⟩:∃m,m=x.2.length:=⟨_,rfl⟩
             obtain⟨m3,hm3⟩:∃m,m=y.2.length:=⟨_,rfl⟩
             have a7:wr.cell? ⟨b,off+j*2+1,none⟩=some (.slice q1 m c1):=by rw[hm];exact hr 1 _ rfl
             have b7:wr.cell? ⟨b3,off3+j*2+1,none⟩=some (.slice q3 m3 c3):=by rw[hm3];exact hr3 1 _ rfl
             obtain⟨bb,hbb⟩:∃b,b=decide (x.2=y.2):=⟨_,rfl⟩
             have QS:=Lib.hid (show∀nn,Calls Tryz.prog 14 #[.slice q1 m c1,.slice q3 m3 c3] (wr.drewN nn) fun e w'=>e= .returned (.bool bb)/\w'=wr.drewN nn from fun nn=>by
              have h1:=same_any x.2 y.2 m m3 q1 q3 c1 c3 (wr.drewN nn) hm.symm hm3.symm (hg.at_.carry fun _ _ h=>h) (hg3.at_.carry fun _ _ h=>h) hg.ok.2 hg3.ok.2
              rw[<-hbb]at h1
              exact h1.mono fun e w' h=>⟨h.1,h.2.symm⟩)
             have a8:wr.cell? ⟨b,off+j*2,none⟩=some (.int .i64 x.1):=hr 0 _ rfl
             have b8:wr.cell? ⟨b3,off3+j*2,none⟩=some (.int .i64 y.1):=hr3 0 _ rfl
             have HXY:=Lib.hid (show decide (x=y)=(decide (x.1=y.1) && bb) by rw[hbb];cases x;cases y;rw[Bool.eq_iff_iff];simp)
             clear hr hr3 hg hg3 hx hy hm hm3 hp hp3 hbb hkx hky
             by_cases hxy:x.1=y.1
             ·have t1:(x.1 == y.1)=true:=by rw[beq_iff_eq];exact hxy
              have HX1:=Lib.hid (decide_eq_true hxy)
              clear hxy
              go_wp2_with fail
              refine wp_region_quiet_lit (by kernel_rfl) (by kernel_rfl) ?_
              repeat(first
               | go_big_quiet_skip
               | (go_big_quiet_want;go_big_quiet_op;first | go_big_quiet_on | go_big_quiet_call ((go_at_call 14;refine Calls.quiet_of_same (QS.out _)))))
              refine wpQuiet_nil ?_
              intro _ hw'
              obtain⟨nq,hw''⟩:=hw'
              subst hw''
              have HS9:=Lib.hid (HSS.out.on (below_drewN (Below.refl _ _) nq))
              go_wp2_with fail
              go_roundw
              case rel=>exact⟨j+1,bb,by omega,by go_num,rfl,Lib.hid (by
               have h1:=HXY.out
               rw[HX1.out,Bool.true_and]at h1
               rw[<-h1]
               exact decide_eq_decide.2 ⟨fun e=>⟨HHD.out.1,HT.out.2 e⟩,fun e=>HT.out.1 e.2⟩),HS9⟩
              case measure=>simp[intOf];omega
             ·have t1:(x.1 == y.1)=false:=by rw[beq_eq_false_iff_ne];exact hxy
              have HX1:=Lib.hid (decide_eq_false hxy)
              clear hxy
              go_wp2_with fail
              refine wp_region_quiet_lit (by kernel_rfl) (by kernel_rfl) ?_
              repeat(first
               | go_big_quiet_skip
               | (go_big_quiet_want;go_big_quiet_op;first | go_big_quiet_on | go_big_quiet_call ((go_at_call 14;refine Calls.quiet_of_same (QS.out _)))))
              refine wpQuiet_nil ?_
              intro _ hw'
              obtain⟨nq,hw''⟩:=hw'
              subst hw''
              have HS9:=Lib.hid (HSS.out.on (below_drewN (Below.refl _ _) nq))
              go_wp2_with fail
              go_roundw
              case rel=>exact⟨j+1,false,by omega,by go_num,rfl,Lib.hid (by
               have h1:=HXY.out
               rw[HX1.out,Bool.false_and]at h1
               rw[<-h1]
               exact decide_eq_decide.2 ⟨fun e=>⟨HHD.out.1,HT.out.2 e⟩,fun e=>HT.out.1 e.2⟩),HS9⟩
              case measure=>simp[intOf];omega
            ·obtain rfl:j=n:=by omega
             have HE:=Lib.hid (show decide (((((headS s t/\s.blobs=t.blobs)/\s.keeps=t.keeps)/\s.hints=t.hints)/\s.votes=t.votes)/\s.decs=t.decs)=true from decide_eq_true ⟨HHD.out.1,by
              have h1:=HHD.out.2
              rw[List.take_of_length_le (by rw[HN.out];exact Nat.le_refl _),List.take_of_length_le (by rw[<-HHD.out.1.1.1.1.1.2.2.2.2.2.2,HN.out];exact Nat.le_refl _)]at h1
              exact h1⟩)
             go_wp2_with fail
             go_meet
             exact⟨congrArg Value.bool HE.out.symm,HSS⟩
      case rest=>
       obtain⟨rfl,HSS⟩:=hcut
       go_wp2_with fail
       go_ret
       refine⟨congrArg (fun b=>Ending.returned (Value.bool b)) (decide_eq_decide.2 ⟨fun hh=>?_,fun hh=>?_⟩),HSS.out.below⟩
       ·obtain⟨⟨⟨⟨⟨h0,h1⟩,h2⟩,h3⟩,h4⟩,h5⟩:=hh
        cases s;cases t
        simp_all[headS]
       ·subst hh
        exact⟨⟨⟨⟨⟨⟨rfl,rfl,rfl,rfl,rfl,rfl,rfl⟩,rfl⟩,rfl⟩,rfl⟩,rfl⟩,rfl⟩
end
section
open Go.RowKit Sha Fct
def SApart (w:World)(s:Ste)(h:Hds)(G:Nat->Prop):Prop:=∀W',w.heap.size<=W'.heap.size->(∀k,k < w.heap.size->¬G k->W'.heap[k]? = w.heap[k]?)->SGood W' s h
def FApart (w:World)(x:Fac)(q:Option Addr)(c:Nat)(G:Nat->Prop):Prop:=∀W',w.heap.size<=W'.heap.size->(∀k,k < w.heap.size->¬G k->W'.heap[k]? = w.heap[k]?)->sF.Good W' x q c
structure FactsBytes:Prop where
 check:∀(x:Fac) q c w,sF.Good w x q c->x.B.length<=dataMost->Calls Tryz.prog 15 #[.agg (fcells x q c).toArray] w fun e w'=>e= .returned (.int .i64 (Fct.check x))/\Below w.heap.size w w'
 put:∀(x:Fac) q c w,sF.Good w x q c->x.B.length<=dataMost->Calls Tryz.prog 12 #[.agg (fcells x q c).toArray] w (FPut w (Fct.put x))
 get:∀(b:List Int) p n c w,b.length=n->(∀m∈b,0<=m/\m<=255)->At w p (b.map v8)->n<=c->c<=9223372036854775807->(p=none->c=0)->n<=1000000->Calls Tryz.prog 37 #[.slice p n c] w (FGet w (Fct.get b))
structure FactsFold:Prop extends FactsBytes where
 fold:∀(l:List Fac) p n c w,sF.Told w p n c l->l.length<=4*listMost->(∀x∈l,x.B.length<=dataMost)->Calls Tryz.prog 20 #[.slice p n c] w (FSte w (Fct.fold l))
end
section
open Go.RowKit Sha Fct
attribute [local go_sem ↓] execOp_allocFact execOp_allocSte execOp_storeFact execOp_storeSte execOp_boxFact execOp_boxSte execOp_loadSte execOp_makeFact execOp_makeSte execOp_buildFacts execOp_loadFact
theorem fact_all2:(Tryz.prog.info? 28).map (fun i=>(i.zero,i.size))=some (some (.agg (fcells fz none 0).toArray),38):=by unfold fcells;kernel_rfl
theorem build_facts (w:World)(ys:List (Hd Fac))(hok:∀y∈ys,y.1.D.length=32)(hl:ys.length<=100):
 (buildOp 30 (ys.map sF.row).length ((ys.map sF.row).zipIdx.map fun c=>(c.2,Value.agg c.1.toArray)).toArray).run Tryz.prog w= .ok (.value (.slice (some ⟨w.heap.size,0,none⟩) (ys.map sF.row).length (ys.map sF.row).length)) (w.alloc (.cells (ys.map sF.row).flatten.toArray 28)):=
 run_buildOp (run_build_items (P:=Tryz.prog) w 30 28 38 _ (by omega) Tryz.underlying30 fact_all2 (ys.map sF.row) (by intro c hc;obtain⟨y,hy,rfl⟩:=List.mem_map.1 hc;exact fcells_length (hok y hy) _ _) (by rw[List.length_map];omega))
theorem told_facts (w:World)(ys:List (Hd Fac))(h:∀y∈ys,sF.Good w y.1 y.2.1 y.2.2)(hl:ys.length<=100):sF.Told (w.alloc (.cells (ys.map sF.row).flatten.toArray 28)) (some ⟨w.heap.size,0,none⟩) ys.length ys.length (ys.map (·.1)):=by
 refine⟨by rw[List.length_map],Nat.le_refl _,by omega,(fun h=>by cases h),ys,rfl,?_,fun y hy=>(h y hy).below ((Below.refl _ w).alloc (Nat.le_refl _) _)⟩
 rw[<-List.flatMap_def]
 exact at_made w _ _
theorem counts_any (F:FactsFold)(X Y Z:Int)(x y z:Nat)(l:List Fac)(p:Option Addr)(n c:Nat)(w:World)(h:sF.Told w p n c l)(hn:n<=1000)(hB:∀x∈l,x.B.length<=dataMost)(he:cnt l x y z)(hX:X=x)(hY:Y=y)(hZ:Z=z):
 Calls Tryz.prog 31 #[.int .i64 X,.int .i64 Y,.int .i64 Z,.slice p n c] w fun e w'=>e= .returned (.bool true)/\Below w.heap.size w w':=by
 subst hX hY hZ
 have hlen:=h.len
 have HF:=Lib.hid (F.fold l p n c w h (by have:listMost=2000000:=rfl;omega) hB)
 obtain⟨⟨t,er⟩,ht⟩:∃r,r=Fct.fold l:=⟨_,rfl⟩
 obtain⟨h0,h1,h2,h3⟩:=he
 rw[<-ht]at HF h0 h1 h2 h3
 simp only at h0 h1 h2 h3
 subst h0 h1 h2 h3
 unfold FSte at HF
 have al:=fun w=>alloc_ste w
 have st:=fun w h=>store_ste1 w t h
 clear h hB ht hlen
 go_enter Tryz.func31,Tryz.ntmps31
 go_wp2_with fail
 refine HF.out.mono ?_
 rintro e w1 ⟨hd,rfl,hg,hb⟩
 have l1:=hg.b.len
 have l2:=hg.k.len
 have l3:=hg.h.len
 have HB:=Lib.hid hb
 have HK:=Lib.hid (Blk.new w1 (scells t hd).toArray 47)
 have c2:(w1.alloc (.cells (scells t hd).toArray 47)).cell? ⟨w1.heap.size,2,none⟩=some (.slice hd.b.1 t.blobs.length hd.b.2.2):=by rw[<-l1];exact(HK.out.cell 2).trans (scells_2 t hd)
 have c3:(w1.alloc (.cells (scells t hd).toArray 47)).cell? ⟨w1.heap.size,3,none⟩=some (.slice hd.k.1 t.keeps.length hd.k.2.2):=by rw[<-l2];exact(HK.out.cell 3).trans (scells_3 t hd)
 have c4:(w1.alloc (.cells (scells t hd).toArray 47)).cell? ⟨w1.heap.size,4,none⟩=some (.slice hd.h.1 t.hints.length hd.h.2.2):=by rw[<-l3];exact(HK.out.cell 4).trans (scells_4 t hd)
 clear hg hb HF l1 l2 l3
 go_wp2_with fail
 go_ret
 exact⟨rfl,HB.out.trans (((Below.refl _ w1).alloc (Nat.le_refl _) _).mono HB.out.size)⟩
theorem drop_good {w:World}(s:Int)(h:fit s:=by exact fit_small (by omega)):sF.Good w (eDrop s) none 0:=
 ⟨fact_ok0 (fit_small (by omega)) h (fit_small (by omega)) (fit_small (by omega)) (fit_small (by omega)) zlen zero8 (by simp),At.nil _ _,by simp[sF],by omega,fun _=>rfl⟩
theorem awake_any (F:FactsFold)(w:World):Calls Tryz.prog 10 #[] w fun e w'=>e= .returned (.bool true)/\Below w.heap.size w w':=by
 have al:=fun w=>alloc_fact w
 have HP:=Lib.hid e_put
 have HGT:=Lib.hid e_get
 go_enter Tryz.func10,Tryz.ntmps10
 go_wp2_with fail
 refine(fvote_any 7 5 2 [] none 0 0 w (fit_small (by omega)) (fit_small (by omega)) (fit_small (by omega)) rfl (by simp) (At.nil _ _) (by omega) (by omega) (fun _=>rfl)).mono ?_
 rintro e w1 ⟨q,d,rfl,hg,hb⟩
 have B1:=Lib.hid hb
 have G1:=Lib.hid hg
 clear hb hg
 go_wp2_with fail
 refine(F.put _ q d w1 G1.out (by simp)).mono ?_
 rintro e w2 ⟨v,he,ho,hb⟩
 rw[HP.out]at he ho
 subst he
 obtain⟨p2,c2,rfl,hl2,hm2,hA2,_,hn2⟩:=own_at ho.row
 have A2:=Lib.hid hA2
 have B2:=Lib.hid (B1.out.trans (hb.mono B1.out.size))
 clear ho hb hA2 hn2 hl2 hm2 B1 G1
 go_wp2_with fail
 refine(F.get [1] _ 1 1 _ rfl (by simp) (at_made w2 [.int .u8 1] 5) (by omega) (by omega) (fun h=>by cases h) (by omega)).mono ?_
 rintro e w4 ⟨q4,d4,he,hg4,hb4⟩
 rw[HGT.out]at he hg4
 subst he
 have hb24:Below w2.heap.size w2 w4:=((Below.refl w2.heap.size w2).alloc (Nat.le_refl _) _).trans (hb4.mono (by simp))
 have A4:=Lib.hid (A2.out.below hb24)
 have B4:=Lib.hid (B2.out.trans (hb24.mono B2.out.size))
 have st:=fun o=>store_fact2 w4 o (x:=⟨1,0,0,0,0,Fld.zero32,[]⟩) (q:=q4) (c:=d4) zlen
 clear hg4 hb4 hb24 B2 A2
 go_wp2_with fail
 have K4:=Lib.hid (Blk.new w4 (fcells ⟨1,0,0,0,0,Fld.zero32,[]⟩ q4 d4).toArray 28)
 obtain⟨w5,hw5⟩:∃x,x=(((w4.alloc (Obj.cells (fcells ⟨1,0,0,0,0,Fld.zero32,[]⟩ q4 d4).toArray 28)).alloc (Obj.cells #[Value.int .i64 0,Value.int .i64 0] 64)).alloc (Obj.cells #[Value.int .u8 7,Value.int .u8 3,Value.int .u8 5,Value.int .u8 2] 5)):=⟨_,rfl⟩
 have hz1:(w4.alloc (Obj.cells (fcells ⟨1,0,0,0,0,Fld.zero32,[]⟩ q4 d4).toArray 28)).heap.size=w4.heap.size+1:=World.size_alloc ..
 have hz2:((w4.alloc (Obj.cells (fcells ⟨1,0,0,0,0,Fld.zero32,[]⟩ q4 d4).toArray 28)).alloc (Obj.cells #[Value.int .i64 0,Value.int .i64 0] 64)).heap.size=w4.heap.size+1+1:=by rw[World.size_alloc,hz1]
 have cK:w5.cell? ⟨w4.heap.size,0,none⟩=some (.int .i64 1):=by rw[hw5];exact(((K4.out.old _).old _).cell 0).trans (fcells_K _ _ _)
 have cE:w5.cell? ⟨w4.heap.size+1,0,none⟩=some (.int .i64 0):=by rw[hw5,<-hz1];exact((Blk.new _ #[Value.int .i64 0,Value.int .i64 0] 64).old _).cell 0
 have hb5:Below w4.heap.size w4 w5:=by rw[hw5];exact(((Below.refl w4.heap.size w4).alloc (Nat.le_refl _) _).alloc (by rw[hz1];omega) _).alloc (by rw[hz2];omega) _
 have A5:=Lib.hid (A4.out.below hb5)
 have L5:=Lib.hid (show At w5 (some ⟨w4.heap.size+1+1,0,none⟩) (([7,3,5,2]:List Int).map v8) by rw[hw5,<-hz2];exact at_made _ [.int .u8 7,.int .u8 3,.int .u8 5,.int .u8 2] _)
 have Bw5:=Lib.hid (B4.out.trans (hb5.mono B4.out.size))
 rw[<-hw5]
 clear hw5 hz1 hz2 hb5 K4 A4 B4 st
 refine(same_true [7,3,5,2] 4 4 p2 _ c2 4 w5 rfl rfl A5.out L5.out (by simp)).mono ?_
 rintro e w6 ⟨rfl,rfl⟩
 clear A5 L5
 go_wp2_with fail
 refine(fblob_any w5).mono ?_
 rintro e u1 ⟨q1,d1,rfl,hg,hb⟩
 have Bu1:=Lib.hid (Bw5.out.trans (hb.mono Bw5.out.size))
 have Gu1:=Lib.hid hg
 clear hg hb Bw5
 go_wp2_with fail
 refine(fkeep_any 4 u1 (fit_small (by omega))).mono ?_
 rintro e u2 ⟨q2,d2,rfl,hg,hb⟩
 have Bu2:=Lib.hid (Bu1.out.trans (hb.mono Bu1.out.size))
 have Gu1:=Lib.hid (Gu1.out.below hb)
 have Gu2:=Lib.hid hg
 clear hg hb Bu1
 go_wp2_with fail
 refine(fhint_any 2 4 u2 (fit_small (by omega)) (fit_small (by omega))).mono ?_
 rintro e u3 ⟨q3,d3,rfl,hg,hb⟩
 have Bu3:=Lib.hid (Bu2.out.trans (hb.mono Bu2.out.size))
 have Gu1:=Lib.hid (Gu1.out.below hb)
 have Gu2:=Lib.hid (Gu2.out.below hb)
 have Gu3:=Lib.hid hg
 clear hg hb Bu2
 have bf:(buildOp 30 3 #[(0,Value.agg (fcells (eBlob) q1 d1).toArray),(1,Value.agg (fcells (eKeep 4) q2 d2).toArray),(2,Value.agg (fcells (eHint 2 4) q3 d3).toArray)]).run Tryz.prog u3= .ok (.value (.slice (some ⟨u3.heap.size,0,none⟩) 3 3)) (u3.alloc (.cells (([(eBlob,q1,d1),(eKeep 4,q2,d2),(eHint 2 4,q3,d3)]:List (Hd Fac)).map sF.row).flatten.toArray 28)):=build_facts u3 [(eBlob,q1,d1),(eKeep 4,q2,d2),(eHint 2 4,q3,d3)] (by intro y hy;simp only[List.mem_cons,List.not_mem_nil,or_false]at hy;rcases hy with rfl | rfl | rfl<;>first | exact sum32 _ | exact zlen) (by simp)
 have tf:=told_facts u3 [(eBlob,q1,d1),(eKeep 4,q2,d2),(eHint 2 4,q3,d3)] (by intro y hy;simp only[List.mem_cons,List.not_mem_nil,or_false]at hy;rcases hy with rfl | rfl | rfl<;>first | exact Gu1.out | exact Gu2.out | exact Gu3.out | exact drop_good _) (by simp)
 have hb:=(Below.refl u3.heap.size u3).alloc (Nat.le_refl _) (.cells (([(eBlob,q1,d1),(eKeep 4,q2,d2),(eHint 2 4,q3,d3)]:List (Hd Fac)).map sF.row).flatten.toArray 28)
 obtain⟨u4,hnw⟩:∃x,x=u3.alloc (.cells (([(eBlob,q1,d1),(eKeep 4,q2,d2),(eHint 2 4,q3,d3)]:List (Hd Fac)).map sF.row).flatten.toArray 28):=⟨_,rfl⟩
 rw[<-hnw]at bf tf hb
 have Tu4:=Lib.hid tf
 have Bu4:=Lib.hid (Bu3.out.trans (hb.mono Bu3.out.size))
 clear tf hb hnw Gu1 Gu2 Gu3 Bu3
 go_wp2_with fail
 refine(counts_any F _ _ _ 1 1 1 [eBlob,eKeep 4,eHint 2 4] _ 3 3 u4 Tu4.out (by omega) (by simp[show 2<=dataMost from by decide]) e_f1 rfl rfl rfl).mono ?_
 rintro e u5 ⟨rfl,hb⟩
 have Bu5:=Lib.hid (Bu4.out.trans (hb.mono Bu4.out.size))
 clear hb bf Tu4 Bu4
 go_wp2_with fail
 refine(fblob_any u5).mono ?_
 rintro e u6 ⟨q6,d6,rfl,hg,hb⟩
 have Bu6:=Lib.hid (Bu5.out.trans (hb.mono Bu5.out.size))
 have Gu6:=Lib.hid hg
 clear hg hb Bu5
 go_wp2_with fail
 refine(fkeep_any 4 u6 (fit_small (by omega))).mono ?_
 rintro e u7 ⟨q7,d7,rfl,hg,hb⟩
 have Bu7:=Lib.hid (Bu6.out.trans (hb.mono Bu6.out.size))
 have Gu6:=Lib.hid (Gu6.out.below hb)
 have Gu7:=Lib.hid hg
 clear hg hb Bu6
 go_wp2_with fail
 refine(fhint_any 2 4 u7 (fit_small (by omega)) (fit_small (by omega))).mono ?_
 rintro e u8 ⟨q8,d8,rfl,hg,hb⟩
 have Bu8:=Lib.hid (Bu7.out.trans (hb.mono Bu7.out.size))
 have Gu6:=Lib.hid (Gu6.out.below hb)
 have Gu7:=Lib.hid (Gu7.out.below hb)
 have Gu8:=Lib.hid hg
 clear hg hb Bu7
 have bf:(buildOp 30 4 #[(0,Value.agg (fcells (eBlob) q6 d6).toArray),(1,Value.agg (fcells (eKeep 4) q7 d7).toArray),(2,Value.agg (fcells (eHint 2 4) q8 d8).toArray),(3,Value.agg (fcells (eDrop 4) none 0).toArray)]).run Tryz.prog u8= .ok (.value (.slice (some ⟨u8.heap.size,0,none⟩) 4 4)) (u8.alloc (.cells (([(eBlob,q6,d6),(eKeep 4,q7,d7),(eHint 2 4,q8,d8),(eDrop 4,none,0)]:List (Hd Fac)).map sF.row).flatten.toArray 28)):=build_facts u8 [(eBlob,q6,d6),(eKeep 4,q7,d7),(eHint 2 4,q8,d8),(eDrop 4,none,0)] (by intro y hy;simp only[List.mem_cons,List.not_mem_nil,or_false]at hy;rcases hy with rfl | rfl | rfl | rfl<;>first | exact sum32 _ | exact zlen) (by simp)
 have tf:=told_facts u8 [(eBlob,q6,d6),(eKeep 4,q7,d7),(eHint 2 4,q8,d8),(eDrop 4,none,0)] (by intro y hy;simp only[List.mem_cons,List.not_mem_nil,or_false]at hy;rcases hy with rfl | rfl | rfl | rfl<;>first | exact Gu6.out | exact Gu7.out | exact Gu8.out | exact drop_good _) (by simp)
 have hb:=(Below.refl u8.heap.size u8).alloc (Nat.le_refl _) (.cells (([(eBlob,q6,d6),(eKeep 4,q7,d7),(eHint 2 4,q8,d8),(eDrop 4,none,0)]:List (Hd Fac)).map sF.row).flatten.toArray 28)
 obtain⟨u10,hnw⟩:∃x,x=u8.alloc (.cells (([(eBlob,q6,d6),(eKeep 4,q7,d7),(eHint 2 4,q8,d8),(eDrop 4,none,0)]:List (Hd Fac)).map sF.row).flatten.toArray 28):=⟨_,rfl⟩
 rw[<-hnw]at bf tf hb
 have Tu10:=Lib.hid tf
 have Bu10:=Lib.hid (Bu8.out.trans (hb.mono Bu8.out.size))
 have mk:=fun w=>run_makeOp (P:=Tryz.prog) w (parts:=#[(0,.int .i64 10),(1,.int .i64 4)]) (built_set 10 4)
 clear tf hb hnw Gu6 Gu7 Gu8 Bu8
 go_wp2_with fail
 refine(counts_any F _ _ _ 0 0 0 [eBlob,eKeep 4,eHint 2 4,eDrop 4] _ 4 4 u10 Tu10.out (by omega) (by simp[show 2<=dataMost from by decide]) e_f2 rfl rfl rfl).mono ?_
 rintro e u11 ⟨rfl,hb⟩
 have Bu11:=Lib.hid (Bu10.out.trans (hb.mono Bu10.out.size))
 clear hb bf Tu10 Bu10 mk
 go_wp2_with fail
 go_ret
 exact⟨rfl,Bu11.out⟩
end
section
open Go.RowKit Sha Fct
attribute [local go_sem ↓] execOp_allocFact execOp_allocSte execOp_storeFact execOp_storeSte execOp_boxFact execOp_boxSte execOp_loadSte execOp_makeFact execOp_makeSte execOp_buildFacts execOp_loadFact
theorem range_below {w w':World} {b o:Nat} {cs:List Value}(h:w.rangeAt b o cs)(hb:Below w.heap.size w w'):w'.rangeAt b o cs:=fun j v hv=>(hb.cell (World.block_lt_of_cell? w _ (h j v hv))).trans (h j v hv)
end
section
namespace Fld
theorem encs_bd:∀(s:List Int)(l:List Itm),(∀x∈l,x.ok)->∀n∈encs s l,0<=n/\n<=255
 | [],_,_,n,h=>by simp[encs]at h
 | _::_,[],_,n,h=>by simp[encs]at h
 | c::s,x::l,hx,n,h=>by
    simp only[encs,List.mem_append]at h
    rcases h with h | h
    ·exact enc_bd c x (hx x (List.mem_cons_self ..)) n h
    ·exact encs_bd s l (fun y hy=>hx y (List.mem_cons_of_mem _ hy)) n h
end Fld
namespace Fct
theorem put_bd {f:Fac}(h:f.ok):∀n∈(put f).1,0<=n/\n<=255:=by
 by_cases hc:Can f
 ·rw[put_can hc];exact Fld.encs_bd _ _ (items_ok h)
 ·rw[put_not hc];simp
end Fct
end
end Go.Proofs.YtokpabkcaofahaaGreat
