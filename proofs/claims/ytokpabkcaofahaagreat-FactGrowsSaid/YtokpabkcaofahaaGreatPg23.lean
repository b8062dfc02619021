/-
  What stands under factGrows_holds: part 23.
-/
import Derived.Test.YtokpabkcaofahaaGreatPg7
import Derived.Test.YtokpabkcaofahaaGreatPg22
import Derived.Test.YtokpabkcaofahaaGreatPg4
import Derived.Deep.DeepCutAuto
import Derived.Deep.RegionHeld3
import Derived.Test.YtokpabkcaofahaaGreatPg1
import Derived.ProofKit
import Derived.OpenShut
import Derived.Test.YtokpabkcaofahaaGreatRows
import Derived.ChangeSlices
import Derived.Deep.Slices
import Derived.Deep.Strs
namespace Go.Proofs.YtokpabkcaofahaaGreat
set_option linter.unusedSimpArgs false
set_option linter.unusedVariables false
set_option maxRecDepth 100000
set_option maxHeartbeats 20000000
section
open Go.RowKit Sha Fct
theorem lex_le {κ:Type} {r:κ->κ->Bool} {a b:Int×κ}(h:Rise.lex ilt r a b=true):a.1<=b.1:=by
 unfold Rise.lex ilt at h
 simp at h
 omega
theorem up_at {α κ:Type} {key:α->κ} {lt:κ->κ->Bool} {l:List α}(h:Rise.Up key lt l)(k:Nat)(hk:k+1 < l.length):lt (key l[k]) (key l[k+1])=true:=by
 unfold Rise.Up at h
 exact(List.pairwise_iff_getElem.1 h) k (k+1) (by omega) hk (by omega)
theorem get_two {V:Type} {S:Shp V} {w:World} {p:Option Addr} {n c:Nat} {l:List V}(h:S.Told w p n c l)(k:Nat)(hk:k+1 < l.length):
 ∃b off q c q2 c2,p=some ⟨b,off,none⟩/\w.rangeAt b (off+k*S.n) (S.cells l[k] q c)/\S.Good w l[k] q c/\w.rangeAt b (off+(k+1)*S.n) (S.cells l[k+1] q2 c2)/\S.Good w l[k+1] q2 c2:=by
 obtain⟨b,off,q,c,hp,hr,hg⟩:=h.rows.get k (by omega)
 obtain⟨b2,off2,q2,c2,hp2,hr2,hg2⟩:=h.rows.get (k+1) hk
 rw[hp]at hp2
 simp at hp2
 obtain⟨rfl,rfl⟩:=hp2
 exact⟨b,off,q,c,q2,c2,hp,hr,hg,hr2,hg2⟩
theorem SBox.keeps {w:World} {g:Nat} {s:Ste} {h:Hds}(x:SBox w g s h):w.cell? ⟨g,3,none⟩=some (.slice h.k.1 s.keeps.length h.k.2.2):=by
 rw[<-x.good.k.len]
 exact(x.blk.cell 3).trans (scells_3 s h)
theorem SBox.hints {w:World} {g:Nat} {s:Ste} {h:Hds}(x:SBox w g s h):w.cell? ⟨g,4,none⟩=some (.slice h.h.1 s.hints.length h.h.2.2):=by
 rw[<-x.good.h.len]
 exact(x.blk.cell 4).trans (scells_4 s h)
theorem SBox.decs {w:World} {g:Nat} {s:Ste} {h:Hds}(x:SBox w g s h):w.cell? ⟨g,6,none⟩=some (.slice h.d.1 s.decs.length h.d.2.2):=by
 rw[<-x.good.d.len]
 exact(x.blk.cell 6).trans (scells_6 s h)
theorem len_fit {V:Type} {S:Shp V} {w:World} {p:Option Addr} {n c:Nat} {l:List V}(h:S.Told w p n c l):l.length<=9223372036854775807:=by
 have:=h.max;have:=h.le;have:=h.len;omega
attribute [local go_sem ↓] execOp_allocFact execOp_allocSte execOp_storeFact execOp_storeSte execOp_boxFact execOp_boxSte execOp_loadSte execOp_makeFact execOp_makeSte execOp_buildFacts execOp_loadFact execOp_loadId execOp_eqlId execOp_boxId
theorem flists_any (s:Ste)(h:Hds)(w:World)(hs:Sound s)(hg:SGood w s h):
 Calls Tryz.prog 38 #[.agg (scells s h).toArray] w fun e w'=>e= .returned (.bool true)/\Below w.heap.size w w':=by
 have bx:=fun w=>run_boxOp (P:=Tryz.prog) (t:=47) (cs:=(scells s h).toArray) w
 have HS:=Lib.hid hs
 have HG:=Lib.hid hg
 clear hs hg
 go_enter Tryz.func38,Tryz.ntmps38
 go_wp2_with fail
 have hk0:=Blk.new w (scells s h).toArray 47
 have hb0:=(Below.refl w.heap.size w).alloc (Nat.le_refl _) (Obj.cells (scells s h).toArray 47)
 obtain⟨w0,hw0⟩:∃x,x=w.alloc (Obj.cells (scells s h).toArray 47):=⟨_,rfl⟩
 rw[<-hw0]at hk0 hb0 ⊢
 have X0:=Lib.hid (show SBox w0 w.heap.size s h from⟨hk0,HG.out.below hb0⟩)
 have B0:=Lib.hid hb0
 clear hk0 hb0 hw0 HG
 generalize hgg:w.heap.size=g at *
 rw[<-hgg]at B0
 clear hgg
 obtain⟨n0,hn⟩:∃n,n=s.blobs.length:=⟨_,rfl⟩
 have hf0:n0<=9223372036854775807:=by rw[hn];exact len_fit X0.out.good.b
 have N0:=Lib.hid hn
 clear hn
 go_loopw [3] (fun i wr=>∃j:Nat,i= .int .i64 j/\1<=j/\j<=max 1 n0/\Hid (Below w0.heap.size w0 wr)) (fun i _=>n0 - (intOf i).toNat)
 case atStart=>exact⟨1,rfl,by omega,by omega,Lib.hid (Below.refl _ _)⟩
 case round=>
  obtain⟨j,rfl,hj0,hj1,HBR⟩:=hrel
  have X:=Lib.hid (X0.out.below HBR.out)
  by_cases hlt:j < n0
  ·obtain⟨k,rfl⟩:∃k,j=k+1:=⟨j - 1,by omega⟩
   obtain⟨b,off,q,c,q2,c2,hp,hr,hgd,hr2,hgd2⟩:=get_two X.out.good.b k (by rw[<-N0.out];exact hlt)
   have hup:=up_at HS.out.blobsUp k (by rw[<-N0.out];exact hlt)
   obtain⟨x,hx⟩:∃x,x=s.blobs[k]'(by rw[<-N0.out];omega):=⟨_,rfl⟩
   obtain⟨y,hy⟩:∃x,x=s.blobs[k+1]'(by rw[<-N0.out];omega):=⟨_,rfl⟩
   rw[<-hx]at hr hgd hup
   rw[<-hy]at hr2 hgd2 hup
   obtain⟨I,W,hC⟩:=cls_of wr
   have hne:Nonempty I:=hC.ne
   have HC:=Lib.hid hC
   have cv:=X.out.blobs
   rw[<-N0.out,hp]at cv
   have cV:=hC.cell cv
   have lX:=fun n=>load_idr hgd.ok.1.1 (range_below (show wr.rangeAt b (off+k*33) (x.1.map v8)from rangeAt_sub hr 0 (fun i v hv=>by rw[Nat.zero_add];exact bcells_D x q c i v hv)) (hC.back n))
   have lY:=fun n=>load_idr hgd2.ok.1.1 (range_below (show wr.rangeAt b (off+(k+1)*33) (y.1.map v8)from rangeAt_sub hr2 0 (fun i v hv=>by rw[Nat.zero_add];exact bcells_D y q2 c2 i v hv)) (hC.back n))
   have QS:=Lib.hid (hC.call (P:=Tryz.prog) (f:=79) (args:=#[.agg (x.1.map v8).toArray,.agg (y.1.map v8).toArray]) (v:=.bool true) (fun w' hb=>by
    have h1:=less_any x.1 y.1 w' hgd.ok.1.1 hgd2.ok.1.1 hgd.ok.1.2 hgd2.ok.1.2
    rw[hup]at h1
    exact h1))
   have i1:IntKind.i64.wrap ((k:Int)+1 - 1)=(k:Int):=by rw[show(k:Int)+1 - 1=(k:Int) by omega];exact IntWalk.i64_in _ (by omega)
   have i2:IntKind.i64.wrap (k:Int)=(k:Int):=IntWalk.i64_in _ (by omega)
   have i3:((k:Int)+1).toNat=k+1:=by omega
   have i4:(0:Int)<=(k:Int)/\(k:Int) < (n0:Int):=by omega
   have i5:(0:Int)<=(k:Int)+1/\(k:Int)+1 < (n0:Int):=by omega
   have i6:(0:Int) < (k:Int)+1:=by omega
   clear hp hr hr2 hgd hgd2 hx hy hC hup
   go_wp2_with fail
   refine wp_region_cls W (by kernel_rfl) (by kernel_rfl) HC.out.one ?_
   repeat go_big_quiet_step ((go_at_call 79;exact QS.out _))
   refine wpQuiet_nil ?_
   rintro _ ⟨nq,rfl⟩
   go_wp2_with fail
   go_roundw
   case rel=>exact⟨k+1+1,by go_num,by omega,by omega,Lib.hid (HBR.out.trans ((HC.out.back nq).mono HBR.out.size))⟩
   case measure=>simp[intOf];omega
  ·have hge:¬(j:Int) < (n0:Int):=by omega
   have cv:=X.out.blobs
   rw[<-N0.out]at cv
   go_wp2_with fail
   have B1:=Lib.hid (B0.out.trans (HBR.out.mono B0.out.size))
   have X1:=X
   clear X X0 B0 HBR cv hlt hge hj0 hj1
   obtain⟨w1,hw⟩:∃x,x=wr:=⟨_,rfl⟩
   rw[<-hw]at B1 X1 ⊢
   clear hw
   obtain⟨n1,hn⟩:∃n,n=s.votes.length:=⟨_,rfl⟩
   have hf1:n1<=9223372036854775807:=by rw[hn];exact len_fit X1.out.good.v
   have N1:=Lib.hid hn
   clear hn
   go_loopw [4] (fun i wr=>∃j:Nat,i= .int .i64 j/\1<=j/\j<=max 1 n1/\Hid (Below w1.heap.size w1 wr)) (fun i _=>n1 - (intOf i).toNat)
   case atStart=>exact⟨1,rfl,by omega,by omega,Lib.hid (Below.refl _ _)⟩
   case round=>
    obtain⟨j,rfl,hj0,hj1,HBR⟩:=hrel
    have X:=Lib.hid (X1.out.below HBR.out)
    by_cases hlt:j < n1
    ·obtain⟨k,rfl⟩:∃k,j=k+1:=⟨j - 1,by omega⟩
     obtain⟨b,off,q,c,q2,c2,hp,hr,hgd,hr2,hgd2⟩:=get_two X.out.good.v k (by rw[<-N1.out];exact hlt)
     have hup:=up_at HS.out.votesUp k (by rw[<-N1.out];exact hlt)
     obtain⟨x,hx⟩:∃x,x=s.votes[k]'(by rw[<-N1.out];omega):=⟨_,rfl⟩
     obtain⟨y,hy⟩:∃x,x=s.votes[k+1]'(by rw[<-N1.out];omega):=⟨_,rfl⟩
     rw[<-hx]at hr hgd hup
     rw[<-hy]at hr2 hgd2 hup
     obtain⟨I,W,hC⟩:=cls_of wr
     have hne:Nonempty I:=hC.ne
     have HC:=Lib.hid hC
     have cv:=X.out.votes
     rw[<-N1.out,hp]at cv
     have cV:=hC.cell cv
     have e1:wr.cell? ⟨b,off+k*6,none⟩=some (.int .i64 x.S):=hr 0 _ rfl
     have e2:wr.cell? ⟨b,off+(k+1)*6,none⟩=some (.int .i64 y.S):=hr2 0 _ rfl
     have d1:=hC.cell e1
     have d2:=hC.cell e2
     have hd:decide (y.S<=x.S)=false:=by
      have h1:x.S < y.S:=by simpa[ilt,vkey]using hup
      exact decide_eq_false (by omega)
     have i1:IntKind.i64.wrap ((k:Int)+1 - 1)=(k:Int):=by rw[show(k:Int)+1 - 1=(k:Int) by omega];exact IntWalk.i64_in _ (by omega)
     have i2:IntKind.i64.wrap (k:Int)=(k:Int):=IntWalk.i64_in _ (by omega)
     have i3:((k:Int)+1).toNat=k+1:=by omega
     have i4:(0:Int)<=(k:Int)/\(k:Int) < (n1:Int):=by omega
     have i5:(0:Int)<=(k:Int)+1/\(k:Int)+1 < (n1:Int):=by omega
     have i6:(0:Int) < (k:Int)+1:=by omega
     clear hp hr hr2 hgd hgd2 hx hy hC hup e1 e2
     go_wp2_with fail
     refine wp_region_cls W (by kernel_rfl) (by kernel_rfl) HC.out.one ?_
     repeat go_big_quiet_step (fail)
     refine wpQuiet_nil ?_
     rintro _ ⟨nq,rfl⟩
     go_wp2_with fail
     go_roundw
     case rel=>exact⟨k+1+1,by go_num,by omega,by omega,Lib.hid (HBR.out.trans ((HC.out.back nq).mono HBR.out.size))⟩
     case measure=>simp[intOf];omega
    ·have hge:¬(j:Int) < (n1:Int):=by omega
     have cv:=X.out.votes
     rw[<-N1.out]at cv
     go_wp2_with fail
     have B2:=Lib.hid (B1.out.trans (HBR.out.mono B1.out.size))
     have X2:=X
     clear X X1 B1 HBR cv hlt hge hj0 hj1
     obtain⟨w2,hw⟩:∃x,x=wr:=⟨_,rfl⟩
     rw[<-hw]at B2 X2 ⊢
     clear hw
     obtain⟨n2,hn⟩:∃n,n=s.decs.length:=⟨_,rfl⟩
     have hf2:n2<=9223372036854775807:=by rw[hn];exact len_fit X2.out.good.d
     have N2:=Lib.hid hn
     clear hn
     go_loopw [5] (fun i wr=>∃j:Nat,i= .int .i64 j/\1<=j/\j<=max 1 n2/\Hid (Below w2.heap.size w2 wr)) (fun i _=>n2 - (intOf i).toNat)
     case atStart=>exact⟨1,rfl,by omega,by omega,Lib.hid (Below.refl _ _)⟩
     case round=>
      obtain⟨j,rfl,hj0,hj1,HBR⟩:=hrel
      have X:=Lib.hid (X2.out.below HBR.out)
      by_cases hlt:j < n2
      ·obtain⟨k,rfl⟩:∃k,j=k+1:=⟨j - 1,by omega⟩
       obtain⟨b,off,q,c,q2,c2,hp,hr,hgd,hr2,hgd2⟩:=get_two X.out.good.d k (by rw[<-N2.out];exact hlt)
       have hup:=up_at HS.out.decsUp k (by rw[<-N2.out];exact hlt)
       obtain⟨x,hx⟩:∃x,x=s.decs[k]'(by rw[<-N2.out];omega):=⟨_,rfl⟩
       obtain⟨y,hy⟩:∃x,x=s.decs[k+1]'(by rw[<-N2.out];omega):=⟨_,rfl⟩
       rw[<-hx]at hr hgd hup
       rw[<-hy]at hr2 hgd2 hup
       obtain⟨I,W,hC⟩:=cls_of wr
       have hne:Nonempty I:=hC.ne
       have HC:=Lib.hid hC
       have cv:=X.out.decs
       rw[<-N2.out,hp]at cv
       have cV:=hC.cell cv
       have e1:wr.cell? ⟨b,off+k*2,none⟩=some (.int .i64 x.1):=hr 0 _ rfl
       have e2:wr.cell? ⟨b,off+(k+1)*2,none⟩=some (.int .i64 y.1):=hr2 0 _ rfl
       have d1:=hC.cell e1
       have d2:=hC.cell e2
       have hd:decide (y.1<=x.1)=false:=by
        have h1:x.1 < y.1:=by simpa[ilt,dkey]using hup
        exact decide_eq_false (by omega)
       have i1:IntKind.i64.wrap ((k:Int)+1 - 1)=(k:Int):=by rw[show(k:Int)+1 - 1=(k:Int) by omega];exact IntWalk.i64_in _ (by omega)
       have i2:IntKind.i64.wrap (k:Int)=(k:Int):=IntWalk.i64_in _ (by omega)
       have i3:((k:Int)+1).toNat=k+1:=by omega
       have i4:(0:Int)<=(k:Int)/\(k:Int) < (n2:Int):=by omega
       have i5:(0:Int)<=(k:Int)+1/\(k:Int)+1 < (n2:Int):=by omega
       have i6:(0:Int) < (k:Int)+1:=by omega
       clear hp hr hr2 hgd hgd2 hx hy hC hup e1 e2
       go_wp2_with fail
       refine wp_region_cls W (by kernel_rfl) (by kernel_rfl) HC.out.one ?_
       repeat go_big_quiet_step (fail)
       refine wpQuiet_nil ?_
       rintro _ ⟨nq,rfl⟩
       go_wp2_with fail
       go_roundw
       case rel=>exact⟨k+1+1,by go_num,by omega,by omega,Lib.hid (HBR.out.trans ((HC.out.back nq).mono HBR.out.size))⟩
       case measure=>simp[intOf];omega
      ·have hge:¬(j:Int) < (n2:Int):=by omega
       have cv:=X.out.decs
       rw[<-N2.out]at cv
       go_wp2_with fail
       have B3:=Lib.hid (B2.out.trans (HBR.out.mono B2.out.size))
       have X3:=X
       clear X X2 B2 HBR cv hlt hge hj0 hj1
       obtain⟨w3,hw⟩:∃x,x=wr:=⟨_,rfl⟩
       rw[<-hw]at B3 X3 ⊢
       clear hw
       obtain⟨n3,hn⟩:∃n,n=s.keeps.length:=⟨_,rfl⟩
       have hf3:n3<=9223372036854775807:=by rw[hn];exact len_fit X3.out.good.k
       have N3:=Lib.hid hn
       clear hn
       go_loopw [6] (fun i wr=>∃j:Nat,i= .int .i64 j/\0<=j/\j<=max 0 n3/\Hid (Below w3.heap.size w3 wr)) (fun i _=>n3 - (intOf i).toNat)
       case atStart=>exact⟨0,rfl,by omega,by omega,Lib.hid (Below.refl _ _)⟩
       case round=>
        obtain⟨j,rfl,hj0,hj1,HBR⟩:=hrel
        have X:=Lib.hid (X3.out.below HBR.out)
        by_cases hlt:j < n3
        ·obtain⟨b,off,q,c,hp,hr,hgd⟩:=X.out.good.k.rows.get j (by rw[<-N3.out];exact hlt)
         obtain⟨x,hx⟩:∃x,x=s.keeps[j]'(by rw[<-N3.out];exact hlt):=⟨_,rfl⟩
         have hst:=HS.out.keeps x (by rw[hx];exact List.getElem_mem _)
         rw[<-hx]at hr hgd
         obtain⟨I,W,hC⟩:=cls_of wr
         have hne:Nonempty I:=hC.ne
         have HC:=Lib.hid hC
         have cv:=X.out.keeps
         rw[<-N3.out,hp]at cv
         have cV:=hC.cell cv
         have lS:=fun n=>load_steB (X.out.below (hC.back n)).blk
         have lX:=fun n=>load_idr (hgd.ok.2).1 (range_below (show wr.rangeAt b (off+j*33+1) (x.2.map v8)from rangeAt_sub hr 1 (fun i v hv=>by rw[show 1+i=i+1 by omega];exact hv)) (hC.back n))
         have QS:=Lib.hid (hC.call (P:=Tryz.prog) (f:=80) (args:=#[.agg (scells s h).toArray,.agg (x.2.map v8).toArray]) (v:=.bool true) (fun w' hb=>by
          have h1:=fhas_any s h x.2 w' HS.out (X.out.below hb).good (hgd.ok.2)
          rw[hst.2]at h1
          exact h1))
         have i0:(0:Int)<=(j:Int)/\(j:Int) < (n3:Int):=by omega
         by_cases hz:j=0
         ·subst hz
          have hd0:decide ((0:Int) < ((0:Nat):Int))=false:=by decide
          clear hp hr hgd hx hC hst
          go_wp2_with fail
          refine wp_region_cls W (by kernel_rfl) (by kernel_rfl) HC.out.one ?_
          repeat go_big_quiet_step ((go_at_call 80;exact QS.out _))
          refine wpQuiet_nil ?_
          rintro _ ⟨nq,rfl⟩
          go_wp2_with fail
          go_roundw
          case rel=>exact⟨0+1,by go_num,by omega,by omega,Lib.hid (HBR.out.trans ((HC.out.back nq).mono HBR.out.size))⟩
          case measure=>simp[intOf];omega
         ·obtain⟨k,rfl⟩:∃k,j=k+1:=⟨j - 1,by omega⟩
          obtain⟨b',off',q',c',q2,c2,hp',hr1,hgd1,hr2,hgd2⟩:=get_two X.out.good.k k (by rw[<-N3.out];exact hlt)
          have hpp:b'=b/\off'=off:=by rw[hp]at hp';simp at hp';exact⟨hp'.1.symm,hp'.2.symm⟩
          obtain⟨rfl,rfl⟩:=hpp
          have hup:=up_at HS.out.keepsUp k (by rw[<-N3.out];exact hlt)
          obtain⟨y,hy⟩:∃x,x=s.keeps[k]'(by rw[<-N3.out];omega):=⟨_,rfl⟩
          rw[<-hx]at hup
          rw[<-hy]at hr1 hup
          have e1:wr.cell? ⟨b',off'+k*33,none⟩=some (.int .i64 y.1):=hr1 0 _ rfl
          have e2:wr.cell? ⟨b',off'+(k+1)*33,none⟩=some (.int .i64 x.1):=hr 0 _ rfl
          have d1:=hC.cell e1
          have d2:=hC.cell e2
          have hd:decide (x.1 < y.1)=false:=by
           have h1:y.1<=x.1:=lex_le hup
           exact decide_eq_false (by omega)
          have hd0:decide ((0:Int) < ((k+1:Nat):Int))=true:=decide_eq_true (by omega)
          have hd1:decide ((0:Int) < (k:Int)+1)=true:=decide_eq_true (by omega)
          have i1:IntKind.i64.wrap ((k:Int)+1 - 1)=(k:Int):=by rw[show(k:Int)+1 - 1=(k:Int) by omega];exact IntWalk.i64_in _ (by omega)
          have i2:IntKind.i64.wrap (k:Int)=(k:Int):=IntWalk.i64_in _ (by omega)
          have i3:((k:Int)+1).toNat=k+1:=by omega
          have i4:(0:Int)<=(k:Int)/\(k:Int) < (n3:Int):=by omega
          have i5:(0:Int)<=(k:Int)+1/\(k:Int)+1 < (n3:Int):=by omega
          have i6:(0:Int) < (k:Int)+1:=by omega
          clear hp hp' hr hr1 hr2 hgd hgd1 hgd2 hx hy hC hst hup e1 e2 hz
          go_wp2_with fail
          refine wp_region_cls W (by kernel_rfl) (by kernel_rfl) HC.out.one ?_
          repeat go_big_quiet_step ((go_at_call 80;exact QS.out _))
          refine wpQuiet_nil ?_
          rintro _ ⟨nq,rfl⟩
          go_wp2_with fail
          go_roundw
          case rel=>exact⟨k+1+1,by go_num,by omega,by omega,Lib.hid (HBR.out.trans ((HC.out.back nq).mono HBR.out.size))⟩
          case measure=>simp[intOf];omega
        ·have hge:¬(j:Int) < (n3:Int):=by omega
         have cv:=X.out.keeps
         rw[<-N3.out]at cv
         go_wp2_with fail
         have B4:=Lib.hid (B3.out.trans (HBR.out.mono B3.out.size))
         have X4:=X
         clear X X3 B3 HBR cv hlt hge hj0 hj1
         obtain⟨w4,hw⟩:∃x,x=wr:=⟨_,rfl⟩
         rw[<-hw]at B4 X4 ⊢
         clear hw
         obtain⟨n4,hn⟩:∃n,n=s.hints.length:=⟨_,rfl⟩
         have hf4:n4<=9223372036854775807:=by rw[hn];exact len_fit X4.out.good.h
         have N4:=Lib.hid hn
         clear hn
         go_loopw [7] (fun i wr=>∃j:Nat,i= .int .i64 j/\0<=j/\j<=max 0 n4/\Hid (Below w4.heap.size w4 wr)) (fun i _=>n4 - (intOf i).toNat)
         case atStart=>exact⟨0,rfl,by omega,by omega,Lib.hid (Below.refl _ _)⟩
         case round=>
          obtain⟨j,rfl,hj0,hj1,HBR⟩:=hrel
          have X:=Lib.hid (X4.out.below HBR.out)
          by_cases hlt:j < n4
          ·obtain⟨b,off,q,c,hp,hr,hgd⟩:=X.out.good.h.rows.get j (by rw[<-N4.out];exact hlt)
           obtain⟨x,hx⟩:∃x,x=s.hints[j]'(by rw[<-N4.out];exact hlt):=⟨_,rfl⟩
           have hst:=HS.out.hints x (by rw[hx];exact List.getElem_mem _)
           rw[<-hx]at hr hgd
           obtain⟨I,W,hC⟩:=cls_of wr
           have hne:Nonempty I:=hC.ne
           have HC:=Lib.hid hC
           have cv:=X.out.hints
           rw[<-N4.out,hp]at cv
           have cV:=hC.cell cv
           have lS:=fun n=>load_steB (X.out.below (hC.back n)).blk
           have lX:=fun n=>load_idr (hgd.ok.2.2).1 (range_below (show wr.rangeAt b (off+j*34+2) (x.2.2.map v8)from rangeAt_sub hr 2 (fun i v hv=>by rw[show 2+i=i+1+1 by omega];exact hv)) (hC.back n))
           have QS:=Lib.hid (hC.call (P:=Tryz.prog) (f:=80) (args:=#[.agg (scells s h).toArray,.agg (x.2.2.map v8).toArray]) (v:=.bool true) (fun w' hb=>by
            have h1:=fhas_any s h x.2.2 w' HS.out (X.out.below hb).good (hgd.ok.2.2)
            rw[hst.2.2]at h1
            exact h1))
           have i0:(0:Int)<=(j:Int)/\(j:Int) < (n4:Int):=by omega
           by_cases hz:j=0
           ·subst hz
            have hd0:decide ((0:Int) < ((0:Nat):Int))=false:=by decide
            clear hp hr hgd hx hC hst
            go_wp2_with fail
            refine wp_region_cls W (by kernel_rfl) (by kernel_rfl) HC.out.one ?_
            repeat go_big_quiet_step ((go_at_call 80;exact QS.out _))
            refine wpQuiet_nil ?_
            rintro _ ⟨nq,rfl⟩
            go_wp2_with fail
            go_roundw
            case rel=>exact⟨0+1,by go_num,by omega,by omega,Lib.hid (HBR.out.trans ((HC.out.back nq).mono HBR.out.size))⟩
            case measure=>simp[intOf];omega
           ·obtain⟨k,rfl⟩:∃k,j=k+1:=⟨j - 1,by omega⟩
            obtain⟨b',off',q',c',q2,c2,hp',hr1,hgd1,hr2,hgd2⟩:=get_two X.out.good.h k (by rw[<-N4.out];exact hlt)
            have hpp:b'=b/\off'=off:=by rw[hp]at hp';simp at hp';exact⟨hp'.1.symm,hp'.2.symm⟩
            obtain⟨rfl,rfl⟩:=hpp
            have hup:=up_at HS.out.hintsUp k (by rw[<-N4.out];exact hlt)
            obtain⟨y,hy⟩:∃x,x=s.hints[k]'(by rw[<-N4.out];omega):=⟨_,rfl⟩
            rw[<-hx]at hup
            rw[<-hy]at hr1 hup
            have e1:wr.cell? ⟨b',off'+k*34,none⟩=some (.int .i64 y.1):=hr1 0 _ rfl
            have e2:wr.cell? ⟨b',off'+(k+1)*34,none⟩=some (.int .i64 x.1):=hr 0 _ rfl
            have d1:=hC.cell e1
            have d2:=hC.cell e2
            have hd:decide (x.1 < y.1)=false:=by
             have h1:y.1<=x.1:=lex_le hup
             exact decide_eq_false (by omega)
            have hd0:decide ((0:Int) < ((k+1:Nat):Int))=true:=decide_eq_true (by omega)
            have hd1:decide ((0:Int) < (k:Int)+1)=true:=decide_eq_true (by omega)
            have i1:IntKind.i64.wrap ((k:Int)+1 - 1)=(k:Int):=by rw[show(k:Int)+1 - 1=(k:Int) by omega];exact IntWalk.i64_in _ (by omega)
            have i2:IntKind.i64.wrap (k:Int)=(k:Int):=IntWalk.i64_in _ (by omega)
            have i3:((k:Int)+1).toNat=k+1:=by omega
            have i4:(0:Int)<=(k:Int)/\(k:Int) < (n4:Int):=by omega
            have i5:(0:Int)<=(k:Int)+1/\(k:Int)+1 < (n4:Int):=by omega
            have i6:(0:Int) < (k:Int)+1:=by omega
            clear hp hp' hr hr1 hr2 hgd hgd1 hgd2 hx hy hC hst hup e1 e2 hz
            go_wp2_with fail
            refine wp_region_cls W (by kernel_rfl) (by kernel_rfl) HC.out.one ?_
            repeat go_big_quiet_step ((go_at_call 80;exact QS.out _))
            refine wpQuiet_nil ?_
            rintro _ ⟨nq,rfl⟩
            go_wp2_with fail
            go_roundw
            case rel=>exact⟨k+1+1,by go_num,by omega,by omega,Lib.hid (HBR.out.trans ((HC.out.back nq).mono HBR.out.size))⟩
            case measure=>simp[intOf];omega
          ·have hge:¬(j:Int) < (n4:Int):=by omega
           have cv:=X.out.hints
           rw[<-N4.out]at cv
           go_wp2_with fail
           have B5:=Lib.hid (B4.out.trans (HBR.out.mono B4.out.size))
           have X5:=X
           clear X X4 B4 HBR cv hlt hge hj0 hj1
           obtain⟨w5,hw⟩:∃x,x=wr:=⟨_,rfl⟩
           rw[<-hw]at B5 X5 ⊢
           clear hw
           go_ret
           exact⟨rfl,B5.out⟩
end
section
open Go.RowKit Sha Fct
theorem SBox.born {w:World} {g:Nat} {s:Ste} {h:Hds}(x:SBox w g s h):w.cell? ⟨g,0,none⟩=some (.bool s.born):=(x.blk.cell 0).trans (scells_0 s h)
theorem SBox.boot {w:World} {g:Nat} {s:Ste} {h:Hds}(x:SBox w g s h):w.cell? ⟨g,1,none⟩=some (.int .i64 s.boot):=(x.blk.cell 1).trans (scells_1 s h)
theorem below_alloc0 {a w:World}(h:Below a.heap.size a w)(o:Obj):Below a.heap.size a (w.alloc o):=h.alloc h.size o
theorem below_drew0 {a w:World}(h:Below a.heap.size a w):Below a.heap.size a w.drew:=h.drew
theorem below_next {a w w':World}(h:Below a.heap.size a w)(hb:Below w.heap.size w w'):Below a.heap.size a w':=h.trans (hb.mono h.size)
theorem below_set0 {a w:World}(h:Below a.heap.size a w)(g i:Nat)(v:Value)(hg:a.heap.size<=g):Below a.heap.size a (w.setCell ⟨g,i,none⟩ v):=h.setCell (p:=⟨g,i,none⟩) hg v
attribute [local go_sem ↓] execOp_allocFact execOp_allocSte execOp_storeFact execOp_storeSte execOp_boxFact execOp_boxSte execOp_loadSte execOp_makeFact execOp_makeSte execOp_buildFacts execOp_loadFact execOp_loadId execOp_eqlId execOp_boxId
theorem fgrows_any (F:FactsStep)(l:List Fac)(p:Option Addr)(n c:Nat)(w:World)(h:sF.Told w p n c l):
 Calls Tryz.prog 8 #[.slice p n c] w fun e w'=>e= .returned (.bool true)/\Below w.heap.size w w':=by
 have as_:=fun w=>alloc_ste w
 have HT:=Lib.hid h
 have HLEN:=Lib.hid h.len
 clear h
 go_enter Tryz.func8,Tryz.ntmps8
 go_wp2_with fail
 refine(awake_any F.toFactsFold w).mono ?_
 rintro e w1 ⟨rfl,hb⟩
 have B1:=Lib.hid hb
 have T1:=Lib.hid (HT.out.below hb)
 clear hb HT
 go_wp2_with fail
 refine(longFacts_any p n c l w1 T1.out).mono ?_
 rintro e w2 ⟨b,rfl,hl,rfl⟩
 cases b with
 | true=>
    clear hl
    go_wp2_with fail
    go_ret
    exact⟨rfl,B1.out⟩
 | false=>
    obtain⟨hl60,hlB⟩:=hl rfl
    have HL60:=Lib.hid hl60
    have HMX:=Lib.hid (show∀x∈l,x.B.length<=dataMost from fun x hx=>by have h1:=hlB x hx;have:dataMost=1000000000000:=rfl;omega)
    have hn60:n<=60:=by rw[HLEN.out];exact hl60
    clear hl hl60 hlB
    go_wp2_with fail
    have hk:=Blk.new w1 (scells Ste.none Hds.none).toArray 47
    have hb:=(Below.refl w1.heap.size w1).alloc (Nat.le_refl _) (Obj.cells (scells Ste.none Hds.none).toArray 47)
    obtain⟨g4,hg4⟩:∃g,g=w1.heap.size:=⟨_,rfl⟩
    obtain⟨w3,hw3⟩:∃x,x=w1.alloc (Obj.cells (scells Ste.none Hds.none).toArray 47):=⟨_,rfl⟩
    rw[<-hg4,<-hw3]at hk
    rw[<-hw3]at hb ⊢
    rw[<-hg4]
    have HK:=Lib.hid hk
    have HB:=Lib.hid hb
    have HG4:=Lib.hid hg4
    clear hk hb hw3 hg4
    go_loopw [5] (fun i wr=>∃(j:Nat) (s:Ste) (hd:Hds),i= .int .i64 j/\j<=n/\Hid (Sound s)/\Hid ((facts s).length<=2*j)/\Hid (Blk wr g4 (scells s hd) 47)/\Hid (SApart wr s hd (· = g4))/\Hid (Below w1.heap.size w1 wr)) (fun i _=>n - (intOf i).toNat)
    case atStart=>exact⟨0,Ste.none,Hds.none,rfl,by omega,Lib.hid Sound.none,Lib.hid (by decide),HK,Lib.hid (SApart.none_ _ _),HB⟩
    case round=>
     obtain⟨j,s,hd,rfl,hj,HSO,HFW,HBK,HAV,HBR⟩:=hrel
     by_cases hlt:j < n
     ·obtain⟨b,off,q,qc,hp,hr0,hgd⟩:=T1.out.rows.get j (by rw[<-HLEN.out];exact hlt)
      obtain⟨x,hx⟩:∃x,x=l[j]'(by rw[<-HLEN.out];exact hlt):=⟨_,rfl⟩
      have hxm:=HMX.out x (by rw[hx];exact List.getElem_mem _)
      rw[<-hx]at hr0 hgd
      have hr:=range_below hr0 HBR.out
      have X:=Lib.hid (show SBox wr g4 s hd from⟨HBK.out,HAV.out.good⟩)
      have HGD:=Lib.hid (hgd.below HBR.out)
      have HFA:=Lib.hid (fun W (G:Nat->Prop) (hb:Below wr.heap.size wr W) (hG:∀k,G k->g4<=k)=>show FApart W x q qc G from FApart.new hgd (below_next HBR.out hb) (fun k e=>by have:=hG k e;rw[HG4.out]at this;exact this))
      have HXO:=Lib.hid hgd.ok
      have hg4w:g4 < wr.heap.size:=HBK.out.lt
      obtain⟨⟨t,er⟩,hta⟩:∃r,r=s.apply x:=⟨_,rfl⟩
      have HAP:=Lib.hid (fun W (hb:Below wr.heap.size wr W)=>show Calls Tryz.prog 24 #[.agg (scells s hd).toArray,.agg (fcells x q qc).toArray] W (fun e w'=>∃k,e= .returned (.tuple #[.agg (scells t k).toArray,.int .i64 er])/\SGood w' t k/\Below W.heap.size W w'/\SApart w' t k (fun g=>g=g4\/wr.heap.size<=g/\g < W.heap.size/\∃cs,Blk w' g cs 47))from by
       have h1:=F.apply s hd x q qc W HSO.out (by have:listMost=2000000:=rfl;have:=HFW.out;omega) (X.out.good.below hb) (HGD.out.below hb) hxm
       unfold FSteQ at h1
       rw[<-hta]at h1
       exact h1.mono fun e w' ⟨k,h2,h3,h4,h5⟩=>⟨k,h2,h3,h4,(h5 (fun g=>g=g4\/wr.heap.size<=g/\g < W.heap.size/\∃cs,Blk W g cs 47)
        (fun g hg=>by
          rcases hg with rfl | ⟨_,h',cs,hc⟩
          ·exact⟨Nat.lt_of_lt_of_le hg4w hb.size,_,X.out.blk.below hb hg4w⟩
          ·exact⟨h',cs,hc⟩)
        (HAV.out.later hb (fun k hk=>by rcases hk with h' | h';exact .inl h';exact .inr h'.1)) (HFA.out W _ hb (fun k hk=>by
          rcases hk with h' | h'
          ·omega
          ·have h9:=h'.1
           clear h'
           omega))).over (Nat.le_refl _) (fun _ _ _=>rfl) (fun g hg=>by
          rcases hg with e | ⟨a,b,cs,c⟩
          ·exact .inl e
          ·exact .inr ⟨a,b,cs,(h4.block g b).symm.trans c⟩)⟩)
      have HTA:=Lib.hid hta
      have E1:=Lib.hid (fun W (hb:Below wr.heap.size wr W)=>load_steB (X.out.below hb).blk)
      have E2:=Lib.hid (fun W (hb:Below wr.heap.size wr W)=>load_fact hgd.ok.len (show W.rangeAt b (off+j*38) (fcells x q qc)from range_below hr hb))
      have i0:(0:Int)<=(j:Int)/\(j:Int) < (n:Int):=by omega
      clear hr0 hgd hx hxm hr hta hg4w
      subst hp
      go_upto_region 8 with fail
      go_cut [6,7] (fun s6 s7 wx=>∃(g6:Nat) (ht:Hds),s6= .pointer (some ⟨g6,0,none⟩)/\s7= .int .i64 er/\Hid (SBox wx g6 t ht)/\Hid (Below wr.heap.size wr wx)/\Hid (SApart wx t ht (· = g4)))
      case first=>
       go_region_held3 (fun w'=>Below wr.heap.size wr w'/\(loadOp 47 (.pointer (some ⟨g4,0,none⟩))).run Tryz.prog w'= .ok (.value (.agg (scells s hd).toArray)) w'/\(loadOp 28 (.pointer (some ⟨b,off+j*38,none⟩))).run Tryz.prog w'= .ok (.value (.agg (fcells x q qc).toArray)) w')
        (exact⟨by(repeat(first | exact Below.refl _ _ | assumption | exact Below.setRow (by assumption) (Nat.le_refl _) _ | refine below_drew0 ?_ | refine below_alloc0 ?_ _ | refine below_set0 ?_ _ _ _ (by first | exact Nat.le_refl _ | omega | (simp;omega)))),E1.out _ (by(repeat(first | exact Below.refl _ _ | assumption | exact Below.setRow (by assumption) (Nat.le_refl _) _ | refine below_drew0 ?_ | refine below_alloc0 ?_ _ | refine below_set0 ?_ _ _ _ (by first | exact Nat.le_refl _ | omega | (simp;omega))))),E2.out _ (by(repeat(first | exact Below.refl _ _ | assumption | exact Below.setRow (by assumption) (Nat.le_refl _) _ | refine below_drew0 ?_ | refine below_alloc0 ?_ _ | refine below_set0 ?_ _ _ _ (by first | exact Nat.le_refl _ | omega | (simp;omega)))))⟩)
        ((go_at_call 24;refine(HAP.out _ (by(repeat(first | exact Below.refl _ _ | assumption | exact Below.setRow (by assumption) (Nat.le_refl _) _ | refine below_drew0 ?_ | refine below_alloc0 ?_ _ | refine below_set0 ?_ _ _ _ (by first | exact Nat.le_refl _ | omega | (simp;omega)))))).mono ?_;rintro e w2 ⟨k,rfl,hg,hb,hav⟩;have hbw:Below wr.heap.size wr w2:=below_next (by(repeat(first | exact Below.refl _ _ | assumption | exact Below.setRow (by assumption) (Nat.le_refl _) _ | refine below_drew0 ?_ | refine below_alloc0 ?_ _ | refine below_set0 ?_ _ _ _ (by first | exact Nat.le_refl _ | omega | (simp;omega))))) hb;have e1:=E1.out _ hbw;have e2:=E2.out _ hbw;have HG2:=Lib.hid hg;have HA2:=Lib.hid hav;have HB2:=Lib.hid hb;have st:=store_ste1 w2 t k;try(have hz2:Blk w2 wr.heap.size (scells Ste.none Hds.none) 47:=(by first | exact Blk.below (Blk.drew (Blk.new wr (scells Ste.none Hds.none).toArray 47)) hb (by simp) | exact Blk.below (Blk.new wr.drew (scells Ste.none Hds.none).toArray 47) hb (by simp) | exact Blk.below (Blk.new wr (scells Ste.none Hds.none).toArray 47) hb (by simp));have HZ2:=Lib.hid hz2;have st2:=store_ste (s:=t) (h:=k) hz2;clear hz2);clear hg hav hb))
       all_goals go_wp2_with fail
       all_goals go_meet
       all_goals first
        | (refine⟨wr.heap.size,k,rfl,rfl,?_⟩
           have h1:=HA2.out.over (w':=w2.setRow wr.heap.size (scells t k).toArray) (G':=(· = g4)) (by simp) (fun i h1 h2=>setRow_other _ _ _ _ (fun e=>h2 (.inr ⟨by omega,by rw[e];simp,scells Ste.none Hds.none,by rw[e];exact HZ2.out⟩))) (fun k hk=>.inl hk)
           exact⟨Lib.hid ⟨HZ2.out.row _,h1.good⟩,Lib.hid (Below.setRow hbw (Nat.le_refl _) _),Lib.hid h1⟩)
        | (refine⟨w2.heap.size,k,rfl,rfl,?_⟩
           have h0:=(Below.refl w2.heap.size w2).alloc (Nat.le_refl _) (Obj.cells (scells t k).toArray 47)
           exact⟨Lib.hid ⟨Blk.new w2 (scells t k).toArray 47,HG2.out.below h0⟩,Lib.hid (below_alloc0 hbw _),Lib.hid (HA2.out.later h0 (fun k hk=>.inl (.inl hk)))⟩)
      case rest=>
       obtain⟨g6,ht,rfl,rfl,HX6,HB6,HAV6⟩:=hcut
       have X4:=Lib.hid (X.out.below HB6.out)
       have HA4:=Lib.hid (HAV.out.below HB6.out)
       have BC:=Lib.hid (below_next HBR.out HB6.out)
       clear HAP E1 E2 HFA X HGD HBK HAV HBR HB6
       by_cases hc:Fct.Can x
       ·have hap:s.apply x=(s.on x,0):=by unfold Ste.apply;rw[if_pos ((can_iff x).2 hc)]
        have hta:=HTA.out
        rw[hap]at hta
        simp only[Prod.mk.injEq]at hta
        obtain⟨hte,rfl⟩:=hta
        have HGR:=Lib.hid (show Grows s t by rw[hte];exact on_grows HSO.out HXO.out hc)
        have HSN:=Lib.hid (show Sound t by rw[hte];exact HSO.out.on HXO.out hc)
        have HFN:=Lib.hid (show(facts t).length<=2*(j+1) by rw[hte];have:=on_few s x;have:=HFW.out;omega)
        clear hap hte hc HTA HFW HXO
        go_upto_region 10 with fail
        go_cut [71] (fun c wx=>c= .bool false/\Hid (Below wc.heap.size wc wx))
        case first=>
         have ld6:=load_steB HX6.out.blk
         go_wp2_with fail
         refine(flists_any t ht wc HSN.out HX6.out.good).mono ?_
         rintro e w9 ⟨rfl,hb9⟩
         have c40:=(X4.out.below hb9).born
         have c60:=(HX6.out.below hb9).born
         have c41:=(X4.out.below hb9).boot
         have c61:=(HX6.out.below hb9).boot
         have c45:=(X4.out.below hb9).votes
         have c65:=(HX6.out.below hb9).votes
         have c46:=(X4.out.below hb9).decs
         have c66:=(HX6.out.below hb9).decs
         have d1:decide (t.boot < s.boot)=false:=decide_eq_false (by have:=HGR.out.boot;omega)
         have d2:decide (t.votes.length < s.votes.length)=false:=decide_eq_false (by have:=HGR.out.votes;omega)
         have d3:decide (t.decs.length < s.decs.length)=false:=decide_eq_false (by have:=HGR.out.decs;omega)
         have HB9:=Lib.hid hb9
         clear hb9 ld6
         cases hsb:s.born with
         | true=>
            have htb:t.born=true:=HGR.out.born hsb
            rw[hsb]at c40
            rw[htb]at c60
            clear hsb htb
            go_wp2_with fail
            go_meet
            exact⟨rfl,HB9⟩
         | false=>
            rw[hsb]at c40
            clear hsb
            go_wp2_with fail
            go_meet
            exact⟨rfl,HB9⟩
        case rest=>
         obtain⟨rfl,HB10⟩:=hcut
         rename World=>w10
         have X4':=Lib.hid (X4.out.below HB10.out)
         have X6':=Lib.hid (HX6.out.below HB10.out)
         have HA6':=Lib.hid (HAV6.out.below HB10.out)
         have B10:=Lib.hid (below_next BC.out HB10.out)
         clear X4 HX6 HAV6 HA4 BC HB10
         obtain⟨nv,hnv⟩:∃n,n=s.votes.length:=⟨_,rfl⟩
         have hfv:nv<=9223372036854775807:=by rw[hnv];exact len_fit X4'.out.good.v
         have NV:=Lib.hid hnv
         clear hnv
         go_wp2_with fail
         go_loopw [8] (fun i wr=>∃k:Nat,i= .int .i64 k/\k<=nv/\Hid (Below w10.heap.size w10 wr)) (fun i _=>nv - (intOf i).toNat)
         case atStart=>exact⟨0,rfl,by omega,Lib.hid (Below.refl _ _)⟩
         case round=>
          obtain⟨k,rfl,hk,HBR2⟩:=hrel
          have X:=Lib.hid (X4'.out.below HBR2.out)
          have Y:=Lib.hid (X6'.out.below HBR2.out)
          have cv:=X.out.votes
          rw[<-NV.out]at cv
          by_cases hlk:k < nv
          ·obtain⟨b2,off2,q2,c2,hp2,hr2,hgd2⟩:=X.out.good.v.rows.get k (by rw[<-NV.out];exact hlk)
           obtain⟨v,hv⟩:∃x,x=s.votes[k]'(by rw[<-NV.out];exact hlk):=⟨_,rfl⟩
           have hvm:v∈s.votes:=by rw[hv];exact List.getElem_mem _
           rw[<-hv]at hr2
           rw[hp2]at cv
           obtain⟨pv,hpv⟩:∃x,x=t.was v.S:=⟨_,rfl⟩
           have HG1:=Lib.hid (show more v.PN v.PO pv.PN pv.PO=false by rw[hpv];exact(HGR.out.vote v hvm).1)
           have HG2:=Lib.hid (show more v.AN v.AO pv.AN pv.AO=false by rw[hpv];exact(HGR.out.vote v hvm).2)
           have HG3:=Lib.hid (show more pv.AN pv.AO pv.PN pv.PO=false by rw[hpv];exact was_kept HGR.out HSN.out hvm HSO.out)
           have hR:∀W,Below wr.heap.size wr W->W.rangeAt b2 (off2+k*6) (vcells v q2 c2):=fun W hb=>range_below hr2 hb
           have C5:=Lib.hid (fun W (hb:Below wr.heap.size wr W)=>(hb.cell (World.block_lt_of_cell? _ _ cv)).trans cv)
           have CS:=Lib.hid (fun W (hb:Below wr.heap.size wr W)=>show W.cell? ⟨b2,off2+k*6,none⟩=some (.int .i64 v.S)from hR W hb 0 _ rfl)
           have HR:=Lib.hid hR
           have EL:=Lib.hid (fun W (hb:Below wr.heap.size wr W)=>load_steB (Y.out.below hb).blk)
           have HPR:=Lib.hid (fun W (hb:Below wr.heap.size wr W)=>show Calls Tryz.prog 39 #[.agg (scells t ht).toArray,.int .i64 v.S] W (PromDone pv W)from by rw[hpv];exact fpromise_any t ht v.S W HSN.out (Y.out.below hb).good)
           have i2:(0:Int)<=(k:Int)/\(k:Int) < (nv:Int):=by omega
           clear hr2 hgd2 hv hvm hR hp2 hpv
           go_upto_region 15 with fail
           go_cut [9,10] (fun s9 s10 wx=>∃g9 g10:Nat,s9= .pointer (some ⟨g9,0,none⟩)/\s10= .pointer (some ⟨g10,0,none⟩)/\Hid (Blk wx g9 [.int .i64 pv.PN,.int .i64 pv.PO] 23)/\Hid (Blk wx g10 [.int .i64 pv.AN,.int .i64 pv.AO] 23)/\Hid (Below wr.heap.size wr wx))
           case first=>
            go_region_held3 (fun w'=>Below wr.heap.size wr w'/\(loadOp 47 (.pointer (some ⟨g6,0,none⟩))).run Tryz.prog w'= .ok (.value (.agg (scells t ht).toArray)) w'/\w'.cell? ⟨g4,5,none⟩=some (.slice (some ⟨b2,off2,none⟩) nv hd.v.2.2)/\w'.cell? ⟨b2,off2+k*6,none⟩=some (.int .i64 v.S))
             (exact⟨by(repeat(first | exact Below.refl _ _ | assumption | exact Below.setRow (by assumption) (Nat.le_refl _) _ | refine below_drew0 ?_ | refine below_alloc0 ?_ _ | refine below_set0 ?_ _ _ _ (by first | exact Nat.le_refl _ | omega | (simp;omega)))),EL.out _ (by(repeat(first | exact Below.refl _ _ | assumption | exact Below.setRow (by assumption) (Nat.le_refl _) _ | refine below_drew0 ?_ | refine below_alloc0 ?_ _ | refine below_set0 ?_ _ _ _ (by first | exact Nat.le_refl _ | omega | (simp;omega))))),C5.out _ (by(repeat(first | exact Below.refl _ _ | assumption | exact Below.setRow (by assumption) (Nat.le_refl _) _ | refine below_drew0 ?_ | refine below_alloc0 ?_ _ | refine below_set0 ?_ _ _ _ (by first | exact Nat.le_refl _ | omega | (simp;omega))))),CS.out _ (by(repeat(first | exact Below.refl _ _ | assumption | exact Below.setRow (by assumption) (Nat.le_refl _) _ | refine below_drew0 ?_ | refine below_alloc0 ?_ _ | refine below_set0 ?_ _ _ _ (by first | exact Nat.le_refl _ | omega | (simp;omega)))))⟩)
             ((go_at_call 39;refine(HPR.out _ (by(repeat(first | exact Below.refl _ _ | assumption | exact Below.setRow (by assumption) (Nat.le_refl _) _ | refine below_drew0 ?_ | refine below_alloc0 ?_ _ | refine below_set0 ?_ _ _ _ (by first | exact Nat.le_refl _ | omega | (simp;omega)))))).mono ?_;rintro e w2 ⟨rfl,hb⟩;have hbw:Below wr.heap.size wr w2:=below_next (by(repeat(first | exact Below.refl _ _ | assumption | exact Below.setRow (by assumption) (Nat.le_refl _) _ | refine below_drew0 ?_ | refine below_alloc0 ?_ _ | refine below_set0 ?_ _ _ _ (by first | exact Nat.le_refl _ | omega | (simp;omega))))) hb;have e1:=EL.out _ hbw;have e2:=C5.out _ hbw;have e3:=CS.out _ hbw;have HB2:=Lib.hid hb;have hz:=hbw.size;(first
               | (have hq1:Blk w2 wr.heap.size [.int .i64 0,.int .i64 0] 23:=(by first | exact Blk.below (Blk.drew (Blk.new wr #[.int .i64 0,.int .i64 0] 23)) hb (by first | (simp;done) | (simp;omega)) | exact Blk.below (Blk.new wr.drew #[.int .i64 0,.int .i64 0] 23) hb (by first | (simp;done) | (simp;omega)) | exact Blk.below (Blk.drew (Blk.old (Blk.new wr #[.int .i64 0,.int .i64 0] 23) (Obj.cells #[.int .i64 0,.int .i64 0] 23))) hb (by first | (simp;done) | (simp;omega)) | exact Blk.below (Blk.old (Blk.new wr.drew #[.int .i64 0,.int .i64 0] 23) (Obj.cells #[.int .i64 0,.int .i64 0] 23)) hb (by first | (simp;done) | (simp;omega)));have q10:=hq1.cell 0;have q11:=hq1.cell 1;have q1f:=hq1.free 0;have q1g:=hq1.free 1;have r10:=fun o=>(hq1.old o).cell 0;have r11:=fun o=>(hq1.old o).cell 1;have r1f:=fun o=>(hq1.old o).free 0;have r1g:=fun o=>(hq1.old o).free 1;have hlt1:wr.heap.size < w2.heap.size:=hq1.lt;have hn1:¬w2.heap.size=wr.heap.size:=Nat.ne_of_gt hlt1;have hn2:¬wr.heap.size=w2.heap.size:=Nat.ne_of_lt hlt1;clear hlt1;have HQ1:=Lib.hid hq1;clear hq1)
               | skip);(first
                | (have hq2:Blk w2 (wr.heap.size+1) [.int .i64 0,.int .i64 0] 23:=(by first | exact Blk.below (Blk.drew (by have hq:=Blk.new (wr.alloc (Obj.cells #[.int .i64 0,.int .i64 0] 23)) #[.int .i64 0,.int .i64 0] 23;rw[World.size_alloc]at hq;exact hq)) hb (by first | (simp;done) | (simp;omega)) | exact Blk.below (show Blk _ (wr.heap.size+1) [.int .i64 0,.int .i64 0] 23 from by have hq:=Blk.new (wr.drew.alloc (Obj.cells #[.int .i64 0,.int .i64 0] 23)) #[.int .i64 0,.int .i64 0] 23;rw[World.size_alloc]at hq;exact hq) hb (by first | (simp;done) | (simp;omega)));have q20:=hq2.cell 0;have q21:=hq2.cell 1;have q2f:=hq2.free 0;have q2g:=hq2.free 1;have HQ2:=Lib.hid hq2;clear hq2)
                | skip);clear hb))
            ·go_wp2_with fail
             go_meet
             refine⟨_,_,rfl,rfl,?_,?_,?_⟩
             ·exact Lib.hid ((Blk.new w2 #[.int .i64 pv.PN,.int .i64 pv.PO] 23).old _)
             ·exact Lib.hid ((by have h:=Blk.new (w2.alloc (Obj.cells #[.int .i64 pv.PN,.int .i64 pv.PO] 23)) #[.int .i64 pv.AN,.int .i64 pv.AO] 23;rw[World.size_alloc]at h;exact h))
             ·exact Lib.hid (by(repeat(first | exact Below.refl _ _ | assumption | exact Below.setRow (by assumption) (Nat.le_refl _) _ | refine below_drew0 ?_ | refine below_alloc0 ?_ _ | refine below_set0 ?_ _ _ _ (by first | exact Nat.le_refl _ | omega | (simp;omega)))))
            ·go_wp2_with fail
             go_meet
             refine⟨_,_,rfl,rfl,?_,?_,?_⟩
             ·exact Lib.hid ((by have h:=Blk.new (w2.alloc (Obj.cells #[.int .i64 pv.AN,.int .i64 pv.AO] 23)) #[.int .i64 pv.PN,.int .i64 pv.PO] 23;rw[World.size_alloc]at h;exact h))
             ·exact Lib.hid ((Blk.new w2 #[.int .i64 pv.AN,.int .i64 pv.AO] 23).old _)
             ·exact Lib.hid (by(repeat(first | exact Below.refl _ _ | assumption | exact Below.setRow (by assumption) (Nat.le_refl _) _ | refine below_drew0 ?_ | refine below_alloc0 ?_ _ | refine below_set0 ?_ _ _ _ (by first | exact Nat.le_refl _ | omega | (simp;omega)))))
            ·go_wp2_with fail
             go_meet
             refine⟨_,_,rfl,rfl,?_,?_,?_⟩
             ·exact Lib.hid (((((HQ1.out.old _).set 0 (.int .i64 pv.PN)).set 1 (.int .i64 pv.PO)).setOther ⟨w2.heap.size,0,none⟩ (.int .i64 pv.AN) (by first | (simp;done) | (simp;omega) | omega)).setOther ⟨w2.heap.size,1,none⟩ (.int .i64 pv.AO) (by first | (simp;done) | (simp;omega) | omega))
             ·exact Lib.hid (((((Blk.new w2 #[.int .i64 0,.int .i64 0] 23).setOther ⟨wr.heap.size,0,none⟩ (.int .i64 pv.PN) (by first | (simp;done) | (simp;omega) | omega)).setOther ⟨wr.heap.size,1,none⟩ (.int .i64 pv.PO) (by first | (simp;done) | (simp;omega) | omega)).set 0 (.int .i64 pv.AN)).set 1 (.int .i64 pv.AO))
             ·exact Lib.hid (by(repeat(first | exact Below.refl _ _ | assumption | exact Below.setRow (by assumption) (Nat.le_refl _) _ | refine below_drew0 ?_ | refine below_alloc0 ?_ _ | refine below_set0 ?_ _ _ _ (by first | exact Nat.le_refl _ | omega | (simp;omega)))))
            ·go_wp2_with fail
             go_meet
             refine⟨_,_,rfl,rfl,?_,?_,?_⟩
             ·exact Lib.hid (((((HQ1.out).set 0 (.int .i64 pv.PN)).set 1 (.int .i64 pv.PO)).setOther ⟨(wr.heap.size+1),0,none⟩ (.int .i64 pv.AN) (by first | (simp;done) | (simp;omega) | omega)).setOther ⟨(wr.heap.size+1),1,none⟩ (.int .i64 pv.AO) (by first | (simp;done) | (simp;omega) | omega))
             ·exact Lib.hid (((((HQ2.out).setOther ⟨wr.heap.size,0,none⟩ (.int .i64 pv.PN) (by first | (simp;done) | (simp;omega) | omega)).setOther ⟨wr.heap.size,1,none⟩ (.int .i64 pv.PO) (by first | (simp;done) | (simp;omega) | omega)).set 0 (.int .i64 pv.AN)).set 1 (.int .i64 pv.AO))
             ·exact Lib.hid (by(repeat(first | exact Below.refl _ _ | assumption | exact Below.setRow (by assumption) (Nat.le_refl _) _ | refine below_drew0 ?_ | refine below_alloc0 ?_ _ | refine below_set0 ?_ _ _ _ (by first | exact Nat.le_refl _ | omega | (simp;omega)))))
            ·go_wp2_with fail
             go_meet
             refine⟨_,_,rfl,rfl,?_,?_,?_⟩
             ·exact Lib.hid (((Blk.new w2 #[.int .i64 pv.PN,.int .i64 pv.PO] 23).setOther ⟨wr.heap.size,0,none⟩ (.int .i64 pv.AN) (by first | (simp;done) | (simp;omega) | omega)).setOther ⟨wr.heap.size,1,none⟩ (.int .i64 pv.AO) (by first | (simp;done) | (simp;omega) | omega))
             ·exact Lib.hid (((HQ1.out.old _).set 0 (.int .i64 pv.AN)).set 1 (.int .i64 pv.AO))
             ·exact Lib.hid (by(repeat(first | exact Below.refl _ _ | assumption | exact Below.setRow (by assumption) (Nat.le_refl _) _ | refine below_drew0 ?_ | refine below_alloc0 ?_ _ | refine below_set0 ?_ _ _ _ (by first | exact Nat.le_refl _ | omega | (simp;omega)))))
            ·go_wp2_with fail
             go_meet
             refine⟨_,_,rfl,rfl,?_,?_,?_⟩
             ·exact Lib.hid (((((HQ2.out).set 0 (.int .i64 pv.PN)).set 1 (.int .i64 pv.PO)).setOther ⟨wr.heap.size,0,none⟩ (.int .i64 pv.AN) (by first | (simp;done) | (simp;omega) | omega)).setOther ⟨wr.heap.size,1,none⟩ (.int .i64 pv.AO) (by first | (simp;done) | (simp;omega) | omega))
             ·exact Lib.hid (((((HQ1.out).setOther ⟨(wr.heap.size+1),0,none⟩ (.int .i64 pv.PN) (by first | (simp;done) | (simp;omega) | omega)).setOther ⟨(wr.heap.size+1),1,none⟩ (.int .i64 pv.PO) (by first | (simp;done) | (simp;omega) | omega)).set 0 (.int .i64 pv.AN)).set 1 (.int .i64 pv.AO))
             ·exact Lib.hid (by(repeat(first | exact Below.refl _ _ | assumption | exact Below.setRow (by assumption) (Nat.le_refl _) _ | refine below_drew0 ?_ | refine below_alloc0 ?_ _ | refine below_set0 ?_ _ _ _ (by first | exact Nat.le_refl _ | omega | (simp;omega)))))
           case rest=>
            obtain⟨g9,g10,rfl,rfl,K9,K10,HB15⟩:=hcut
            rename World=>wd
            obtain⟨I,W,hC⟩:=cls_of wd
            have hne:Nonempty I:=hC.ne
            have c5:=hC.cell (C5.out wd HB15.out)
            have p0:=hC.cell (K9.out.cell 0)
            have p1:=hC.cell (K9.out.cell 1)
            have a0:=hC.cell (K10.out.cell 0)
            have a1:=hC.cell (K10.out.cell 1)
            have v1:=hC.cell (show wd.cell? ⟨b2,off2+k*6+1,none⟩=some (.int .i64 v.PN)from HR.out wd HB15.out 1 _ rfl)
            have v2:=hC.cell (show wd.cell? ⟨b2,off2+k*6+2,none⟩=some (.int .i64 v.PO)from HR.out wd HB15.out 2 _ rfl)
            have v3:=hC.cell (show wd.cell? ⟨b2,off2+k*6+3,none⟩=some (.int .i64 v.AN)from HR.out wd HB15.out 3 _ rfl)
            have v4:=hC.cell (show wd.cell? ⟨b2,off2+k*6+4,none⟩=some (.int .i64 v.AO)from HR.out wd HB15.out 4 _ rfl)
            have Q1:=Lib.hid (hC.call (P:=Tryz.prog) (f:=40) (args:=#[.agg #[.int .i64 pv.PN,.int .i64 pv.PO],.agg #[.int .i64 v.PN,.int .i64 v.PO]]) (v:=.bool false) (fun w' hb=>by have h1:=fbelow_any pv.PN pv.PO v.PN v.PO w';rw[HG1.out]at h1;exact h1))
            have Q2:=Lib.hid (hC.call (P:=Tryz.prog) (f:=40) (args:=#[.agg #[.int .i64 pv.AN,.int .i64 pv.AO],.agg #[.int .i64 v.AN,.int .i64 v.AO]]) (v:=.bool false) (fun w' hb=>by have h1:=fbelow_any pv.AN pv.AO v.AN v.AO w';rw[HG2.out]at h1;exact h1))
            have Q3:=Lib.hid (hC.call (P:=Tryz.prog) (f:=40) (args:=#[.agg #[.int .i64 pv.PN,.int .i64 pv.PO],.agg #[.int .i64 pv.AN,.int .i64 pv.AO]]) (v:=.bool false) (fun w' hb=>by have h1:=fbelow_any pv.PN pv.PO pv.AN pv.AO w';rw[HG3.out]at h1;exact h1))
            have HC:=Lib.hid hC
            clear hC C5 CS EL HPR HG1 HG2 HG3 K9 K10
            go_upto_region 16 with fail
            refine wp_region_cls W (by kernel_rfl) (by kernel_rfl) HC.out.one ?_
            repeat go_big_quiet_step (fail)
            go_big_quiet_step ((go_at_call 40;exact Q1.out _))
            repeat go_big_quiet_step (fail)
            go_big_quiet_step ((go_at_call 40;exact Q2.out _))
            repeat go_big_quiet_step (fail)
            go_big_quiet_step ((go_at_call 40;exact Q3.out _))
            repeat go_big_quiet_step (fail)
            refine wpQuiet_nil ?_
            rintro _ ⟨nq,rfl⟩
            clear c5 p0 p1 a0 a1 v1 v2 v3 v4 cv
            go_wp2_with fail
            go_roundw
            case rel=>exact⟨k+1,by go_num,by omega,Lib.hid (HBR2.out.trans (HB15.out.trans ((HC.out.back nq).mono HB15.out.size) |>.mono HBR2.out.size))⟩
            case measure=>simp[intOf];omega
          ·obtain rfl:k=nv:=by omega
           have X11:=Lib.hid X.out
           have Y11:=Lib.hid Y.out
           have HA11:=Lib.hid (HA6'.out.below HBR2.out)
           have B11:=Lib.hid (below_next B10.out HBR2.out)
           obtain⟨nd,hnd⟩:∃n,n=s.decs.length:=⟨_,rfl⟩
           obtain⟨nt,hnt⟩:∃n,n=t.decs.length:=⟨_,rfl⟩
           have hfd:nd<=9223372036854775807:=by rw[hnd];exact len_fit X.out.good.d
           have hft:nt<=9223372036854775807:=by rw[hnt];exact len_fit Y.out.good.d
           have ND:=Lib.hid hnd
           have NT:=Lib.hid hnt
           clear hnd hnt X Y HA6' B10 X4' X6' hlk hk
           go_wp2_with fail
           clear cv HBR2
           obtain⟨w11,hw⟩:∃x,x=wr:=⟨_,rfl⟩
           rw[<-hw]at X11 Y11 HA11 B11 ⊢
           clear hw
           go_loopw [11] (fun i wr=>∃k:Nat,i= .int .i64 k/\k<=nd/\Hid (Below w11.heap.size w11 wr)) (fun i _=>nd - (intOf i).toNat)
           case atStart=>exact⟨0,rfl,by omega,Lib.hid (Below.refl _ _)⟩
           case round=>
            obtain⟨k,rfl,hk,HBR3⟩:=hrel
            have X:=Lib.hid (X11.out.below HBR3.out)
            have Y:=Lib.hid (Y11.out.below HBR3.out)
            have cv:=X.out.decs
            rw[<-ND.out]at cv
            by_cases hlk:k < nd
            ·obtain⟨b3,off3,q3,c3,hp3,hr3,hgd3⟩:=X.out.good.d.rows.get k (by rw[<-ND.out];exact hlk)
             obtain⟨d,hd_⟩:∃x,x=s.decs[k]'(by rw[<-ND.out];exact hlk):=⟨_,rfl⟩
             have HDM:=Lib.hid (HGR.out.dec d (by rw[hd_];exact List.getElem_mem _))
             rw[<-hd_]at hr3 hgd3
             rw[hp3]at cv
             have HR3:=Lib.hid (show wr.rangeAt b3 (off3+k*2) (dcells9 d q3 c3)from hr3)
             have HGD3:=Lib.hid hgd3
             have i3:(0:Int)<=(k:Int)/\(k:Int) < (nd:Int):=by omega
             clear hr3 hgd3 hd_ hp3
             go_wp2_with fail
             obtain⟨w12,hw⟩:∃x,x=wr:=⟨_,rfl⟩
             rw[<-hw]at X Y cv HR3 HGD3 HBR3 ⊢
             clear hw
             go_loopw [12,13] (fun st i wr=>∃(m:Nat) (b:Bool),st= .bool b/\i= .int .i64 m/\m<=nt/\Hid (b=decide (∃y∈t.decs.take m,y.1=d.1))/\Hid (Below w12.heap.size w12 wr)) (fun _ i _=>nt - (intOf i).toNat)
             case atStart=>exact⟨0,false,rfl,rfl,by omega,Lib.hid (by simp),Lib.hid (Below.refl _ _)⟩
             case round=>
              obtain⟨m,bo,rfl,rfl,hm,HBO,HBR4⟩:=hrel
              have Y4:=Lib.hid (Y.out.below HBR4.out)
              have ct:=Y4.out.decs
              rw[<-NT.out]at ct
              by_cases hlm:m < nt
              ·obtain⟨b4,off4,q4,c4,hp4,hr4,hgd4⟩:=Y4.out.good.d.rows.get m (by rw[<-NT.out];exact hlm)
               obtain⟨y,hy⟩:∃x,x=t.decs[m]'(by rw[<-NT.out];exact hlm):=⟨_,rfl⟩
               have HYM:=Lib.hid (show y∈t.decs by rw[hy];exact List.getElem_mem _)
               rw[<-hy]at hr4 hgd4
               rw[hp4]at ct
               have HTK:=Lib.hid (show(∃z∈t.decs.take (m+1),z.1=d.1)↔(∃z∈t.decs.take m,z.1=d.1)\/y.1=d.1 by
                rw[List.take_succ_eq_append_getElem (by rw[<-NT.out];exact hlm),<-hy]
                constructor
                ·rintro⟨z,hz,e⟩
                 rcases List.mem_append.1 hz with hz | hz
                 ·exact .inl ⟨z,hz,e⟩
                 ·rw[List.mem_singleton.1 hz]at e;exact .inr e
                ·rintro(⟨z,hz,e⟩ | e)
                 ·exact⟨z,List.mem_append_left _ hz,e⟩
                 ·exact⟨y,List.mem_append_right _ (List.mem_singleton.2 rfl),e⟩)
               obtain⟨I,W,hC⟩:=cls_of wr
               have hne:Nonempty I:=hC.ne
               have k5:=hC.cell ct
               have k6:=hC.cell ((HBR4.out.cell (World.block_lt_of_cell? _ _ cv)).trans cv)
               have hrd:=range_below HR3.out HBR4.out
               have hry:wr.rangeAt b4 (off4+m*2) (dcells9 y q4 c4):=hr4
               obtain⟨my,hmy⟩:∃n,n=y.2.length:=⟨_,rfl⟩
               obtain⟨md,hmd⟩:∃n,n=d.2.length:=⟨_,rfl⟩
               have y0:=hC.cell (show wr.cell? ⟨b4,off4+m*2,none⟩=some (.int .i64 y.1)from hry 0 _ rfl)
               have y1:=hC.cell (show wr.cell? ⟨b4,off4+m*2+1,none⟩=some (.slice q4 my c4)from by rw[hmy];exact hry 1 _ rfl)
               have z0:=hC.cell (show wr.cell? ⟨b3,off3+k*2,none⟩=some (.int .i64 d.1)from hrd 0 _ rfl)
               have z1:=hC.cell (show wr.cell? ⟨b3,off3+k*2+1,none⟩=some (.slice q3 md c3)from by rw[hmd];exact hrd 1 _ rfl)
               have HC:=Lib.hid hC
               have HG4':=Lib.hid hgd4
               have HMY:=Lib.hid hmy
               have HMD:=Lib.hid hmd
               have i4:(0:Int)<=(m:Int)/\(m:Int) < (nt:Int):=by omega
               clear hp4 hr4 hgd4 hy hrd hry hC hmy hmd
               cases bo with
               | true=>
                  have HEX:=Lib.hid (of_decide_eq_true HBO.out.symm)
                  go_upto_region 25 with fail
                  refine wp_region_cls W (by kernel_rfl) (by kernel_rfl) HC.out.one ?_
                  repeat go_big_quiet_step (fail)
                  refine wpQuiet_nil ?_
                  rintro _ ⟨nq,rfl⟩
                  clear k5 k6 y0 y1 z0 z1 ct
                  go_wp2_with fail
                  go_roundw
                  case rel=>exact⟨m+1,true,rfl,by go_num,by omega,Lib.hid (decide_eq_true (HTK.out.2 (.inl HEX.out))).symm,Lib.hid (HBR4.out.trans ((HC.out.back nq).mono HBR4.out.size))⟩
                  case measure=>simp[intOf];omega
               | false=>
                  have HNE:=Lib.hid (of_decide_eq_false HBO.out.symm)
                  by_cases hyd:y.1=d.1
                  ·have t0:(y.1 == d.1)=true:=by rw[beq_iff_eq];exact hyd
                   have HYD:=Lib.hid hyd
                   have heq:y=d:=HSN.out.decsUp.inj ilt_ord HYM.out HDM.out hyd
                   have QS:=Lib.hid (HC.out.call (P:=Tryz.prog) (f:=14) (args:=#[.slice q4 my c4,.slice q3 md c3]) (v:=.bool true) (fun w' hb=>by
                    have h1:=same_true y.2 my md q4 q3 c4 c3 w' HMY.out.symm (by rw[heq];exact HMD.out.symm) (HG4'.out.at_.below hb) (by rw[heq];exact(HGD3.out.at_.below HBR4.out).below hb) HG4'.out.ok.2
                    exact h1.mono fun e w'' ⟨he,hw⟩=>⟨he,by rw[<-hw];exact Below.refl _ _⟩))
                   clear hyd heq
                   go_upto_region 25 with fail
                   refine wp_region_cls W (by kernel_rfl) (by kernel_rfl) HC.out.one ?_
                   repeat go_big_quiet_step (fail)
                   go_big_quiet_step ((go_at_call 14;exact QS.out _))
                   repeat go_big_quiet_step (fail)
                   refine wpQuiet_nil ?_
                   rintro _ ⟨nq,rfl⟩
                   clear k5 k6 y0 y1 z0 z1 ct t0
                   go_wp2_with fail
                   go_roundw
                   case rel=>exact⟨m+1,true,rfl,by go_num,by omega,Lib.hid (decide_eq_true (HTK.out.2 (.inr HYD.out))).symm,Lib.hid (HBR4.out.trans ((HC.out.back nq).mono HBR4.out.size))⟩
                   case measure=>simp[intOf];omega
                  ·have t0:(y.1 == d.1)=false:=by rw[beq_eq_false_iff_ne];exact hyd
                   have HYD:=Lib.hid hyd
                   clear hyd
                   go_upto_region 25 with fail
                   refine wp_region_cls W (by kernel_rfl) (by kernel_rfl) HC.out.one ?_
                   repeat go_big_quiet_step (fail)
                   refine wpQuiet_nil ?_
                   rintro _ ⟨nq,rfl⟩
                   clear k5 k6 y0 y1 z0 z1 ct t0
                   go_wp2_with fail
                   go_roundw
                   case rel=>exact⟨m+1,false,rfl,by go_num,by omega,Lib.hid (decide_eq_false (fun e=>by rcases HTK.out.1 e with h' | h';exact HNE.out h';exact HYD.out h')).symm,Lib.hid (HBR4.out.trans ((HC.out.back nq).mono HBR4.out.size))⟩
                   case measure=>simp[intOf];omega
              ·obtain rfl:m=nt:=by omega
               have hbt:bo=true:=by
                rw[HBO.out]
                exact decide_eq_true ⟨d,by rw[List.take_of_length_le (by rw[<-NT.out];exact Nat.le_refl _)];exact HDM.out,rfl⟩
               subst hbt
               go_wp2_with fail
               go_roundw
               case rel=>exact⟨k+1,by go_num,by omega,Lib.hid (HBR3.out.trans (HBR4.out.mono HBR3.out.size))⟩
               case measure=>simp[intOf];omega
            ·obtain rfl:k=nd:=by omega
             have ld:=load_steB Y.out.blk
             have st:=store_ste (s:=t) (h:=ht) X.out.blk
             have BR:=Lib.hid (below_next B11.out HBR3.out)
             have HAR:=Lib.hid (HA11.out.below HBR3.out)
             have hgg:w1.heap.size<=g4:=by have:=HG4.out;omega
             go_wp2_with fail
             go_roundw
             case rel=>exact⟨j+1,t,ht,by go_num,by omega,HSN,HFN,Lib.hid (X.out.blk.row _),Lib.hid (HAR.out.over (by simp) (fun i h1 h2=>setRow_other _ _ _ _ h2) (fun _ h=>h)),Lib.hid (Below.setRow BR.out hgg _)⟩
             case measure=>simp[intOf];omega
       ·have hap:s.apply x=(Ste.none,2):=by unfold Ste.apply;rw[if_neg (fun e=>hc ((can_iff x).1 e))]
        have hta:=HTA.out
        rw[hap]at hta
        simp only[Prod.mk.injEq]at hta
        obtain⟨rfl,rfl⟩:=hta
        clear hap hc HTA
        go_wp2_with fail
        go_roundw
        case rel=>exact⟨j+1,s,hd,by go_num,by omega,HSO,Lib.hid (by have:=HFW.out;omega),Lib.hid X4.out.blk,HA4,BC⟩
        case measure=>simp[intOf];omega
     ·obtain rfl:j=n:=by omega
      go_wp2_with fail
      go_ret
      exact⟨rfl,below_next B1.out HBR.out⟩
end
section
open Go.RowKit Sha Fct
theorem factGrows_law (l:List Fac)(n:Nat)(p:Option Addr)(c:Nat)(w:World)(h:sF.Told w p n c l):
 Calls Tryz.prog 8 #[.slice p n c] w fun e w'=>e= .returned (.bool true)/\Below w.heap.size w w':=fgrows_any factStep l p n c w h
end
section
open Go.ChangeShapes Go.WideShapes Go.ChangeAt Go.RowKit
section
variable {H:Type} {enc:TypeId×Value->H} {P:Program}
theorem trodAll_carry {W W':World}(hl:laidOutB P=true)(hb:Below W.heap.size W W'):
 ∀{ts:List TypeId} {vs:List Value} {ds:List (DataW H)} {ps:List MemPlace},DataW.TrodAll enc P W 0 (fun _=>true) true ts vs ds ps->(∀t∈ts,P.readableRec t=true/\t < P.types.size)->(∀x∈ps,x.block < W.heap.size)->
  DataW.TrodAll enc P W' 0 (fun b=>decide (b < W.heap.size)) true ts vs ds ps
 | [],vs,ds,ps,h,_,_=>by
    obtain⟨rfl,rfl,rfl⟩:=trodAll_nil h
    exact trodAll_mk0
 | t::ts,vs,ds,ps,h,hr,hp=>by
    obtain⟨v,vs',d,ds',p,p',rfl,rfl,rfl,h1,h2⟩:=trodAll_cons h
    exact⟨p,p',Below.trod hl (hr t (by simp)).1 (hr t (by simp)).2 h1 hb (fun x hx=>hp x (by simp[hx])),trodAll_carry hl hb h2 (fun t ht=>hr t (by simp[ht])) (fun x hx=>hp x (by simp[hx])),rfl⟩
theorem law_post {f:Func} {s:ChangeSpec} {W W':World} {args:Array Value} {ds:List (DataW H)} {before:List MemPlace} {tb:TypeId}
 (hW:DataW.Whole enc P f.params.toList s.vars false W args.toList ds [] before) (hv:s.vars= []) (hfn:s.fn H (ds++[])= {results:=[.lit (.bool true)],args:=ds})
 (hr:f.resultTypes=#[tb]) (hu:P.underlying tb=some .bool) (hl:laidOutB P=true) (hps:∀t∈f.params.toList,P.readableRec t=true/\t < P.types.size) (hb:Below W.heap.size W W'):
 s.post enc P f false true false false W args (.bool true) W':=by
 have hlt:∀p∈before,p.block < W.heap.size:=fun p hp=>hW.lt p hp
 have hW2:=hW
 obtain⟨p,q,hA,hV,hbe,_,_⟩:=hW2
 rw[hv]at hV
 obtain⟨_,hq⟩:=trodVars_none hV
 have hbp:before=p:=by rw[hbe,hq,List.append_nil]
 refine⟨ds,[],before,[],p,[],hW,?_,?_,?_,?_,fun h=>by cases h⟩
 ·rw[hr,hfn]
  exact trodAll_mk1 (shut_bool hu true)
 ·rw[hfn]
  exact trodAll_carry hl hb hA hps (fun x hx=>hlt x (by rw[hbp];exact hx))
 ·rw[hv,hfn];rfl
 ·refine World.keptBut_mono (fun x hx=>⟨hx,?_⟩) (hb.frame (· ∈before))
  right;left
  rw[<-hbp];exact hx
end
end
section
open Go.ChangeShapes Go.WideShapes Go.ChangeAt Go.RowKit
theorem Tryz.own:ownKnob Tryz.prog.godebug=none:=by kernel_rfl
theorem Tryz.laidOut:laidOutB Tryz.prog=true:=by kernel_rfl
section
variable {H:Type} {enc:TypeId×Value->H} {P:Program} {w:World} {base:Nat} {spare:Nat->Bool} {held:Bool}
end
end
section
open Go.ChangeShapes Go.WideShapes Go.ChangeAt Go.RowKit Sha
section
variable {H:Type} {enc:TypeId×Value->H} {P:Program} {w:World} {base:Nat} {spare:Nat->Bool} {held:Bool}
theorem cells_bytesl {t e:TypeId} {fuel:Nat} {cs:List Value} {x:DataW H×List MemPlace}(ht:P.underlying t=some (.slice e))(he:P.underlying e=some (.int .u8))(hc:P.cellsOf e=1)
 (hf:DataW.trod enc P w base spare held fuel t cs=some x):
 ∃(q:Option Addr) (xs:List Int) (cap:Nat),cs= [.slice q xs.length cap]/\At w q (xs.map v8)/\xs.length<=cap/\cap<=maxLen/\(q=none->cap=0)/\(∀n∈xs,0<=n/\n<=255):=by
 rcases open_ints ht he hc hf with⟨hcs,hx⟩ | ⟨a,len,cap,zs,hcs,_,hl,hm,hz,hx,hcell,hwz⟩
 ·exact⟨none,[],0,hcs,At.nil _ _,Nat.le_refl _,by simp[maxLen],fun _=>rfl,by simp⟩
 ·have hzl:len<=zs.length:=by rw[hz];split<;>omega
  have hlen:(zs.take len).length=len:=by simp;omega
  refine⟨some a,zs.take len,cap,by rw[hlen];exact hcs,?_,by rw[hlen];exact hl,hm,(fun h=>by cases h),fun n hn=>bounds_u8 (hwz n (List.mem_of_mem_take hn))⟩
  by_cases h0:len=0
  ·subst h0;simp;exact At.nil _ _
  ·have h1:=hcell 0 (by omega)
   have hsp:a.spot=none:=by
    have:a.add 0=a:=by simp[Addr.add]
    rw[this]at h1
    cases hs:a.spot with
    | none=>rfl
    | some s=>
       unfold World.cell? at h1
       split at h1
       ·simp[hs]at h1
       ·cases h1
   obtain⟨b,off,sp⟩:=a
   simp only at hsp
   subst hsp
   refine Or.inr ⟨b,off,rfl,fun i v hi=>?_⟩
   rw[List.getElem?_map]at hi
   rcases Nat.lt_or_ge i len with hlt | hge
   ·rw[List.getElem?_take,if_pos hlt,List.getElem?_eq_getElem (by omega)]at hi
    simp at hi
    subst hi
    have:=hcell i (by omega)
    rw[Addr.add_mid]at this
    rw[this];simp[v8,List.getElem?_eq_getElem (show i < zs.length by omega)]
   ·rw[List.getElem?_eq_none (by simp;omega)]at hi;cases hi
end
end
end Go.Proofs.YtokpabkcaofahaaGreat
