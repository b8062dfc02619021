/-
  What stands under factPuts_holds: part 25.
-/
import Derived.Test.YtokpabkcaofahaaGreatPp24
import Derived.RangeFuncNested
import Derived.Test.YtokpabkcaofahaaGreatPp1
import Derived.Deep.QuietTactic
import Derived.BigQuiet
import Derived.BigRegion
import Derived.LaidEql
import Derived.RangeFuncBound
import Derived.RangeFuncBox
import Derived.RangeFuncCalls
import Derived.RangeFuncLeaves
import Derived.Shelf.Abstract
import Derived.Shelf.RegionOpen
import Derived.WalkKit
import Derived.OwnWalkIn
import Derived.TacticsInMore
import Derived.LoopNIn
import Derived.LoopIn
import Derived.Maps.AppendAt
import Derived.Stop.RegionWithIn
import Derived.Sort.BigQuietIn
import Derived.Test.YtokpabkcaofahaaGreatPp6
import Derived.Test.YtokpabkcaofahaaGreatPp8
namespace Go.Proofs.YtokpabkcaofahaaGreat
set_option linter.unusedSimpArgs false
set_option linter.unusedVariables false
set_option maxRecDepth 100000
set_option maxHeartbeats 20000000
section
open Go.RowKit Sha Fct
attribute [local go_sem ↓] execOp_boxFact execOp_loadFact execOp_loadId zu Zm
theorem Z3 {s:Ste}(hup:Rise.Up bkey Sha.less s.blobs)(hok:∀x∈s.blobs,idOk x.1) {d:Fct.Id}(hd:idOk d):Rise.found bkey Sha.less d s.blobs=hasB s d:=by
 cases hf:Rise.found bkey Sha.less d s.blobs with
 | true=>
    obtain⟨h1,h2⟩:=(Rise.found_iff (key:=bkey) (lt:=Sha.less) d s.blobs).1 hf
    exact((hasB_iff s d).2 ⟨_,List.getElem_mem h1,h2⟩).symm
 | false=>
    have hno:=Rise.found_no hf
    cases hb:hasB s d with
    | false=>rfl
    | true=>
       obtain⟨x,hx,rfl⟩:=(hasB_iff s d).1 hb
       have:=Rise.Up.look_of id_ord hup (y:=x) hx
       rw[show Rise.look bkey Sha.less (bkey x) s.blobs=none from hno]at this;cases this
theorem good0 {V:Type} {S:Shp V}(w:World) {x:V}(h:S.ok x)(hb:S.byt x= []):S.Good w x none 0/\U8 w none (S.byt x):=
 ⟨⟨h,by rw[hb];exact Or.inl rfl,by rw[hb];exact qD _,by omega,fun _=>rfl⟩,Or.inl hb⟩
structure RfB (w w2:World)(B g gf:Nat)(s:Ste)(r:Rows9)(f:Fac)(q:Option Addr)(c:Nat):Prop where
 below:Below w.heap.size w w2
 so:StO w2 B g s r
 fb:Blk w2 gf (fcells f q c) 28
theorem RfB.drew {w w2:World} {B g gf:Nat} {s:Ste} {r:Rows9} {f:Fac} {q:Option Addr} {c:Nat}(h:RfB w w2 B g gf s r f q c):RfB w w2.drew B g gf s r f q c:=⟨h.below.drew,h.so.below (qB _ _).drew,h.fb⟩
theorem yr (w:World)(B g:Nat)(s:Ste)(r:Rows9)(f:Fac)(q:Option Addr)(c:Nat)(h:StO w B g s r)(hf:f.K=4\/f.K=5)(hok:sF.ok f)(hd:idOk f.D)(hup:Rise.Up bkey Sha.less s.blobs)(hup1:Rise.Up id klt s.keeps)(hup2:Rise.Up id hlt s.hints)(hn:r.yb.length<=1000000000)(hn1:r.yk.length<=1000000000)(hn2:r.yh.length<=1000000000)(hB:B<=w.heap.size):
 Calls Tryz.prog 130 #[.pointer (some ⟨g,0,none⟩),.agg (fcells f q c).toArray] w (StOP B g (fun _=>False) (s.on f) w):=by
 obtain⟨pb,cb,hvb,htb⟩:=h.b.told
 obtain⟨pk,ck,hvk,_⟩:=h.k.told
 obtain⟨ph,ch,hvh,_⟩:=h.h.told
 obtain⟨w1,hb⟩:=fbx9 w f q c
 have bx:=hb.b1
 have hk1:=hb.k1
 obtain⟨gf,hgf⟩:∃b,b=w.heap.size:=⟨_,rfl⟩
 rw[<-hgf]at bx hk1
 clear hgf
 have hD:=hok.len
 have v1:w1.cell? ⟨g,2,none⟩=some (.slice pb r.yb.length cb):=by rw[(h.below hb.below).blk.cell 2,<-hvb];rfl
 obtain⟨I,W,hC⟩:=cls_of w1
 have hne:Nonempty I:=hC.ne
 have vW:=hC.cell v1
 have lW:=fun n=>zB (hk1.below (hC.back n) hk1.lt) hD
 have mk:=fun w=>Yv f.D hD w
 have hfound:Rise.found bkey Sha.less (bkey ((f.D,[]):Fct.Id×List Int)) (r.yb.map (·.1))=hasB s f.D:=by
  rw[h.be]
  exact Z3 hup (fun x hx=>by
   rw[<-h.be]at hx
   obtain⟨y,hy,rfl⟩:=List.mem_map.1 hx
   exact(h.b.ok y hy).1) hd
 obtain⟨hs,hhs⟩:∃b,b=hasB s f.D:=⟨_,rfl⟩
 rw[<-hhs]at hfound
 have QB:=xF (hC.call (P:=Tryz.prog) (f:=149) (args:=#[.slice pb r.yb.length cb,.agg (bcells (f.D,[]) none 0).toArray,.func (.func 129) #[] #[]]) (v:=.tuple #[.int .i64 (Rise.place bkey Sha.less (bkey ((f.D,[]):Fct.Id×List Int)) (r.yb.map (·.1)):Nat),.bool hs]) (fun w' hbw=>by
  have h2:=bs_B (r.yb.map (·.1)) pb r.yb.length cb w' ((htb.below hb.below).below hbw) (by rw[h.be];exact hup) (f.D,[]) none 0 ⟨hd,by simp⟩ hn
  rw[hfound]at h2
  exact h2))
 have HC:=xF hC
 have HR:=xF (fun n=>(show RfB w (W n) B g gf s r f q c from⟨hb.below.trans ((hC.back n).mono hb.below.size),(h.below hb.below).below (hC.back n),hk1.below (hC.back n) hk1.lt⟩))
 have HF:=xF hf
 have HOK:=xF hok
 have HD:=xF hd
 have HL:=xF hD
 have HVK:=xF hvk
 have HVH:=xF hvh
 have HU1:=xF (show Rise.Up id klt (r.yk.map (·.1)) by rw[h.ke];exact hup1)
 have HU2:=xF (show Rise.Up id hlt (r.yh.map (·.1)) by rw[h.he];exact hup2)
 have HKE:=xF h.ke
 have HHE:=xF h.he
 have HN1:=xF hn1
 have HN2:=xF hn2
 have HBW:=xF hB
 have HHS:=xF hhs
 generalize Rise.place bkey Sha.less (bkey ((f.D,[]):Fct.Id×List Int)) (r.yb.map (·.1))=pl at *
 obtain⟨nb,hnb⟩:∃n,n=r.yb.length:=⟨_,rfl⟩
 rw[<-hnb]at v1 vW QB
 clear hb h hk1 hf hok hd hD hvk hvh hvb htb hup hup1 hup2 hn hn1 hn2 hB hhs hfound hC hnb
 go_enter Tryz.func130,Tryz.ntmps130
 go_wp2_with fail
 refine wp_region_cls W (by kernel_rfl) (by kernel_rfl) HC.out.one ?_
 repeat go_big_quiet_step ((go_at_call 149;exact QB.out _))
 refine wpQuiet_nil ?_
 rintro _ ⟨nq,rfl⟩
 have HR2:=xF (HR.out nq)
 clear lW vW QB HR HC v1 hne mk
 generalize W nq=w2 at *
 clear W
 cases hs with
 | false=>
    go_wp2_with fail
    go_end0
    have e:s.on f=s:=by
     rcases HF.out with hk | hk
     ·rw[on_4 s hk];unfold Ste.keep;rw[<-HHS.out];simp
     ·rw[on_5 s hk];unfold Ste.hint;rw[<-HHS.out];simp
    rw[e]
    exact⟨rfl,r,HR2.out.so,(Chg.refl _ w).grown (below_grown HR2.out.below none) fun k hk=>by cases hk⟩
 | true=>
    have hR3:=HR2.out.drew
    have cK:w2.cell? ⟨gf,0,none⟩=some (i64c f.K):=(HR2.out.fb.cell 0).trans (fcells_K f q c)
    have cS:w2.cell? ⟨gf,1,none⟩=some (i64c f.S):=(HR2.out.fb.cell 1).trans (fcells_S f q c)
    rcases HF.out with hk | hk
    ·rw[hk]at cK
     have ck3:w2.cell? ⟨g,3,none⟩=some (.slice pk r.yk.length ck):=by rw[HR2.out.so.blk.cell 3,<-HVK.out];rfl
     have l2:=zB hR3.fb HL.out
     have mk:=fun w=>Y8 f.S f.D HL.out none 0 w
     obtain⟨gd,u8⟩:=good0 (S:=sK) w2.drew (x:=(f.S,f.D)) ⟨HOK.out.S,HD.out⟩ rfl
     have HPL:=xF (show Calls Tryz.prog 152 #[.slice pk r.yk.length ck,.agg (kcells (f.S,f.D) none 0).toArray,.func (.func 153) #[] #[]] w2.drew (PlcK w2.drew B r.vk (r.yk.map (·.1)) (f.S,f.D)) by
      have h2:=YG w2.drew B r.vk r.yk hR3.so.k HU1.out (f.S,f.D) none 0 gd u8 HN1.out (Nat.le_trans HBW.out hR3.below.size)
      rw[HVK.out]at h2 ⊢
      exact h2)
     have HR3:=xF hR3
     have HK:=xF hk
     clear gd u8 hR3 hk
     obtain⟨nk,hnk⟩:∃n,n=r.yk.length:=⟨_,rfl⟩
     rw[<-hnk]at ck3 HPL
     have HNK:=xF hnk
     clear hnk
     go_wp2_with fail
     go_region_law ((first
      | (go_simp;go_at_call 152;refine HPL.out.mono ?_;rintro e w3 ⟨v',zs,rfl,hr3,hz3,hg3,_,_⟩;(obtain⟨v3,f3,hs3,hc3,_⟩:=xo HR3.out.so (qB _ _) hr3 hg3);(obtain⟨q5,c5,rfl,_⟩:=hr3.told);(rw[HVK.out]at v3);(have HS3:=xF hs3);(have HC3:=xF hc3);(have HZ3:=xF hz3);clear hs3 hc3 hz3 hr3 hg3;generalize zs.length=n5 at *)))
     all_goals(
      go_wp2_with fail
      go_end0
      have hs:=HS3.out
      rw[HZ3.out,HKE.out]at hs
      refine⟨rfl,_,(by rw[on_4 s HK.out];unfold Ste.keep;rw[<-HHS.out,if_pos rfl];exact hs),zd ((Chg.refl _ w).grown (below_grown HR3.out.below none) fun k hk=>by cases hk) HC3.out⟩)
    ·rw[hk]at cK
     have ck4:w2.cell? ⟨g,4,none⟩=some (.slice ph r.yh.length ch):=by rw[HR2.out.so.blk.cell 4,<-HVH.out];rfl
     have l2:=load_factB hR3.fb HL.out
     have HR3:=xF hR3
     have HK:=xF hk
     have HPP:=xF (fun(W:World) (hW:Below w2.heap.size w2 W)=>(show Calls Tryz.prog 154 #[.slice ph r.yh.length ch,.agg (hcells (f.H,f.S,f.D) none 0).toArray,.func (.func 156) #[] #[]] W (PlcH W B r.vh (r.yh.map (·.1)) (f.H,f.S,f.D))from by
      obtain⟨gd,u8⟩:=good0 (S:=sH) W (x:=(f.H,f.S,f.D)) ⟨HOK.out.H,HOK.out.S,HD.out⟩ rfl
      have h2:=YB W B r.vh r.yh (HR2.out.so.below hW).h HU2.out (f.H,f.S,f.D) none 0 gd u8 HN2.out (Nat.le_trans (Nat.le_trans HBW.out HR2.out.below.size) hW.size)
      rw[HVH.out]at h2 ⊢
      exact h2))
     clear hR3 hk
     obtain⟨nh,hnh⟩:∃n,n=r.yh.length:=⟨_,rfl⟩
     rw[<-hnh]at ck4 HPP
     have HNH:=xF hnh
     clear hnh
     go_wp2_with fail
     go_region_law ((first
      | (go_simp;go_at_call 155;refine(z9 f q c _ HOK.out HD.out).mono ?_;rintro e w4 ⟨rfl,hb4⟩;(have HB4:=xF (show Below w2.heap.size w2 w4 from(qB _ w2).drew.trans hb4));clear hb4;(have v4:w4.cell? ⟨g,4,none⟩=some (.slice ph nh ch):=(HB4.out.cell (p:=⟨g,4,none⟩) (World.block_lt_of_cell? w2 _ ck4)).trans ck4))
      | (go_simp;go_at_call 154;refine(HPP.out _ HB4.out).mono ?_;rintro e w3 ⟨v',zs,rfl,hr3,hz3,hg3,_,_⟩;(obtain⟨v3,f3,hs3,hc3,_⟩:=xp (HR2.out.so.below HB4.out) (qB _ _) hr3 hg3);(obtain⟨q5,c5,rfl,_⟩:=hr3.told);(rw[HVH.out]at v3);(have HS3:=xF hs3);(have HC3:=xF hc3);(have HZ3:=xF hz3);clear hs3 hc3 hz3 hr3 hg3;generalize zs.length=n5 at *)))
     all_goals(
      go_wp2_with fail
      go_end0
      have hs:=HS3.out
      rw[HZ3.out,HHE.out]at hs
      have hbb:=HR2.out.below.trans (HB4.out.mono HR2.out.below.size)
      refine⟨rfl,_,(by rw[on_5 s HK.out];unfold Ste.hint;rw[<-HHS.out,if_pos rfl];exact hs),zd ((Chg.refl _ w).grown (below_grown hbb none) fun k hk=>by cases hk) HC3.out⟩)
end
section
open Go.RowKit Sha Fct
attribute [local go_sem ↓] execOp_boxFact execOp_loadFact execOp_loadId zu
structure Lens (r:Rows9):Prop where
 b:r.yb.length<=1000000000
 k:r.yk.length<=1000000000
 h:r.yh.length<=1000000000
 v:r.yv.length<=1000000000
 d:r.yd.length<=1000000000
abbrev DoP (w:World)(B g:Nat)(t:Ste):Ending->World->Prop:=StOP B g (fun _=>False) t w
theorem StOP.from {w w1:World} {B g:Nat} {t:Ste} {e:Ending} {w':World}(h:StOP B g (fun _=>False) t w1 e w')(hb:Below w.heap.size w w1):DoP w B g t e w':=by
 obtain⟨h1,r',h2,h3⟩:=h
 exact⟨h1,r',h2,zd ((Chg.refl _ w).grown (below_grown hb none) fun k hk=>by cases hk) h3⟩
theorem ZM (w:World)(B g:Nat)(s:Ste)(r:Rows9)(f:Fac)(q:Option Addr)(c:Nat)(h:StO w B g s r)(hf:f.K=4\/f.K=5)(hok:sF.ok f)(hd:idOk f.D)(hs:Sound s)(hl:Lens r)(hB:B<=w.heap.size):
 Calls Tryz.prog 92 #[.pointer (some ⟨g,0,none⟩),.agg (fcells f q c).toArray] w (DoP w B g (s.on f)):=by
 obtain⟨w1,hb⟩:=fbx9 w f q c
 have bx:=hb.b1
 have cK:=hb.K
 have l1:=load_factB hb.k1 hok.len
 have HR:=xF (yr w1 B g s r f q c (h.below hb.below) hf hok hd hs.blobsUp hs.keepsUp hs.hintsUp hl.b hl.k hl.h (Nat.le_trans hB hb.below.size))
 have HB:=xF hb.below
 clear hb h hok hd hs hl hB
 rcases hf with hk | hk
 ·rw[hk]at cK
  clear hk
  go_enter Tryz.func92,Tryz.ntmps92
  go_wp2_with fail
  refine HR.out.mono ?_
  rintro e w2 hP
  have HP:=xF (hP.from HB.out)
  obtain⟨rfl,_⟩:=hP
  go_wp2_with fail
  go_end0
  exact HP.out
 ·rw[hk]at cK
  clear hk
  go_enter Tryz.func92,Tryz.ntmps92
  go_wp2_with fail
  refine HR.out.mono ?_
  rintro e w2 hP
  have HP:=xF (hP.from HB.out)
  obtain⟨rfl,_⟩:=hP
  go_wp2_with fail
  go_end0
  exact HP.out
theorem yt (w:World)(B g:Nat)(s:Ste)(r:Rows9)(f:Fac)(q:Option Addr)(c:Nat)(h:StO w B g s r)(hf:f.K=6)(hok:sF.ok f)(hd:idOk f.D)(hs:Sound s)(hl:Lens r):
 Calls Tryz.prog 92 #[.pointer (some ⟨g,0,none⟩),.agg (fcells f q c).toArray] w (DoP w B g (s.on f)):=by
 obtain⟨w1,hb⟩:=fbx9 w f q c
 have bx:=hb.b1
 have cK:=hb.K
 have l1:=load_factB hb.k1 hok.len
 have HR:=xF (ZY w1 B g s r f q c (h.below hb.below) hf hok hd hs.hintsUp hl.b hl.k hl.h)
 have HB:=xF hb.below
 have HE:=xF (on_less s (Or.inl hf))
 rw[<-HE.out]at HR
 rw[hf]at cK
 clear hb h hok hd hs hl hf
 go_enter Tryz.func92,Tryz.ntmps92
 go_wp2_with fail
 refine HR.out.mono ?_
 rintro e w2 hP
 have HP:=xF (hP.from HB.out)
 obtain⟨rfl,_⟩:=hP
 go_wp2_with fail
 go_end0
 exact HP.out
theorem YN (w:World)(B g:Nat)(s:Ste)(r:Rows9)(f:Fac)(q:Option Addr)(c:Nat)(h:StO w B g s r)(hf:f.K=10)(hok:sF.ok f)(hl:Lens r):
 Calls Tryz.prog 92 #[.pointer (some ⟨g,0,none⟩),.agg (fcells f q c).toArray] w (DoP w B g (s.on f)):=by
 obtain⟨w1,hb⟩:=fbx9 w f q c
 have bx:=hb.b1
 have cK:=hb.K
 have l1:=load_factB hb.k1 hok.len
 have HR:=xF (yN w1 B g s r f q c (h.below hb.below) hf hl.b hl.k hl.h)
 have HB:=xF hb.below
 have HE:=xF (on_less s (Or.inr hf))
 rw[<-HE.out]at HR
 rw[hf]at cK
 clear hb h hok hl hf
 go_enter Tryz.func92,Tryz.ntmps92
 go_wp2_with fail
 refine HR.out.mono ?_
 rintro e w2 hP
 have HP:=xF (hP.from HB.out)
 obtain⟨rfl,_⟩:=hP
 go_wp2_with fail
 go_end0
 exact HP.out
theorem YO (w:World)(B g:Nat)(s:Ste)(r:Rows9)(f:Fac)(q:Option Addr)(c:Nat)(h:StO w B g s r)(hf:f.K=1):
 Calls Tryz.prog 92 #[.pointer (some ⟨g,0,none⟩),.agg (fcells f q c).toArray] w (DoP w B g (s.on f)):=by
 obtain⟨w1,hb⟩:=fbx9 w f q c
 have bx:=hb.b1
 have cK:=hb.K
 have h1:=h.below hb.below
 have c0:w1.cell? ⟨g,0,none⟩=some (.bool s.born):=h1.blk.cell 0
 have f0:=h1.blk.free 0
 have HE:=xF (on_1 s hf)
 have HP:=xF (show StO (w1.setCell ⟨g,0,none⟩ (.bool true)) B g {s with born:=true} r/\Chg (fun k=>Own9 w1 B g k\/False) w1 (w1.setCell ⟨g,0,none⟩ (.bool true))from by
  have hg:=zg w1 g 0 (.bool true)
  have hc:Chg (fun k=>k=g) w1 (w1.setCell ⟨g,0,none⟩ (.bool true)):=(Chg.refl _ w1).grown hg fun k hk _=>by cases hk;rfl
  have hn:∀k cs fz t,w1.heap[k]? = some (.cells cs t fz)->t≠47->¬k=g:=by
   rintro k cs fz t hk ht rfl
   have h3:=h1.blk
   unfold Blk at h3
   rw[hk]at h3;simp at h3;exact ht h3.2.1
  refine⟨⟨h1.blk.set 0 _,h1.lo,h1.b.chg hc fun k cs fz t hk ht=>hn k cs fz t hk (by rcases ht with rfl | rfl<;>decide),h1.be,h1.k.chg hc fun k cs fz t hk ht=>hn k cs fz t hk (by rcases ht with rfl | rfl<;>decide),h1.ke,h1.h.chg hc fun k cs fz t hk ht=>hn k cs fz t hk (by rcases ht with rfl | rfl<;>decide),h1.he,
   h1.v.chg hc fun k cs fz t hk ht=>hn k cs fz t hk (by rcases ht with rfl | rfl<;>decide),h1.ve,h1.d.chg hc fun k cs fz t hk ht=>hn k cs fz t hk (by rcases ht with rfl | rfl<;>decide),h1.de⟩,hc.mono fun k _ e=>Or.inl (Or.inl e)⟩)
 have HB:=xF hb.below
 rw[hf]at cK
 clear hb h h1 hf
 go_enter Tryz.func92,Tryz.ntmps92
 go_wp2_with fail
 go_end0
 rw[HE.out]
 exact StOP.from ⟨rfl,r,HP.out.1,HP.out.2⟩ HB.out
end
section
open Go.RowKit
def yl (F:Fence)(n:Nat)(P:Program)(g:Nat)(lb:Array Value)(el:Nat->Array Value)(m:Nat)(Nd:Nat->World->Prop)(w:World):Prop:=
 ∀(l:Nat) (J Jx:Nat->World->Prop) (W:World),Below w.heap.size w W->AbidesFrom W.heap.size J->AbidesFrom W.heap.size Jx->
  (∀k W1,J k W1->Nd k W1)->
  (∀k W1,k < m->J k W1->YieldAt F (n - 1) P l (el k) W1 fun e W'=>(e= .returned (.bool true)/\J (k+1) W')\/(e= .returned (.bool false)/\Jx (k+1) W'))->
  J 0 W->
  CallsIn F n P g (#[.func (.yield l) #[] #[]]++lb) W fun e W'=>(∃v,e= .returned v)/\(J m W'\/∃k,k<=m/\Jx k W')
def YP (B:Nat)(I:Nat->World->Prop)(Ix:Code->Nat->World->Prop)(k:Nat)(W:World):Exit->Act->World->Prop
 | .normal,_,W'=>KeepsFrom B W W'/\I k W'
 | .ret,_,W'=>KeepsFrom B W W'/\Ix .ret k W'
 | .exit id,_,W'=>KeepsFrom B W W'/\Ix (.exit id) k W'
 | .goto t,_,W'=>KeepsFrom B W W'/\Ix (.goto t) k W'
 | .panic _,_,_=>False
 | .outgrown,_,_=>False
def xu (fn:FuncId)(tmps:Array Value)(ps:Array Tmp)(assign body:Code)(B:Nat)(st:LoopState)(pe:Option Code):Loop:=
 {state:=st,pending:=pe,fn,tmps,params:=ps,assign,body,defers:=B}
theorem zW {F:Fence} {n:Nat} {P:Program} {g:Operand} {ps:Array Tmp} {assign body:Code} {Q:Exit->Act->World->Prop} {a:Act} {w:World}
 (hro:F.round=none) (h1:1<=n) {gf:Nat} {lb:Array Value} (hg:a.eval g= .func (.func gf) #[] lb) (hFg:F.fn gf) (eg:∀args w,(callFunc gf args).run P w= .ok (.enter gf args) w)
 {el:Nat->Array Value} {m:Nat} {Nd:Nat->World->Prop} {w0:World} (hseq:yl F (n - 1) P gf lb el m Nd w0) (hb0:Below w0.heap.size w0 w) (hps:∀k,(el k).size=ps.size)
 (I:Nat->World->Prop) (Ix:Code->Nat->World->Prop) (hI:OwnFrom w.heap.size I) (hIx:∀c,OwnFrom w.heap.size (Ix c)) (hNd:∀k W,I k W->Nd k W) (h0:I 0 w)
 (Ax:Nat->Act->World->Prop) (hAx:∀k a',OwnFrom w.heap.size (fun(_:Unit) W=>Ax k a' W))
 (hassign:∀(l k:Nat) (W:World) (K:Act->World->Prop),I k W->(∀a' W',KeepsFrom w.heap.size W W'->I k W'->Ax k a' W'->K a' W')->
   assign.wpIn (F.inRound l) (n - 1 - 1) P (Exit.then K (fun _ _ _=>False)) {tmps:=(ps.zip (el k)).foldl (fun t (p,v)=>t.setIfInBounds p v) a.tmps,defers:=[]} W)
 (hbody:∀(l k:Nat) (a':Act) (W:World),w.heap.size<=l->(∃r,W.heap[l]? = some (.loop r))->k < m->I k W->Ax k a' W->body.wpIn (F.inRound l) (n - 1 - 1) P (YP w.heap.size I Ix (k+1) W) a' W)
 (hdone:∀(D:Nat) (W:World),w.heap.size<=D->I m W->W.heap[D]? = some (.deferred (some []))->Q .normal {a with defers:={target:=.collected D,args:=#[]}::a.defers} W)
 (hstop:∀(D:Nat) (c:Code) (k:Nat) (W:World),w.heap.size<=D->k<=m->Ix c k W->W.heap[D]? = some (.deferred (some []))->c.wpIn F n P Q {a with defers:={target:=.collected D,args:=#[]}::a.defers} W):
 (Code.rangeFunc g ps assign body).wpIn F n P Q a w:=by
 refine wpIn_rangeFunc fun fn hfn=>?_
 rw[hro]
 obtain⟨rec,hrec⟩:∃rec,rec=xu fn a.tmps ps assign body w.heap.size:=⟨_,rfl⟩
 have hpar:∀st pe,(rec st pe).params=ps:=fun st pe=>by rw[hrec];rfl
 have hfnr:∀st pe,(rec st pe).fn=fn:=fun st pe=>by rw[hrec];rfl
 have htmr:∀st pe,(rec st pe).tmps=a.tmps:=fun st pe=>by rw[hrec];rfl
 have hasr:∀st pe,(rec st pe).assign=assign:=fun st pe=>by rw[hrec];rfl
 have hbor:∀st pe,(rec st pe).body=body:=fun st pe=>by rw[hrec];rfl
 have hstt:∀st pe,(rec st pe).state=st:=fun st pe=>by rw[hrec];rfl
 have hpen:∀st pe,(rec st pe).pending=pe:=fun st pe=>by rw[hrec];rfl
 have hwith:∀st pe st',{rec st pe with state:=st'}= rec st' pe:=fun st pe st'=>by rw[hrec];rfl
 have hwith2:∀st pe st' pe',{rec st pe with state:=st',pending:=pe'}= rec st' pe':=fun st pe st' pe'=>by rw[hrec];rfl
 obtain⟨B,hB⟩:∃B,B=w.heap.size:=⟨_,rfl⟩
 obtain⟨W1,hW1⟩:∃W1,W1=(w.alloc (.deferred (some []))).alloc (.loop (rec .ready none)):=⟨_,rfl⟩
 have hL1:W1.heap[B+1]? = some (.loop (rec .ready none)):=by
  rw[hW1,hB];have:=World.alloc_heap_new (w.alloc (.deferred (some []))) (.loop (rec .ready none));rwa [World.size_alloc]at this
 have hD1:W1.heap[B]? = some (.deferred (some [])):=by
  rw[hW1,hB];exact(Below.heap_alloc _ _ _ (by simp)).trans (World.alloc_heap_new w _)
 have hsz1:W1.heap.size=B+1+1:=by rw[hW1,hB];simp
 have hI1:I 0 W1:=by rw[hW1];exact hI.alloc _ (hI.alloc _ h0)
 have hb1:Below w0.heap.size w0 W1:=by
  rw[hW1];exact hb0.trans ((((qB _ w).alloc (qD _) _).alloc (by simp) _).mono hb0.size)
 refine⟨B+1,[{target:=.collected B,args:=#[]}],W1,{target:=.fn (.func gf) lb,args:=#[.func (.yield (B+1)) #[] #[]]},W1,gf,
  #[.func (.yield (B+1)) #[] #[]]++lb,W1,by rw[hW1,hrec,hB];exact run_enterLoop_outer _ _ _ _ _,by simp only[resolve,hg];simp[go_sem],fun f' hf'=>by simp[Target.leads]at hf';subst hf';exact hFg,by simp[invoke,go_sem,eg],fun _=>h1,?_⟩
 clear hW1
 -- the books:the record,the block of the rounds' deferred calls
 have hrows:∀{A C:World} {row:Option Nat},A.grownBy C row->(∀r,row=some r->W1.heap.size<=r/\∃o:Obj,A.heap[r]? = some o/\o.isWalk=true)->
  (∀r,row=some r->w.heap.size<=r/\∃o:Obj,A.heap[r]? = some o/\o.isCells=false)/\(∀k o,k < B+1+1->A.heap[k]? = some o->C.heap[k]? = some o):=by
  intro A C row hg' hr
  refine⟨fun r e=>?_,fun k o hk ho=>?_⟩
  ·obtain⟨h1,o,ho,hw⟩:=hr r e
   exact⟨by rw[<-hB];omega,o,ho,Obj.not_cells_of_walk hw⟩
  ·rw[hg'.block k (Array.getElem?_eq_some_iff.1 ho).1 fun e=>by have:=(hr k e.symm).1;omega];exact ho
 refine(hseq (B+1)
  (fun k W=>I k W/\W.heap[B+1]? = some (.loop (rec .ready none))/\W.heap[B]? = some (.deferred (some [])))
  (fun k W=>∃c,Ix c k W/\W.heap[B+1]? = some (.loop (rec .done (some c)))/\W.heap[B]? = some (.deferred (some [])))
  W1 hb1
  (fun s A C row hs hg' hr=>⟨hI s A C row hs.1 hg' (hrows hg' hr).1,(hrows hg' hr).2 _ _ (by omega) hs.2.1,(hrows hg' hr).2 _ _ (by omega) hs.2.2⟩)
  (fun s A C row hs hg' hr=>by
    obtain⟨c,hc,hl,hk⟩:=hs
    exact⟨c,hIx c s A C row hc hg' (hrows hg' hr).1,(hrows hg' hr).2 _ _ (by omega) hl,(hrows hg' hr).2 _ _ (by omega) hk⟩)
  (fun k W hj=>hNd k W hj.1) ?_ ⟨hI1,hL1,hD1⟩).mono ?_
 ·rintro k W hkm ⟨hi,hl,hk⟩
  have hy:=run_yield (P:=P) (args:=el k) hl (by rw[hpar];exact hps k)
  rw[hfnr,htmr,hasr,hbor,hpar]at hy
  refine⟨_,_,_,_,hy,roundIn_of_wpIn hfn ?_⟩
  refine hassign _ k W _ hi ?_
  intro a' Wa hka hia hax
  have hla:=hka.same _ _ (by rw[<-hB];omega) hl rfl
  have hda:=hka.same _ _ (by rw[<-hB];omega) hk rfl
  have hlta:B+1 < Wa.heap.size:=(Array.getElem?_eq_some_iff.1 hla).1
  refine⟨_,run_beginRound hla (hstt _ _),?_⟩
  rw[hwith]
  obtain⟨Wb,hWb⟩:∃Wb,Wb=Wa.putObj (B+1) (.loop (rec .busy none)):=⟨_,rfl⟩
  have hlb:Wb.heap[B+1]? = some (.loop (rec .busy none)):=by rw[hWb];exact World.putObj_heap_same hlta
  have hdb:Wb.heap[B]? = some (.deferred (some [])):=by rw[hWb];exact(World.putObj_heap_other (by omega)).trans hda
  have hib:I k Wb:=by rw[hWb];exact hI.putObj _ hia (by rw[<-hB];omega) hla rfl
  have haxb:Ax k a' Wb:=by rw[hWb];exact(hAx k a').putObj (s:=()) _ hax (by rw[<-hB];omega) hla rfl
  rw[<-hWb]
  refine wpIn_mono (hbody _ k a' Wb (by rw[<-hB];omega) ⟨_,hlb⟩ hkm hib haxb) ?_
  clear hWb
  have fin:∀(jump:Option Code) (Wc:World),KeepsFrom w.heap.size Wb Wc->
   (Instr.endRound (B+1) jump).run P Wc= .ok (.bool jump.isNone) (Wc.putObj (B+1) (.loop (rec (if jump.isNone then .ready else .done) jump)))/\
   Wc.heap[B+1]? = some (.loop (rec .busy none))/\
   (Wc.putObj (B+1) (.loop (rec (if jump.isNone then .ready else .done) jump))).heap[B+1]? = some (.loop (rec (if jump.isNone then .ready else .done) jump))/\
   (Wc.putObj (B+1) (.loop (rec (if jump.isNone then .ready else .done) jump))).heap[B]? = some (.deferred (some [])):=fun jump Wc hkc=>by
   have hlc:=hkc.same _ _ (by rw[<-hB];omega) hlb rfl
   have h2:=run_endRound (P:=P) jump hlc
   rw[hwith2]at h2
   exact⟨h2,hlc,World.putObj_heap_same (Array.getElem?_eq_some_iff.1 hlc).1,(World.putObj_heap_other (by omega)).trans (hkc.same _ _ (by rw[<-hB];omega) hdb rfl)⟩
  rintro e a3 Wc hp
  cases e with
  | normal=>
     obtain⟨hkc,hic⟩:=hp
     obtain⟨hr,hlc,hlc2,hdc⟩:=fin none Wc hkc
     exact⟨_,_,hr,.inl ⟨rfl,hI.putObj _ hic (by rw[<-hB];omega) hlc rfl,hlc2,hdc⟩⟩
  | ret=>
     obtain⟨hkc,hic⟩:=hp
     obtain⟨hr,hlc,hlc2,hdc⟩:=fin (some .ret) Wc hkc
     exact⟨_,_,hr,.inr ⟨rfl,.ret,(hIx _).putObj _ hic (by rw[<-hB];omega) hlc rfl,hlc2,hdc⟩⟩
  | exit id=>
     obtain⟨hkc,hic⟩:=hp
     obtain⟨hr,hlc,hlc2,hdc⟩:=fin (some (.exit id)) Wc hkc
     exact⟨_,_,hr,.inr ⟨rfl,.exit id,(hIx _).putObj _ hic (by rw[<-hB];omega) hlc rfl,hlc2,hdc⟩⟩
  | goto t=>
     obtain⟨hkc,hic⟩:=hp
     obtain⟨hr,hlc,hlc2,hdc⟩:=fin (some (.goto t)) Wc hkc
     exact⟨_,_,hr,.inr ⟨rfl,.goto t,(hIx _).putObj _ hic (by rw[<-hB];omega) hlc rfl,hlc2,hdc⟩⟩
  | panic ch=>exact hp.elim
  | outgrown=>exact hp.elim
 ·rintro e W2 ⟨⟨v,rfl⟩,(⟨hi,hl,hk⟩ | ⟨k,hkm,c,hi,hl,hk⟩)⟩
  ·have he:=run_endLoop (P:=P) hl (by rw[hstt];simp)
   rw[hpen]at he
   refine⟨none,_,he,?_⟩
   rw[hB]at hl hk ⊢
   exact hdone _ _ (qD _) (hI.putObj _ hi (by omega) hl rfl) ((World.putObj_heap_other (by omega)).trans hk)
  ·have he:=run_endLoop (P:=P) hl (by rw[hstt];simp)
   rw[hpen]at he
   refine⟨some c,_,he,?_⟩
   rw[hB]at hl hk ⊢
   exact hstop _ c k _ (qD _) hkm ((hIx c).putObj _ hi (by omega) hl rfl) ((World.putObj_heap_other (by omega)).trans hk)
end
section
open Go.RowKit Go.Shelf
theorem Zq {W W':World}(h:Below W.heap.size W W'):W.grownBy W' none:=⟨h.os,h.tape,h.output,h.size,fun k hk _=>h.block k hk⟩
theorem zD {W W':World}(h:Below W.heap.size W W'):KeepsOthers W W':=KeepsOthers.of_grownBy (Zq h) (fun j o e=>by cases e)
section
variable {P:Program} {o:Oper} {a:Act} {C:World->Prop} {K:Act->Prop}
end
end
section
open Go.RowKit Go.Shelf Sha Fct
attribute [local go_sem] Oper.semAt_some
attribute [local go_sem ↓] execOp_loadFact execOp_allocFact execOp_storeFact
def ykF (ys:List (Hd Fac))(k:Nat):Hd Fac:=ys.getD k (Fct.none_,none,0)
def tellF (ys:List (Hd Fac))(k:Nat):Array Value:=#[.agg (fcells (ykF ys k).1 (ykF ys k).2.1 (ykF ys k).2.2).toArray]
def NdF (p:Option Addr)(n c:Nat)(ys:List (Hd Fac))(Bs:Nat)(_:Nat)(W:World):Prop:=W.cell? ⟨Bs,0,none⟩=some (.slice p n c)/\At W p (ys.flatMap sF.row)
theorem ZE {ys:List (Hd Fac)} {k:Nat}(hk:k < ys.length):ykF ys k=ys[k]:=by unfold ykF;rw[List.getD_eq_getElem?_getD,List.getElem?_eq_getElem hk];rfl
theorem YQ {W:World} {p:Option Addr} {ys:List (Hd Fac)}(hok:∀y∈ys,sF.ok y.1)(h:At W p (ys.flatMap sF.row))(k:Nat)(hk:k < ys.length):
 ∃b off,p=some ⟨b,off,none⟩/\(loadOp 28 (.pointer (some ⟨b,off+k*38,none⟩))).run Tryz.prog W= .ok (.value (.agg (fcells (ykF ys k).1 (ykF ys k).2.1 (ykF ys k).2.2).toArray)) W:=by
 obtain⟨b,off,rfl,hc⟩:=h.addr (by rw[Shp.flat_length ys hok];exact flat_mul sF (by omega))
 refine⟨b,off,rfl,?_⟩
 rw[ZE hk]
 refine load_fact (Fac.ok.len (hok _ (List.getElem_mem hk))) fun j v hv=>?_
 rw[Nat.add_assoc]
 exact hc _ v (Shp.flat_get ys hok k hk j v (show(sF.row ys[k])[j]? = some v from hv))
theorem Z4 (m:Nat)(h1:1<=m)(p:Option Addr)(n c:Nat)(ys:List (Hd Fac))(hn:ys.length=n)(hmax:n<=1000000000)(hok:∀y∈ys,sF.ok y.1)(Bs:Nat)(w:World):
 yl Fence.wide m Tryz.prog 93 #[.pointer (some ⟨Bs,0,none⟩)] (tellF ys) n (NdF p n c ys Bs) w:=by
 intro l J Jx W hW hJ hJx hNd hY h0
 have HN:=xF hn
 have HO:=xF hok
 have HD:=xF hNd
 have HY:=xF hY
 have HJA:=xF hJ
 have hB0:=(hNd 0 W h0).1
 clear hn hok hNd hY hJ hJx hW
 refine callsIn_of_wp Tryz.func93 rfl trivial ?_ rfl
 simp only[Tryz.ntmps93,List.size_toArray,List.length_cons,List.length_nil,Nat.reduceAdd,Nat.reduceSub,Array.replicate_succ,Array.replicate_zero,List.push_toArray,List.append_toArray,List.nil_append,List.cons_append]
 gi_wp2
 gi_loopw [7] (fun i wr=>∃k:Nat,k<=n/\i= .int .i64 k/\Hid (J k wr)) (fun i _=>n - (intOf i).toNat)
 case atStart=>exact⟨0,Nat.zero_le _,rfl,xF h0⟩
 case round=>
  obtain⟨k,hk,rfl,HJ⟩:=hrel
  by_cases hlt:k < n
  ·obtain⟨b,off,rfl,lk⟩:=YQ HO.out (HD.out k wr HJ.out).2 k (by rw[HN.out];exact hlt)
   have hlen:(ykF ys k).1.D.length=32:=by rw[ZE (by rw[HN.out];exact hlt)];exact Fac.ok.len (HO.out _ (List.getElem_mem _))
   have a1:=alloc_fact wr
   have a2:=store_fact1 wr (q:=(ykF ys k).2.1) (c:=(ykF ys k).2.2) hlen
   have a3:=load_factB (Blk.new wr (fcells (ykF ys k).1 (ykF ys k).2.1 (ykF ys k).2.2).toArray 28) hlen
   have hJ2:=HJA.out _ _ _ none HJ.out (World.grownBy_alloc wr (.cells (fcells (ykF ys k).1 (ykF ys k).2.1 (ykF ys k).2.2).toArray 28) none) (fun r e=>by cases e)
   obtain⟨g0,hg0⟩:∃g,g=wr.heap.size:=⟨_,rfl⟩
   rw[<-hg0]at a1 a2 a3
   clear hg0
   generalize wr.alloc (.cells (fcells fz none 0).toArray 28)=wr1 at *
   generalize wr.alloc (.cells (fcells (ykF ys k).1 (ykF ys k).2.1 (ykF ys k).2.2).toArray 28)=wr2 at *
   obtain⟨fn,tmps,assign,body,hy,hR⟩:=HY.out k wr2 hlt hJ2
   clear hJ2 hlen
   unfold tellF at hy
   gi_wp2
   refine hR.mono ?_
   rintro e W3 (⟨rfl,hJ3⟩ | ⟨rfl,hJx3⟩)
   ·have HJ3:=xF hJ3
    clear hJ3
    gi_wp2
    go_roundw
    case rel=>exact⟨k+1,by omega,by simp,HJ3⟩
    case measure=>simp[intOf];omega
   ·have HJ3:=xF hJx3
    clear hJx3
    gi_wp2
    refine bodyPost_ret (results_none rfl _ _ _) rfl ?_
    exact⟨⟨_,rfl⟩,.inr ⟨k+1,by omega,HJ3.out⟩⟩
  ·obtain rfl:k=n:=by omega
   gi_wp2
   go_end0
   exact⟨⟨_,rfl⟩,.inl HJ.out⟩
theorem y9 (m:Nat)(p:Option Addr)(n c:Nat)(w:World):
 CallsIn Fence.wide m Tryz.prog 53 #[.slice p n c] w fun e w'=>e= .returned (.func (.func 93) #[] #[.pointer (some ⟨w.heap.size,0,none⟩)])/\w'=w.alloc (.cells #[.slice p n c] 30):=by
 refine callsIn_of_wp Tryz.func53 rfl trivial ?_ rfl
 simp only[Tryz.ntmps53,List.size_toArray,List.length_cons,List.length_nil,Nat.reduceAdd,Nat.reduceSub,Array.replicate_succ,Array.replicate_zero,List.push_toArray,List.append_toArray,List.nil_append,List.cons_append]
 gi_wp2
 go_ret
 exact⟨rfl,rfl⟩
theorem yu (p:Option Addr)(n c:Nat)(w:World):
 Calls Tryz.prog 53 #[.slice p n c] w fun e w'=>e= .returned (.func (.func 93) #[] #[.pointer (some ⟨w.heap.size,0,none⟩)])/\w'=w.alloc (.cells #[.slice p n c] 30):=
 (callsIn_wide (n:=4)).1 (y9 4 p n c w)
structure StR (w:World)(B:Nat)(s:Ste)(r:Rows9):Prop where
 b:Rws sB 93 w B r.vb r.yb
 be:r.yb.map (·.1)=s.blobs
 k:Rws sK 95 w B r.vk r.yk
 ke:r.yk.map (·.1)=s.keeps
 h:Rws sH 97 w B r.vh r.yh
 he:r.yh.map (·.1)=s.hints
 v:Rws sV 62 w B r.vv r.yv
 ve:r.yv.map (·.1)=s.votes
 d:Rws sD 73 w B r.vd r.yd
 de:r.yd.map (·.1)=s.decs
section
variable {w w':World} {B g:Nat} {s:Ste} {r:Rows9}
theorem StO.rows (h:StO w B g s r):StR w B s r:=⟨h.b,h.be,h.k,h.ke,h.h,h.he,h.v,h.ve,h.d,h.de⟩
theorem StR.on (h:StR w B s r)(hb:Blk w g (zh s r) 47)(hg:B<=g):StO w B g s r:=⟨hb,hg,h.b,h.be,h.k,h.ke,h.h,h.he,h.v,h.ve,h.d,h.de⟩
theorem StR.below (h:StR w B s r)(hb:Below w.heap.size w w'):StR w' B s r:=⟨h.b.below hb,h.be,h.k.below hb,h.ke,h.h.below hb,h.he,h.v.below hb,h.ve,h.d.below hb,h.de⟩
theorem StR.chg {Q:Nat->Prop}(h:StR w B s r)(hc:Chg Q w w')(hq:∀k cs fz t,w.heap[k]? = some (.cells cs t fz)->(rowT t\/t=5)->¬Q k):StR w' B s r:=
 ⟨h.b.chg hc (fun k cs fz t hk ht=>hq k cs fz t hk (ht.elim (fun e=>Or.inl (by rw[e];unfold rowT;simp)) Or.inr)),h.be,h.k.chg hc (fun k cs fz t hk ht=>hq k cs fz t hk (ht.elim (fun e=>Or.inl (by rw[e];unfold rowT;simp)) Or.inr)),h.ke,
  h.h.chg hc (fun k cs fz t hk ht=>hq k cs fz t hk (ht.elim (fun e=>Or.inl (by rw[e];unfold rowT;simp)) Or.inr)),h.he,h.v.chg hc (fun k cs fz t hk ht=>hq k cs fz t hk (ht.elim (fun e=>Or.inl (by rw[e];unfold rowT;simp)) Or.inr)),h.ve,
  h.d.chg hc (fun k cs fz t hk ht=>hq k cs fz t hk (ht.elim (fun e=>Or.inl (by rw[e];unfold rowT;simp)) Or.inr)),h.de⟩
def Rows9.none:Rows9:=⟨.slice .none 0 0,.slice .none 0 0,.slice .none 0 0,.slice .none 0 0,.slice .none 0 0,[],[],[],[],[]⟩
theorem Rws.none_ {V:Type} {S:Shp V} {t:TypeId}(w:World)(B:Nat):Rws S t w B (.slice none 0 0) []:=⟨World.ownsRow_nil _ _ _ _,fun y hy=>by simp at hy⟩
theorem StR.none_ (w:World)(B:Nat):StR w B Ste.none Rows9.none:=⟨Rws.none_ ..,rfl,Rws.none_ ..,rfl,Rws.none_ ..,rfl,Rws.none_ ..,rfl,Rws.none_ ..,rfl⟩
theorem StR.hds (h:StR w B s r):∃k:Hds,zh s r=scells s k/\SGood w s k:=by
 obtain⟨qb,cb,eb,tb⟩:=h.b.told
 obtain⟨qk,ck,ek,tk⟩:=h.k.told
 obtain⟨qh,ch,eh,th⟩:=h.h.told
 obtain⟨qv,cv,ev,tv⟩:=h.v.told
 obtain⟨qd,cd,ed,td⟩:=h.d.told
 refine⟨⟨(qb,r.yb.length,cb),(qk,r.yk.length,ck),(qh,r.yh.length,ch),(qv,r.yv.length,cv),(qd,r.yd.length,cd)⟩,?_,⟨by rw[<-h.be];exact tb,by rw[<-h.ke];exact tk,by rw[<-h.he];exact th,by rw[<-h.ve];exact tv,by rw[<-h.de];exact td⟩⟩
 rw[scells_eq]
 unfold zh
 rw[eb,ek,eh,ev,ed]
theorem StR.lens (h:StR w B s r) {n:Nat}(hn:(facts s).length<=n)(hm:n<=1000000000):Lens r:=by
 rw[facts_length]at hn
 have hv:s.votes.length<=vlen s.votes:=by
  generalize s.votes=l
  induction l with
  | nil=>simp
  | cons v l ih=>rw[vlen_cons,List.length_cons];have:=fVote_len v;omega
 have e1:=congrArg List.length h.be
 have e2:=congrArg List.length h.ke
 have e3:=congrArg List.length h.he
 have e4:=congrArg List.length h.ve
 have e5:=congrArg List.length h.de
 simp only[List.length_map]at e1 e2 e3 e4 e5
 exact⟨by omega,by omega,by omega,by omega,by omega⟩
def OwnR (w:World)(B k:Nat):Prop:=B<=k/\∃cs t fz,w.heap[k]? = some (.cells cs t fz)/\rowT t
theorem Zt {X:Nat->Prop} {w1:World}(hc:Chg X w w1)(hX:∀k o,w.heap[k]? = some o->o.isCells=false->¬X k):KeepsOthers w w1:=⟨hc.size,fun k o hk ho=>(hc.block k (Array.getElem?_eq_some_iff.1 hk).1 (hX k o hk ho)).trans hk⟩
theorem Z5 {w1:World}(h:StO w B g s r)(hc:Chg (fun k=>Own9 w B g k\/False) w w1):KeepsOthers w w1:=Zt hc fun k o hk ho e=>by
 rcases e with(rfl | ⟨_,cs,t,fz,h2,_⟩) | e
 ·have h3:w.heap[k]? = _:=h.blk
  rw[hk]at h3;cases h3;cases ho
 ·rw[hk]at h2;cases h2;cases ho
 ·exact e
end
end
section
open Go.RowKit Sha Fct
attribute [local go_sem ↓] execOp_loadBal execOp_loadId execOp_loadFact execOp_conv execOp_eqlStr execOp_eqlId execOp_boxFact
theorem ZN (xs ys:List Int)(p q:Option Addr)(n m c d:Nat)(w:World)(hx:∀n∈xs,0<=n/\n<=255)(hy:∀n∈ys,0<=n/\n<=255)(h1:xs.length=n)(h2:ys.length=m)(ha:At w p (xs.map v8))(hb:At w q (ys.map v8)):
 Calls Tryz.prog 66 #[.slice p n c,.slice q m d] w fun e w'=>e= .returned (.bool (decide (xs=ys)))/\w=w':=by
 have ca:=run_convOp w xs n p c h1 ha
 have cb:=run_convOp w ys m q d h2 hb
 have es:=fun o1 o2=>run_eqlStr o1 o2 xs ys hx hy w
 generalize strOfNums xs=sx at *
 generalize strOfNums ys=sy at *
 obtain⟨bb,hbb⟩:∃b,b=decide (xs=ys):=⟨_,rfl⟩
 rw[<-hbb]at es ⊢
 clear h1 h2 ha hb hx hy hbb
 go_enter Tryz.func66,Tryz.ntmps66
 go_wp2_with fail
 go_ret
 exact⟨rfl,rfl⟩
theorem YR (x y:Fac)(q r:Option Addr)(c d:Nat)(w:World)(hx:sF.Good w x q c)(hy:sF.Good w y r d)(nK:¬x.K=y.K):
 Calls Tryz.prog 81 #[.agg (fcells x q c).toArray,.agg (fcells y r d).toArray] w fun e w'=>e= .returned (.bool false)/\Below w.heap.size w w':=by
 have hF:=f2_of hx hy
 have bx:=run_boxOp (P:=Tryz.prog) (t:=28) (cs:=(fcells x q c).toArray) w
 have by_:=run_boxOp (P:=Tryz.prog) (t:=28) (cs:=(fcells y r d).toArray) (w.alloc (.cells (fcells x q c).toArray 28))
 have hz1:(w.alloc (Obj.cells (fcells x q c).toArray 28)).heap.size=w.heap.size+1:=World.size_alloc ..
 rw[hz1]at by_
 obtain⟨w2,hw2⟩:∃v,v=(w.alloc (.cells (fcells x q c).toArray 28)).alloc (.cells (fcells y r d).toArray 28):=⟨_,rfl⟩
 rw[<-hw2]at hF by_
 have a0:w2.cell? ⟨w.heap.size,0,none⟩=some (.int .i64 x.K):=(hF.a.cell 0).trans (fcells_K _ _ _)
 have b0:w2.cell? ⟨w.heap.size+1,0,none⟩=some (.int .i64 y.K):=(hF.b.cell 0).trans (fcells_K _ _ _)
 have tK:(x.K == y.K)=false:=by rw[beq_eq_false_iff_ne];exact nK
 have HB:=xF hF.below
 have HW:=xF hw2
 clear hF hw2 hx hy nK
 go_enter Tryz.func81,Tryz.ntmps81
 go_wp2_with fail
 go_ret
 exact⟨rfl,HB.out⟩
theorem YS (x y:Fac)(q r:Option Addr)(c d:Nat)(w:World)(hx:sF.Good w x q c)(hy:sF.Good w y r d)(eK:x.K=y.K)(nS:¬x.S=y.S):
 Calls Tryz.prog 81 #[.agg (fcells x q c).toArray,.agg (fcells y r d).toArray] w fun e w'=>e= .returned (.bool false)/\Below w.heap.size w w':=by
 have hF:=f2_of hx hy
 have bx:=run_boxOp (P:=Tryz.prog) (t:=28) (cs:=(fcells x q c).toArray) w
 have by_:=run_boxOp (P:=Tryz.prog) (t:=28) (cs:=(fcells y r d).toArray) (w.alloc (.cells (fcells x q c).toArray 28))
 have hz1:(w.alloc (Obj.cells (fcells x q c).toArray 28)).heap.size=w.heap.size+1:=World.size_alloc ..
 rw[hz1]at by_
 obtain⟨w2,hw2⟩:∃v,v=(w.alloc (.cells (fcells x q c).toArray 28)).alloc (.cells (fcells y r d).toArray 28):=⟨_,rfl⟩
 rw[<-hw2]at hF by_
 have a0:w2.cell? ⟨w.heap.size,0,none⟩=some (.int .i64 x.K):=(hF.a.cell 0).trans (fcells_K _ _ _)
 have b0:w2.cell? ⟨w.heap.size+1,0,none⟩=some (.int .i64 y.K):=(hF.b.cell 0).trans (fcells_K _ _ _)
 have a1:w2.cell? ⟨w.heap.size,1,none⟩=some (.int .i64 x.S):=(hF.a.cell 1).trans (fcells_S _ _ _)
 have b1:w2.cell? ⟨w.heap.size+1,1,none⟩=some (.int .i64 y.S):=(hF.b.cell 1).trans (fcells_S _ _ _)
 have tK:(x.K == y.K)=true:=by rw[beq_iff_eq];exact eK
 have tS:(x.S == y.S)=false:=by rw[beq_eq_false_iff_ne];exact nS
 have HB:=xF hF.below
 have HW:=xF hw2
 clear hF hw2 hx hy eK nS
 go_enter Tryz.func81,Tryz.ntmps81
 go_wp2_with fail
 go_ret
 exact⟨rfl,HB.out⟩
theorem YT (x y:Fac)(q r:Option Addr)(c d:Nat)(w:World)(hx:sF.Good w x q c)(hy:sF.Good w y r d)(eK:x.K=y.K)(eS:x.S=y.S)(nH:¬x.H=y.H):
 Calls Tryz.prog 81 #[.agg (fcells x q c).toArray,.agg (fcells y r d).toArray] w fun e w'=>e= .returned (.bool false)/\Below w.heap.size w w':=by
 have hF:=f2_of hx hy
 have bx:=run_boxOp (P:=Tryz.prog) (t:=28) (cs:=(fcells x q c).toArray) w
 have by_:=run_boxOp (P:=Tryz.prog) (t:=28) (cs:=(fcells y r d).toArray) (w.alloc (.cells (fcells x q c).toArray 28))
 have hz1:(w.alloc (Obj.cells (fcells x q c).toArray 28)).heap.size=w.heap.size+1:=World.size_alloc ..
 rw[hz1]at by_
 obtain⟨w2,hw2⟩:∃v,v=(w.alloc (.cells (fcells x q c).toArray 28)).alloc (.cells (fcells y r d).toArray 28):=⟨_,rfl⟩
 rw[<-hw2]at hF by_
 have a0:w2.cell? ⟨w.heap.size,0,none⟩=some (.int .i64 x.K):=(hF.a.cell 0).trans (fcells_K _ _ _)
 have b0:w2.cell? ⟨w.heap.size+1,0,none⟩=some (.int .i64 y.K):=(hF.b.cell 0).trans (fcells_K _ _ _)
 have a1:w2.cell? ⟨w.heap.size,1,none⟩=some (.int .i64 x.S):=(hF.a.cell 1).trans (fcells_S _ _ _)
 have b1:w2.cell? ⟨w.heap.size+1,1,none⟩=some (.int .i64 y.S):=(hF.b.cell 1).trans (fcells_S _ _ _)
 have a2:w2.cell? ⟨w.heap.size,2,none⟩=some (.int .i64 x.H):=(hF.a.cell 2).trans (fcells_H _ _ _)
 have b2:w2.cell? ⟨w.heap.size+1,2,none⟩=some (.int .i64 y.H):=(hF.b.cell 2).trans (fcells_H _ _ _)
 have tK:(x.K == y.K)=true:=by rw[beq_iff_eq];exact eK
 have tS:(x.S == y.S)=true:=by rw[beq_iff_eq];exact eS
 have tH:(x.H == y.H)=false:=by rw[beq_eq_false_iff_ne];exact nH
 have HB:=xF hF.below
 have HW:=xF hw2
 clear hF hw2 hx hy eK eS nH
 go_enter Tryz.func81,Tryz.ntmps81
 go_wp2_with fail
 go_ret
 exact⟨rfl,HB.out⟩
theorem YU (x y:Fac)(q r:Option Addr)(c d:Nat)(w:World)(hx:sF.Good w x q c)(hy:sF.Good w y r d)(eK:x.K=y.K)(eS:x.S=y.S)(eH:x.H=y.H)(nN:¬x.N=y.N):
 Calls Tryz.prog 81 #[.agg (fcells x q c).toArray,.agg (fcells y r d).toArray] w fun e w'=>e= .returned (.bool false)/\Below w.heap.size w w':=by
 have hF:=f2_of hx hy
 have bx:=run_boxOp (P:=Tryz.prog) (t:=28) (cs:=(fcells x q c).toArray) w
 have by_:=run_boxOp (P:=Tryz.prog) (t:=28) (cs:=(fcells y r d).toArray) (w.alloc (.cells (fcells x q c).toArray 28))
 have hz1:(w.alloc (Obj.cells (fcells x q c).toArray 28)).heap.size=w.heap.size+1:=World.size_alloc ..
 rw[hz1]at by_
 obtain⟨w2,hw2⟩:∃v,v=(w.alloc (.cells (fcells x q c).toArray 28)).alloc (.cells (fcells y r d).toArray 28):=⟨_,rfl⟩
 rw[<-hw2]at hF by_
 have a0:w2.cell? ⟨w.heap.size,0,none⟩=some (.int .i64 x.K):=(hF.a.cell 0).trans (fcells_K _ _ _)
 have b0:w2.cell? ⟨w.heap.size+1,0,none⟩=some (.int .i64 y.K):=(hF.b.cell 0).trans (fcells_K _ _ _)
 have a1:w2.cell? ⟨w.heap.size,1,none⟩=some (.int .i64 x.S):=(hF.a.cell 1).trans (fcells_S _ _ _)
 have b1:w2.cell? ⟨w.heap.size+1,1,none⟩=some (.int .i64 y.S):=(hF.b.cell 1).trans (fcells_S _ _ _)
 have a2:w2.cell? ⟨w.heap.size,2,none⟩=some (.int .i64 x.H):=(hF.a.cell 2).trans (fcells_H _ _ _)
 have b2:w2.cell? ⟨w.heap.size+1,2,none⟩=some (.int .i64 y.H):=(hF.b.cell 2).trans (fcells_H _ _ _)
 have lc:(loadOp 23 (.pointer (some ⟨w.heap.size,3,none⟩))).run Tryz.prog w2= .ok (.value (.agg #[.int .i64 x.N,.int .i64 x.O])) w2:=load_fbal (o:=0) hF.a.range
 have ld:(loadOp 23 (.pointer (some ⟨w.heap.size+1,3,none⟩))).run Tryz.prog w2= .ok (.value (.agg #[.int .i64 y.N,.int .i64 y.O])) w2:=load_fbal (o:=0) hF.b.range
 have tK:(x.K == y.K)=true:=by rw[beq_iff_eq];exact eK
 have tS:(x.S == y.S)=true:=by rw[beq_iff_eq];exact eS
 have tH:(x.H == y.H)=true:=by rw[beq_iff_eq];exact eH
 have tN:(x.N == y.N)=false:=by rw[beq_eq_false_iff_ne];exact nN
 have HB:=xF hF.below
 have HW:=xF hw2
 clear hF hw2 hx hy eK eS eH nN
 go_enter Tryz.func81,Tryz.ntmps81
 go_wp2_with fail
 go_ret
 exact⟨rfl,HB.out⟩
theorem YV (x y:Fac)(q r:Option Addr)(c d:Nat)(w:World)(hx:sF.Good w x q c)(hy:sF.Good w y r d)(eK:x.K=y.K)(eS:x.S=y.S)(eH:x.H=y.H)(eN:x.N=y.N)(nO:¬x.O=y.O):
 Calls Tryz.prog 81 #[.agg (fcells x q c).toArray,.agg (fcells y r d).toArray] w fun e w'=>e= .returned (.bool false)/\Below w.heap.size w w':=by
 have hF:=f2_of hx hy
 have bx:=run_boxOp (P:=Tryz.prog) (t:=28) (cs:=(fcells x q c).toArray) w
 have by_:=run_boxOp (P:=Tryz.prog) (t:=28) (cs:=(fcells y r d).toArray) (w.alloc (.cells (fcells x q c).toArray 28))
 have hz1:(w.alloc (Obj.cells (fcells x q c).toArray 28)).heap.size=w.heap.size+1:=World.size_alloc ..
 rw[hz1]at by_
 obtain⟨w2,hw2⟩:∃v,v=(w.alloc (.cells (fcells x q c).toArray 28)).alloc (.cells (fcells y r d).toArray 28):=⟨_,rfl⟩
 rw[<-hw2]at hF by_
 have a0:w2.cell? ⟨w.heap.size,0,none⟩=some (.int .i64 x.K):=(hF.a.cell 0).trans (fcells_K _ _ _)
 have b0:w2.cell? ⟨w.heap.size+1,0,none⟩=some (.int .i64 y.K):=(hF.b.cell 0).trans (fcells_K _ _ _)
 have a1:w2.cell? ⟨w.heap.size,1,none⟩=some (.int .i64 x.S):=(hF.a.cell 1).trans (fcells_S _ _ _)
 have b1:w2.cell? ⟨w.heap.size+1,1,none⟩=some (.int .i64 y.S):=(hF.b.cell 1).trans (fcells_S _ _ _)
 have a2:w2.cell? ⟨w.heap.size,2,none⟩=some (.int .i64 x.H):=(hF.a.cell 2).trans (fcells_H _ _ _)
 have b2:w2.cell? ⟨w.heap.size+1,2,none⟩=some (.int .i64 y.H):=(hF.b.cell 2).trans (fcells_H _ _ _)
 have lc:(loadOp 23 (.pointer (some ⟨w.heap.size,3,none⟩))).run Tryz.prog w2= .ok (.value (.agg #[.int .i64 x.N,.int .i64 x.O])) w2:=load_fbal (o:=0) hF.a.range
 have ld:(loadOp 23 (.pointer (some ⟨w.heap.size+1,3,none⟩))).run Tryz.prog w2= .ok (.value (.agg #[.int .i64 y.N,.int .i64 y.O])) w2:=load_fbal (o:=0) hF.b.range
 have tK:(x.K == y.K)=true:=by rw[beq_iff_eq];exact eK
 have tS:(x.S == y.S)=true:=by rw[beq_iff_eq];exact eS
 have tH:(x.H == y.H)=true:=by rw[beq_iff_eq];exact eH
 have tN:(x.N == y.N)=true:=by rw[beq_iff_eq];exact eN
 have tO:(x.O == y.O)=false:=by rw[beq_eq_false_iff_ne];exact nO
 have HB:=xF hF.below
 have HW:=xF hw2
 clear hF hw2 hx hy eK eS eH eN nO
 go_enter Tryz.func81,Tryz.ntmps81
 go_wp2_with fail
 go_ret
 exact⟨rfl,HB.out⟩
theorem YW (x y:Fac)(q r:Option Addr)(c d:Nat)(w:World)(hx:sF.Good w x q c)(hy:sF.Good w y r d)(eK:x.K=y.K)(eS:x.S=y.S)(eH:x.H=y.H)(eN:x.N=y.N)(eO:x.O=y.O):
 Calls Tryz.prog 81 #[.agg (fcells x q c).toArray,.agg (fcells y r d).toArray] w fun e w'=>e= .returned (.bool (decide (x.D=y.D) && decide (x.B=y.B)))/\Below w.heap.size w w':=by
 have hF:=f2_of hx hy
 have bx:=run_boxOp (P:=Tryz.prog) (t:=28) (cs:=(fcells x q c).toArray) w
 have by_:=run_boxOp (P:=Tryz.prog) (t:=28) (cs:=(fcells y r d).toArray) (w.alloc (.cells (fcells x q c).toArray 28))
 have hz1:(w.alloc (Obj.cells (fcells x q c).toArray 28)).heap.size=w.heap.size+1:=World.size_alloc ..
 rw[hz1]at by_
 obtain⟨w2,hw2⟩:∃v,v=(w.alloc (.cells (fcells x q c).toArray 28)).alloc (.cells (fcells y r d).toArray 28):=⟨_,rfl⟩
 rw[<-hw2]at hF by_
 have a0:w2.cell? ⟨w.heap.size,0,none⟩=some (.int .i64 x.K):=(hF.a.cell 0).trans (fcells_K _ _ _)
 have b0:w2.cell? ⟨w.heap.size+1,0,none⟩=some (.int .i64 y.K):=(hF.b.cell 0).trans (fcells_K _ _ _)
 have a1:w2.cell? ⟨w.heap.size,1,none⟩=some (.int .i64 x.S):=(hF.a.cell 1).trans (fcells_S _ _ _)
 have b1:w2.cell? ⟨w.heap.size+1,1,none⟩=some (.int .i64 y.S):=(hF.b.cell 1).trans (fcells_S _ _ _)
 have a2:w2.cell? ⟨w.heap.size,2,none⟩=some (.int .i64 x.H):=(hF.a.cell 2).trans (fcells_H _ _ _)
 have b2:w2.cell? ⟨w.heap.size+1,2,none⟩=some (.int .i64 y.H):=(hF.b.cell 2).trans (fcells_H _ _ _)
 have lc:(loadOp 23 (.pointer (some ⟨w.heap.size,3,none⟩))).run Tryz.prog w2= .ok (.value (.agg #[.int .i64 x.N,.int .i64 x.O])) w2:=load_fbal (o:=0) hF.a.range
 have ld:(loadOp 23 (.pointer (some ⟨w.heap.size+1,3,none⟩))).run Tryz.prog w2= .ok (.value (.agg #[.int .i64 y.N,.int .i64 y.O])) w2:=load_fbal (o:=0) hF.b.range
 have tK:(x.K == y.K)=true:=by rw[beq_iff_eq];exact eK
 have tS:(x.S == y.S)=true:=by rw[beq_iff_eq];exact eS
 have tH:(x.H == y.H)=true:=by rw[beq_iff_eq];exact eH
 have tN:(x.N == y.N)=true:=by rw[beq_iff_eq];exact eN
 have tO:(x.O == y.O)=true:=by rw[beq_iff_eq];exact eO
 have la:(loadOp 25 (.pointer (some ⟨w.heap.size,5,none⟩))).run Tryz.prog w2= .ok (.value (.agg (x.D.map v8).toArray)) w2:=load_fid (o:=0) hF.x.ok.len hF.a.range
 have lb:(loadOp 25 (.pointer (some ⟨w.heap.size+1,5,none⟩))).run Tryz.prog w2= .ok (.value (.agg (y.D.map v8).toArray)) w2:=load_fid (o:=0) hF.y.ok.len hF.b.range
 obtain⟨m,hm⟩:∃m,m=x.B.length:=⟨_,rfl⟩
 obtain⟨k,hk⟩:∃k,k=y.B.length:=⟨_,rfl⟩
 have a5:w2.cell? ⟨w.heap.size,37,none⟩=some (.slice q m c):=by rw[hm];exact(hF.a.cell 37).trans (fcells_B hF.x.ok.len _ _)
 have b5:w2.cell? ⟨w.heap.size+1,37,none⟩=some (.slice r k d):=by rw[hk];exact(hF.b.cell 37).trans (fcells_B hF.y.ok.len _ _)
 have HEQ:=xF (ZN x.B y.B q r m k c d w2 hF.x.ok.B hF.y.ok.B hm.symm hk.symm hF.x.at_ hF.y.at_)
 obtain⟨bb,hbb⟩:∃b,b=decide (x.B=y.B):=⟨_,rfl⟩
 rw[<-hbb]at HEQ
 obtain⟨bd,hbd⟩:∃b,b=decide (x.D=y.D):=⟨_,rfl⟩
 have ei:=fun o1 o2=>run_eqlId o1 o2 x.D y.D hF.x.ok.len hF.y.ok.len bd hbd w2
 rw[<-hbb,<-hbd]
 clear hm hk hbb hbd
 have HB:=xF hF.below
 have HW:=xF hw2
 clear hF hw2 hx hy eK eS eH eN eO
 cases bd with
 | true=>
    go_enter Tryz.func81,Tryz.ntmps81
    go_wp2_with (go_at_call 66;refine HEQ.out.mono ?_;rintro e w3 ⟨rfl,rfl⟩)
    go_ret
    exact⟨by simp,HB.out⟩
 | false=>
    go_enter Tryz.func81,Tryz.ntmps81
    go_wp2_with (go_at_call 66;refine HEQ.out.mono ?_;rintro e w3 ⟨rfl,rfl⟩)
    go_ret
    exact⟨by simp,HB.out⟩
theorem Zu (x y:Fac)(q r:Option Addr)(c d:Nat)(w:World)(hx:sF.Good w x q c)(hy:sF.Good w y r d):
 Calls Tryz.prog 81 #[.agg (fcells x q c).toArray,.agg (fcells y r d).toArray] w fun e w'=>e= .returned (.bool (decide (x=y)))/\Below w.heap.size w w':=by
 rw[fac_ext]
 by_cases eK:x.K=y.K
 ·by_cases eS:x.S=y.S
  ·by_cases eH:x.H=y.H
   ·by_cases eN:x.N=y.N
    ·by_cases eO:x.O=y.O
     ·simp only[decide_eq_true eK,decide_eq_true eS,decide_eq_true eH,decide_eq_true eN,decide_eq_true eO,Bool.true_and]
      exact YW x y q r c d w hx hy eK eS eH eN eO
     ·simp only[decide_eq_false eO,Bool.and_false,Bool.false_and]
      exact YV x y q r c d w hx hy eK eS eH eN eO
    ·simp only[decide_eq_false eN,Bool.and_false,Bool.false_and]
     exact YU x y q r c d w hx hy eK eS eH eN
   ·simp only[decide_eq_false eH,Bool.and_false,Bool.false_and]
    exact YT x y q r c d w hx hy eK eS eH
  ·simp only[decide_eq_false eS,Bool.and_false,Bool.false_and]
   exact YS x y q r c d w hx hy eK eS
 ·simp only[decide_eq_false eK,Bool.false_and]
  exact YR x y q r c d w hx hy eK
end
end Go.Proofs.YtokpabkcaofahaaGreat
