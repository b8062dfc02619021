/-
  What stands under factShort_holds: part 25.
-/
import Derived.Test.YtokpabkcaofahaaGreatPs24
import Derived.Test.YtokpabkcaofahaaGreatPs23
import Derived.Test.YtokpabkcaofahaaGreatPs4
import Derived.Test.YtokpabkcaofahaaGreatPs16
import Derived.Test.YtokpabkcaofahaaGreatPs22
import Derived.Deep.DeepCutAuto
import Derived.Test.YtokpabkcaofahaaGreatPs7
import Derived.Test.YtokpabkcaofahaaGreatPs1
import Derived.ProofKit
import Derived.OpenShut
import Derived.Test.YtokpabkcaofahaaGreatRows
import Derived.ChangeSlices
import Derived.Deep.Slices
import Derived.Deep.Strs
import Derived.Test.YtokpabkcaofahaaGreatPs3
namespace Go.Proofs.YtokpabkcaofahaaGreat
set_option linter.unusedSimpArgs false
set_option linter.unusedVariables false
set_option maxRecDepth 100000
set_option maxHeartbeats 20000000
section
open Go.RowKit Sha Fct
attribute [local go_sem ↓] execOp_boxSte execOp_loadSte execOp_storeSte execOp_makeFact execOp_buildFacts execOp_loadId execOp_loadOB execOp_allocOB execOp_storeOB execOp_loadOK execOp_allocOK execOp_storeOK execOp_loadOH execOp_allocOH execOp_storeOH execOp_loadOV execOp_allocOV execOp_storeOV execOp_loadOD execOp_allocOD execOp_storeOD
structure OwF (wc w:World)(v:Value)(ys:List (Hd Fac)):Prop where
 own:w.ownsRow wc.heap.size 28 38 v ys.length (ys.flatMap sF.row)
 good:∀y∈ys,sF.Good wc y.1 y.2.1 y.2.2
 below:Below wc.heap.size wc w
structure TlB (wc wb:World)(v:Value)(ys zs:List (Hd Fac))(p:Option Addr):Prop where
 own:wb.ownsRow wc.heap.size 28 38 v ys.length (ys.flatMap sF.row)
 good:∀y∈ys,sF.Good wc y.1 y.2.1 y.2.2
 at_:At wb p (zs.flatMap sF.row)
 goodz:∀y∈zs,sF.Good wc y.1 y.2.1 y.2.2
 below:Below wc.heap.size wc wb
section
variable {wc wr w wa wb w2:World} {v v2:Value} {ys zs:List (Hd Fac)} {p:Option Addr}
theorem OwF.nil (wc:World):OwF wc wc (.slice none 0 0) []:=⟨World.ownsRow_nil _ _ _ _,fun y hy=>by simp at hy,Below.refl _ _⟩
theorem OwF.on (h:OwF wc w v ys)(hb:Below w.heap.size w w2):w2.ownsRow wc.heap.size 28 38 v ys.length (ys.flatMap sF.row):=by
 refine⟨h.own.1,?_⟩
 rcases h.own.2 with h' | ⟨g,cap,cur,hv,hg,hh,h4⟩
 ·exact Or.inl h'
 ·exact Or.inr ⟨g,cap,cur,hv,hg,by rw[hb.block g (h.own.lt g (by rw[hv];rfl)).2];exact hh,h4⟩
theorem OwF.told (h:OwF wc w v ys):∃q c,v= .slice q ys.length c/\sF.Told w q ys.length c (ys.map (·.1)):=by
 obtain⟨q,c,hv,h1,h2,h3,_,h5⟩:=own_at_s h.own
 exact⟨q,c,hv,by rw[List.length_map],h1,by unfold maxLen at h2;omega,h5,ys,rfl,h3,fun y hy=>(h.good y hy).below h.below⟩
theorem row1 (f:Fac)(q:Option Addr)(c:Nat):([(f,q,c)]:List (Hd Fac)).flatMap sF.row=fcells f q c:=by simp[Shp.row,sF]
theorem OwF.one (h:OwF wc w v ys)(hb:Below w.heap.size w wa) {f:Fac} {q:Option Addr} {c:Nat}(hg:sF.Good wc f q c):TlB wc (wa.alloc (.cells (fcells f q c).toArray 28)) v ys [(f,q,c)] (some ⟨wa.heap.size,0,none⟩):=
 ⟨h.on (hb.alloc hb.size _),h.good,by rw[row1];exact at_made wa _ _,fun y hy=>by rw[List.mem_singleton.1 hy];exact hg,h.below.trans ((hb.alloc hb.size _).mono h.below.size)⟩
theorem OwF.many (h:OwF wc w v ys)(hb:Below w.heap.size w wb)(ha:At wb p (zs.flatMap sF.row))(hg:∀y∈zs,sF.Good wc y.1 y.2.1 y.2.2):TlB wc wb v ys zs p:=
 ⟨h.on hb,h.good,ha,hg,h.below.trans (hb.mono h.below.size)⟩
theorem TlB.len (h:TlB wc wb v ys zs p) {m:Nat}(hm:zs.length=m):(zs.flatMap sF.row).length=m*38:=(Shp.flat_length zs fun y hy=>(h.goodz y hy).ok).trans (by rw[hm];rfl)
theorem TlB.app (h:TlB wc wb v ys zs p) {m:Nat}(hm:zs.length=m)(ho:w2.ownsRow wc.heap.size 28 38 v2 (ys.length+m) (ys.flatMap sF.row++zs.flatMap sF.row))(hg:wb.grownBy w2 v.ownBlock):OwF wc w2 v2 (ys++zs):=
 ⟨by rw[List.length_append,List.flatMap_append,hm];exact ho,fun y hy=>(List.mem_append.1 hy).elim (h.good y) (h.goodz y),h.below.grown hg h.below.size (fun k hk=>row_base h.own k hk)⟩
theorem build1F {f:Fac}(hl:f.D.length=32)(q:Option Addr)(c:Nat)(W:World):(buildOp 30 1 #[(0,Value.agg (fcells f q c).toArray)]).run Tryz.prog W= .ok (.value (.slice (some ⟨W.heap.size,0,none⟩) 1 1)) (W.alloc (.cells (fcells f q c).toArray 28)):=by
 have h9:=build_facts W [(f,q,c)] (by intro y hy;rw[List.mem_singleton.1 hy];exact hl) (by simp)
 rw[show(([(f,q,c)]:List (Hd Fac)).map sF.row).flatten=fcells f q c by simp[Shp.row,sF]]at h9
 exact h9
end
theorem make_fblob (x:Fct.Id×List Int)(h:x.1.length=32)(q:Option Addr)(m c:Nat)(hm:x.2.length=m)(w:World):(makeOp 28 #[(0,.int .i64 3),(4,.agg (x.1.map v8).toArray),(5,.slice q m c)]).run Tryz.prog w= .ok (.value (.agg (fcells (fBlob x) q c).toArray)) w:=run_makeOp w (built_blob 3 x.1 x.2 h q m c hm)
theorem make_fkeep (x:Int×Fct.Id)(h:x.2.length=32)(w:World):(makeOp 28 #[(0,.int .i64 4),(1,.int .i64 x.1),(4,.agg (x.2.map v8).toArray)]).run Tryz.prog w= .ok (.value (.agg (fcells (fKeep x) none 0).toArray)) w:=run_makeOp w (built_keep 4 x.1 x.2 h)
theorem make_fhint (x:Int×Int×Fct.Id)(h:x.2.2.length=32)(w:World):(makeOp 28 #[(0,.int .i64 5),(2,.int .i64 x.1),(1,.int .i64 x.2.1),(4,.agg (x.2.2.map v8).toArray)]).run Tryz.prog w= .ok (.value (.agg (fcells (fHint x) none 0).toArray)) w:=run_makeOp w (built_hint 5 x.1 x.2.1 x.2.2 h)
theorem make_fdec (x:Int×List Int)(q:Option Addr)(m c:Nat)(hm:x.2.length=m)(w:World):(makeOp 28 #[(0,.int .i64 9),(1,.int .i64 x.1),(5,.slice q m c)]).run Tryz.prog w= .ok (.value (.agg (fcells (fDec x) q c).toArray)) w:=run_makeOp w (built_dec 9 x.1 x.2 q m c hm)
theorem make_fborn (w:World):(makeOp 28 #[(0,.int .i64 1)]).run Tryz.prog w= .ok (.value (.agg (fcells fBorn none 0).toArray)) w:=run_makeOp w (built_kind 1)
theorem make_fboot (s:Int)(w:World):(makeOp 28 #[(0,.int .i64 2),(1,.int .i64 s)]).run Tryz.prog w= .ok (.value (.agg (fcells (fBoot s) none 0).toArray)) w:=run_makeOp w (built_set 2 s)
theorem bcells_last (x:Fct.Id×List Int)(h:x.1.length=32)(q:Option Addr)(c:Nat):(bcells x q c)[32]? = some (.slice q x.2.length c):=by
 unfold bcells
 rw[List.getElem?_append_right (by simp[h])]
 simp[h]
theorem goodF {w:World} {f:Fac}(h:f.ok)(hb:f.B= []):sF.Good w f none 0:=⟨h,by show At w none (f.B.map v8);rw[hb];exact Or.inl rfl,by show f.B.length<=0;rw[hb];exact Nat.le_refl _,by decide,fun _=>rfl⟩
theorem votes_few {l:List Vot}(h:∀x∈l,VoteOk x):l.length<=(l.flatMap fVote).length:=by
 induction l with
 | nil=>simp
 | cons x l ih=>
    have h1:=ih fun y hy=>h y (List.mem_cons_of_mem _ hy)
    have h2:1<=(fVote x).length:=by unfold fVote;split;simp;split<;>simp
    rw[List.flatMap_cons,List.length_append,List.length_cons];omega
theorem pFacts_any (s:Ste)(h:Hds)(w:World)(hso:Sound s)(hl:(facts s).length<=100000000)(hs:SGood w s h):
 Calls Tryz.prog 26 #[.agg (scells s h).toArray] w (FTel w (facts s)):=by
 have hfo:∀f∈facts s,f.ok:=fun f hf=>(facts_good hso f hf).1
 have bx:=run_boxOp (P:=Tryz.prog) (t:=47) (cs:=(scells s h).toArray) w
 have k1:Blk (w.alloc (.cells (scells s h).toArray 47)) w.heap.size (scells s h) 47:=Blk.new w _ 47
 have b1:=(Below.refl w.heap.size w).alloc (Nat.le_refl _) (.cells (scells s h).toArray 47)
 have z1:=World.size_alloc w (.cells (scells s h).toArray 47)
 obtain⟨w1,hw1⟩:∃v,v=w.alloc (.cells (scells s h).toArray 47):=⟨_,rfl⟩
 rw[<-hw1]at bx k1 b1 z1
 have ld:=load_steB k1
 have HCP:=Lib.hid (pcopied_any s h w1 (hs.below b1) hso hl)
 obtain⟨g,hg⟩:∃g,g=w.heap.size:=⟨_,rfl⟩
 rw[<-hg]at bx k1 ld
 have HK1:=Lib.hid k1
 have HB1:=Lib.hid b1
 have HG:=Lib.hid (show w.heap.size<=g/\g < w1.heap.size by omega)
 have HB:=Lib.hid (show∀x∈s.blobs,(fBlob x).ok from fun x hx=>hfo _ (by unfold facts;exact List.mem_append_left _ (List.mem_append_left _ (List.mem_append_left _ (List.mem_append_left _ (List.mem_append_right _ (List.mem_map_of_mem hx)))))))
 have HK:=Lib.hid (show∀x∈s.keeps,(fKeep x).ok from fun x hx=>hfo _ (by unfold facts;exact List.mem_append_left _ (List.mem_append_left _ (List.mem_append_left _ (List.mem_append_right _ (List.mem_map_of_mem hx))))))
 have HH:=Lib.hid (show∀x∈s.hints,(fHint x).ok from fun x hx=>hfo _ (by unfold facts;exact List.mem_append_left _ (List.mem_append_left _ (List.mem_append_right _ (List.mem_map_of_mem hx)))))
 have HV:=Lib.hid (show∀x∈s.votes,∀f∈fVote x,f.ok from fun x hx f hf=>hfo _ (by unfold facts;exact List.mem_append_left _ (List.mem_append_right _ (List.mem_flatMap.2 ⟨x,hx,hf⟩))))
 have HVO:=Lib.hid (show∀x∈s.votes,VoteOk x from hso.votes)
 have HD:=Lib.hid (show∀x∈s.decs,(fDec x).ok from fun x hx=>hfo _ (by unfold facts;exact List.mem_append_right _ (List.mem_map_of_mem hx)))
 have H1O:=Lib.hid (show∀f∈facts1 s,f.ok from fun f hf=>hfo _ (by unfold facts;exact List.mem_append_left _ (List.mem_append_left _ (List.mem_append_left _ (List.mem_append_left _ (List.mem_append_left _ hf))))))
 have HLE:=Lib.hid (show(facts1 s).length+s.blobs.length+s.keeps.length+s.hints.length+(s.votes.flatMap fVote).length+s.decs.length<=100000000 by unfold facts at hl;simp only[List.length_append,List.length_map]at hl;exact hl)
 clear hfo hso hl hs k1 b1 z1 hw1 hg
 go_enter Tryz.func26,Tryz.ntmps26
 go_upto_if 17 with(go_at_call 54;refine HCP.out.mono ?_;rintro e w2 ⟨r,k,rfl,hk,hR,hb⟩;(have k2:=HK1.out.below hb HK1.out.lt);(have st:=store_ste (s:=s) (h:=k) k2);(have HKC:=Lib.hid (k2.row (scells s k)));(have HSG:=Lib.hid (show SGood (w2.setRow g (scells s k).toArray) s k from(hR.chg (Q:=fun j=>j=g) (show Chg (fun j=>j=g) w2 (w2.setRow g (scells s k).toArray)from⟨rfl,rfl,rfl,by simp[World.setRow],fun k _ hn=>setRow_other _ _ _ _ hn⟩) (fun k cs fz t hk ht e=>by subst e;have h9:w2.heap[k]? = _:=k2;rw[hk]at h9;cases h9;rcases ht with(ht | ht | ht | ht | ht) | ht<;>exact absurd ht (by decide))).good hk));(have HBK:=Lib.hid (Below.setRow (HB1.out.trans (hb.mono HB1.out.size)) HG.out.1 (scells s k).toArray));clear hk hR hb k2;(obtain⟨wk,hwk⟩:∃v,v=w2.setRow g (scells s k).toArray:=⟨_,rfl⟩);rw[<-hwk]at st HKC HSG HBK;clear hwk;(have c0:=(HKC.out.cell 0).trans (scells_0 s k));(have c1:=(HKC.out.cell 1).trans (scells_1 s k)))
 obtain⟨⟨pB,nB,cB⟩,⟨pK,nK,cK⟩,⟨pH,nH,cH⟩,⟨pV,nV,cV⟩,⟨pD,nD,cD⟩⟩:=k
 have TB:=Lib.hid (show sB.Told wk pB nB cB s.blobs from HSG.out.b)
 have TK:=Lib.hid (show sK.Told wk pK nK cK s.keeps from HSG.out.k)
 have TH:=Lib.hid (show sH.Told wk pH nH cH s.hints from HSG.out.h)
 have TV:=Lib.hid (show sV.Told wk pV nV cV s.votes from HSG.out.v)
 have TD:=Lib.hid (show sD.Told wk pD nD cD s.decs from HSG.out.d)
 clear HSG st HCP HK1 ld bx HG HB1
 have HCN:=Lib.hid (show∀a:Addr,some a=none->(1:Nat)=0 from fun a h=>by cases h)
 obtain⟨bn,hbn⟩:∃b,b=s.born:=⟨_,rfl⟩
 rw[<-hbn]at c0 ⊢
 have HBN:=Lib.hid hbn
 clear hbn
 go_cut [3] (fun v wx=>∃ys:List (Hd Fac),Hid (ys.map (·.1)=(if bn=true then [fBorn]else []))/\Hid (OwF wk wx v ys))
 case first=>
  cases bn with
  | true=>
     have hok:=H1O.out fBorn (by unfold facts1;rw[<-HBN.out];simp)
     have mk:=make_fborn wk
     have bf:=build1F (f:=fBorn) hok.len none 0 wk
     obtain⟨y0,hy0⟩:∃y:List (Hd Fac),y= []:=⟨_,rfl⟩
     have HT:=Lib.hid (OwF.one (show OwF wk wk (.slice none 0 0) y0 by rw[hy0];exact OwF.nil wk) (Below.refl _ _) (goodF hok rfl))
     have HYL:=Lib.hid (show y0.length<=100000000 by rw[hy0];decide)
     have HY0:=Lib.hid hy0
     have HZL:=Lib.hid (show([(fBorn,none,0)]:List (Hd Fac)).length=1 from rfl)
     have HCM:=Lib.hid (Nat.le_refl 1)
     have HM2:=Lib.hid (show(1:Nat)<=2 by omega)
     clear hok hy0
     generalize wk.alloc (.cells (fcells fBorn none 0).toArray 28)=wb at *
     go_wp2_with (at_builtin;refine wpList_app_s rfl (.tmp 18) (.tmp 20) 30 rfl wk.heap.size 28 (size:=38) (by decide) Tryz.underlying30 fact_all3 fzero_size _ y0.length (y0.flatMap sF.row) rfl HT.out.own _ 1 1 (List.flatMap sF.row [(fBorn,none,0)]) rfl HT.out.at_ (HT.out.len HZL.out) (HCN.out _) HCM.out (Shp.flat_one _) (by have:=HYL.out;have:=HM2.out;omega) (by have:=HYL.out;have:=HM2.out;unfold maxLen;omega) HT.out.below.size ?_;intro v9 w9 hown9 hgr9 _;have HO9:=Lib.hid (HT.out.app HZL.out hown9 hgr9);clear hown9 hgr9)
     go_meet
     exact⟨_,Lib.hid (by rw[HY0.out];rfl),HO9⟩
  | false=>
     go_wp2_with fail
     go_meet
     exact⟨[],Lib.hid rfl,Lib.hid (OwF.nil wk)⟩
 case rest=>
  obtain⟨y1,HY1,HO1⟩:=hcut
  obtain⟨w3,hw3⟩:∃v,v=wc:=⟨_,rfl⟩
  rw[<-hw3]at HO1 ⊢
  clear hw3 c0 c1
  have c1:=((HKC.out.below HO1.out.below HKC.out.lt).cell 1).trans (scells_1 s _)
  go_upto_if 24 with fail
  go_cut [3] (fun v wx=>∃ys:List (Hd Fac),Hid (ys.map (·.1)=facts1 s)/\Hid (OwF wk wx v ys))
  case first=>
   by_cases hb0:s.boot=0
   ·have n1:(s.boot != 0)=false:=by rw[hb0];rfl
    have HF1:=Lib.hid (show y1.map (·.1)=facts1 s by unfold facts1;rw[HY1.out,HBN.out];simp[hb0])
    clear hb0
    go_wp2_with fail
    go_meet
    exact⟨y1,HF1,HO1⟩
   ·have n1:(s.boot != 0)=true:=by rw[bne_iff_ne];exact hb0
    have HF1:=Lib.hid (show y1.map (·.1)++[fBoot s.boot] = facts1 s by unfold facts1;rw[HY1.out,HBN.out];simp[hb0])
    have hok:=H1O.out (fBoot s.boot) (by rw[<-HF1.out];simp)
    have mk:=make_fboot s.boot w3
    have bf:=build1F (f:=fBoot s.boot) hok.len none 0 w3
    have HT:=Lib.hid (HO1.out.one (Below.refl _ _) (goodF hok rfl))
    have HYL:=Lib.hid (show y1.length<=100000000 by have h9:=congrArg List.length HY1.out;rw[List.length_map]at h9;rw[h9];split<;>simp)
    have HZL:=Lib.hid (show([(fBoot s.boot,none,0)]:List (Hd Fac)).length=1 from rfl)
    have HCM:=Lib.hid (Nat.le_refl 1)
    have HM2:=Lib.hid (show(1:Nat)<=2 by omega)
    clear hok hb0
    generalize w3.alloc (.cells (fcells (fBoot s.boot) none 0).toArray 28)=wb at *
    go_wp2_with (at_builtin;refine wpList_app_s rfl (.tmp 25) (.tmp 29) 30 rfl wk.heap.size 28 (size:=38) (by decide) Tryz.underlying30 fact_all3 fzero_size _ y1.length (y1.flatMap sF.row) rfl HT.out.own _ 1 1 (List.flatMap sF.row [(fBoot s.boot,none,0)]) rfl HT.out.at_ (HT.out.len HZL.out) (HCN.out _) HCM.out (Shp.flat_one _) (by have:=HYL.out;have:=HM2.out;omega) (by have:=HYL.out;have:=HM2.out;unfold maxLen;omega) HT.out.below.size ?_;intro v9 w9 hown9 hgr9 _;have HO9:=Lib.hid (HT.out.app HZL.out hown9 hgr9);clear hown9 hgr9)
    go_meet
    exact⟨_,Lib.hid (by rw[List.map_append];exact HF1.out),HO9⟩
  case rest=>
   obtain⟨yA,HYA,HOA⟩:=hcut
   obtain⟨wA,hwA⟩:∃v,v=wc:=⟨_,rfl⟩
   rw[<-hwA]at HOA ⊢
   clear hwA c1 HY1 HO1 HBN H1O
   obtain⟨PA,hPA⟩:∃l:List Fac,l=facts1 s:=⟨_,rfl⟩
   have HPA:=Lib.hid hPA
   rw[<-hPA]at HYA HLE
   clear hPA
   have cB:wA.cell? ⟨g,2,none⟩=some (.slice pB nB cB):=((HKC.out.below HOA.out.below HKC.out.lt).cell 2).trans (by rw[scells_eq];rfl)
   have HNB:=Lib.hid (show nB=s.blobs.length from TB.out.len)
   have hnB:nB<=100000000:=by have h8:=HNB.out;have h9:=HLE.out;omega
   go_wp2_with fail
   go_loopw [3,34] (fun vB iB wB=>∃(k:Nat) (yB:List (Hd Fac)),iB= .int .i64 k/\k<=nB/\Hid (yB.map (·.1)=PA++(s.blobs.take k).map fBlob)/\Hid (OwF wk wB vB yB)) (fun _ iB _=>nB - (intOf iB).toNat)
   case atStart=>exact⟨0,yA,rfl,Nat.zero_le _,Lib.hid (by rw[HYA.out];simp),HOA⟩
   case round=>
    obtain⟨k,yB,rfl,hk,HM,HOB⟩:=hrel
    obtain⟨wB,hw9⟩:∃v,v=wr:=⟨_,rfl⟩
    rw[<-hw9]at HOB ⊢
    clear hw9
    by_cases hlt:k < nB
    ·have hl9:k < s.blobs.length:=by rw[<-HNB.out];exact hlt
     obtain⟨b1,o1,q1,d1,hp1,hr1,hg1⟩:=TB.out.rows.get k hl9
     obtain⟨x,hx⟩:∃x,x=s.blobs[k]:=⟨_,rfl⟩
     rw[<-hx]at hr1 hg1
     have HTK:=Lib.hid (show s.blobs.take (k+1)=s.blobs.take k++[x] by rw[hx];exact List.take_succ_eq_append_getElem hl9)
     have hok:=HB.out x (by rw[hx];exact List.getElem_mem hl9)
     have hr1':wB.rangeAt b1 (o1+k*33) (bcells x q1 d1):=range_below hr1 HOB.out.below
     have l1:=load_OB hg1.ok hr1'
     have a1:=alloc_OB wB
     have s1:=storeN_OB wB hg1.ok q1 d1
     have kb1:Blk (wB.alloc (.cells (bcells x q1 d1).toArray 93)) wB.heap.size (bcells x q1 d1) 93:=Blk.new wB _ 93
     have bw1:=(Below.refl wB.heap.size wB).alloc (Nat.le_refl _) (.cells (bcells x q1 d1).toArray 93)
     obtain⟨g1,hgg1⟩:∃g,g=wB.heap.size:=⟨_,rfl⟩
     obtain⟨wa,hwa⟩:∃v,v=wB.alloc (.cells (bcells x q1 d1).toArray 93):=⟨_,rfl⟩
     obtain⟨wz,hwz⟩:∃v,v=wB.alloc (.cells (bcells (Fld.zero32,[]) none 0).toArray 93):=⟨_,rfl⟩
     rw[<-hwa]at s1 kb1 bw1
     rw[<-hwz]at a1 s1
     rw[<-hgg1]at a1 s1 kb1
     have f1:(loadOp 25 (.pointer (some ⟨g1,0,none⟩))).run Tryz.prog wa= .ok (.value (.agg (x.1.map v8).toArray)) wa:=load_idr hok.len (range_mid (pre:=[]) (post:=[.slice q1 x.2.length d1]) kb1 rfl)
     have f2:wa.cell? ⟨g1,32,none⟩=some (.slice q1 x.2.length d1):=(kb1.cell 32).trans (bcells_last x hok.len q1 d1)
     have mk:=make_fblob x hok.len q1 _ d1 rfl wa
     have bf:=build1F (f:=fBlob x) hok.len q1 d1 wa
     have HT:=Lib.hid (HOB.out.one bw1 (show sF.Good wk (fBlob x) q1 d1 from⟨hok,hg1.at_,hg1.le,hg1.max,hg1.nil⟩))
     have HYL:=Lib.hid (show yB.length<=100000000 by have h9:=congrArg List.length HM.out;simp only[List.length_map,List.length_append,List.length_take]at h9;have:=HLE.out;omega)
     have HZL:=Lib.hid (show([(fBlob x,q1,d1)]:List (Hd Fac)).length=1 from rfl)
     have HCM:=Lib.hid (Nat.le_refl 1)
     have HM2:=Lib.hid (show(1:Nat)<=2 by omega)
     obtain⟨wb,hwb⟩:∃v,v=wa.alloc (.cells (fcells (fBlob x) q1 d1).toArray 28):=⟨_,rfl⟩
     rw[<-hwb]at bf HT
     subst hp1
     clear hr1 hg1 hr1' kb1 bw1 hwa hwz hgg1 hwb hok hx hl9
     go_wp2_with (at_builtin;refine wpList_app_s rfl (.tmp 38) (.tmp 44) 30 rfl wk.heap.size 28 (size:=38) (by decide) Tryz.underlying30 fact_all3 fzero_size _ yB.length (yB.flatMap sF.row) rfl HT.out.own _ 1 1 (List.flatMap sF.row [(fBlob x,q1,d1)]) rfl HT.out.at_ (HT.out.len HZL.out) (HCN.out _) HCM.out (Shp.flat_one _) (by have:=HYL.out;have:=HM2.out;omega) (by have:=HYL.out;have:=HM2.out;unfold maxLen;omega) HT.out.below.size ?_;intro v9 w9 hown9 hgr9 _;have HO9:=Lib.hid (HT.out.app HZL.out hown9 hgr9);clear hown9 hgr9)
     go_roundw
     case rel=>exact⟨k+1,_,by go_num,by omega,Lib.hid (by rw[List.map_append,HM.out,HTK.out];simp),HO9⟩
     case measure=>simp[intOf];omega
    ·obtain rfl:k=nB:=by omega
     obtain⟨PB,hP⟩:∃l:List Fac,l=PA++(s.blobs).map fBlob:=⟨_,rfl⟩
     have HPB:=Lib.hid hP
     have HYB:=Lib.hid (show yB.map (·.1)=PB by rw[hP,HM.out,List.take_of_length_le (by rw[<-HNB.out];exact Nat.le_refl _)])
     have HLE:=Lib.hid (show PB.length+s.keeps.length+s.hints.length+(s.votes.flatMap fVote).length+s.decs.length<=100000000 by have:=HLE.out;rw[hP,List.length_append];rw[List.length_map];omega)
     clear hP hlt hk HM cB HB TB
     have cK:wB.cell? ⟨g,3,none⟩=some (.slice pK nK cK):=((HKC.out.below HOB.out.below HKC.out.lt).cell 3).trans (by rw[scells_eq];rfl)
     have HNK:=Lib.hid (show nK=s.keeps.length from TK.out.len)
     have hnK:nK<=100000000:=by have h8:=HNK.out;have h9:=HLE.out;omega
     go_wp2_with fail
     go_loopw [3,50] (fun vK iK wK=>∃(k:Nat) (yK:List (Hd Fac)),iK= .int .i64 k/\k<=nK/\Hid (yK.map (·.1)=PB++(s.keeps.take k).map fKeep)/\Hid (OwF wk wK vK yK)) (fun _ iK _=>nK - (intOf iK).toNat)
     case atStart=>exact⟨0,yB,rfl,Nat.zero_le _,Lib.hid (by rw[HYB.out];simp),HOB⟩
     case round=>
      obtain⟨k,yK,rfl,hk,HM,HOK⟩:=hrel
      obtain⟨wK,hw9⟩:∃v,v=wr:=⟨_,rfl⟩
      rw[<-hw9]at HOK ⊢
      clear hw9
      by_cases hlt:k < nK
      ·have hl9:k < s.keeps.length:=by rw[<-HNK.out];exact hlt
       obtain⟨b1,o1,q1,d1,hp1,hr1,hg1⟩:=TK.out.rows.get k hl9
       obtain⟨x,hx⟩:∃x,x=s.keeps[k]:=⟨_,rfl⟩
       rw[<-hx]at hr1 hg1
       have HTK:=Lib.hid (show s.keeps.take (k+1)=s.keeps.take k++[x] by rw[hx];exact List.take_succ_eq_append_getElem hl9)
       have hok:=HK.out x (by rw[hx];exact List.getElem_mem hl9)
       have hr1':wK.rangeAt b1 (o1+k*33) (kcells x q1 d1):=range_below hr1 HOK.out.below
       have l1:=load_OK hg1.ok hr1'
       have a1:=alloc_OK wK
       have s1:=storeN_OK wK hg1.ok q1 d1
       have kb1:Blk (wK.alloc (.cells (kcells x q1 d1).toArray 95)) wK.heap.size (kcells x q1 d1) 95:=Blk.new wK _ 95
       have bw1:=(Below.refl wK.heap.size wK).alloc (Nat.le_refl _) (.cells (kcells x q1 d1).toArray 95)
       obtain⟨g1,hgg1⟩:∃g,g=wK.heap.size:=⟨_,rfl⟩
       obtain⟨wa,hwa⟩:∃v,v=wK.alloc (.cells (kcells x q1 d1).toArray 95):=⟨_,rfl⟩
       obtain⟨wz,hwz⟩:∃v,v=wK.alloc (.cells (kcells (0,Fld.zero32) none 0).toArray 95):=⟨_,rfl⟩
       rw[<-hwa]at s1 kb1 bw1
       rw[<-hwz]at a1 s1
       rw[<-hgg1]at a1 s1 kb1
       have f1:wa.cell? ⟨g1,0,none⟩=some (.int .i64 x.1):=kb1.cell 0
       have f2:(loadOp 25 (.pointer (some ⟨g1,1,none⟩))).run Tryz.prog wa= .ok (.value (.agg (x.2.map v8).toArray)) wa:=load_idr hok.len (range_mid (pre:=[i64c x.1]) (post:=[]) (by rw[List.append_nil];exact kb1) rfl)
       have mk:=make_fkeep x hok.len wa
       have bf:=build1F (f:=fKeep x) hok.len none 0 wa
       have HT:=Lib.hid (HOK.out.one bw1 (show sF.Good wk (fKeep x) none 0 from goodF hok rfl))
       have HYL:=Lib.hid (show yK.length<=100000000 by have h9:=congrArg List.length HM.out;simp only[List.length_map,List.length_append,List.length_take]at h9;have:=HLE.out;omega)
       have HZL:=Lib.hid (show([(fKeep x,none,0)]:List (Hd Fac)).length=1 from rfl)
       have HCM:=Lib.hid (Nat.le_refl 1)
       have HM2:=Lib.hid (show(1:Nat)<=2 by omega)
       obtain⟨wb,hwb⟩:∃v,v=wa.alloc (.cells (fcells (fKeep x) none 0).toArray 28):=⟨_,rfl⟩
       rw[<-hwb]at bf HT
       subst hp1
       clear hr1 hg1 hr1' kb1 bw1 hwa hwz hgg1 hwb hok hx hl9
       go_wp2_with (at_builtin;refine wpList_app_s rfl (.tmp 54) (.tmp 60) 30 rfl wk.heap.size 28 (size:=38) (by decide) Tryz.underlying30 fact_all3 fzero_size _ yK.length (yK.flatMap sF.row) rfl HT.out.own _ 1 1 (List.flatMap sF.row [(fKeep x,none,0)]) rfl HT.out.at_ (HT.out.len HZL.out) (HCN.out _) HCM.out (Shp.flat_one _) (by have:=HYL.out;have:=HM2.out;omega) (by have:=HYL.out;have:=HM2.out;unfold maxLen;omega) HT.out.below.size ?_;intro v9 w9 hown9 hgr9 _;have HO9:=Lib.hid (HT.out.app HZL.out hown9 hgr9);clear hown9 hgr9)
       go_roundw
       case rel=>exact⟨k+1,_,by go_num,by omega,Lib.hid (by rw[List.map_append,HM.out,HTK.out];simp),HO9⟩
       case measure=>simp[intOf];omega
      ·obtain rfl:k=nK:=by omega
       obtain⟨PK,hP⟩:∃l:List Fac,l=PB++(s.keeps).map fKeep:=⟨_,rfl⟩
       have HPK:=Lib.hid hP
       have HYK:=Lib.hid (show yK.map (·.1)=PK by rw[hP,HM.out,List.take_of_length_le (by rw[<-HNK.out];exact Nat.le_refl _)])
       have HLE:=Lib.hid (show PK.length+s.hints.length+(s.votes.flatMap fVote).length+s.decs.length<=100000000 by have:=HLE.out;rw[hP,List.length_append];rw[List.length_map];omega)
       clear hP hlt hk HM cK HK TK
       have cH:wK.cell? ⟨g,4,none⟩=some (.slice pH nH cH):=((HKC.out.below HOK.out.below HKC.out.lt).cell 4).trans (by rw[scells_eq];rfl)
       have HNH:=Lib.hid (show nH=s.hints.length from TH.out.len)
       have hnH:nH<=100000000:=by have h8:=HNH.out;have h9:=HLE.out;omega
       go_wp2_with fail
       go_loopw [3,66] (fun vH iH wH=>∃(k:Nat) (yH:List (Hd Fac)),iH= .int .i64 k/\k<=nH/\Hid (yH.map (·.1)=PK++(s.hints.take k).map fHint)/\Hid (OwF wk wH vH yH)) (fun _ iH _=>nH - (intOf iH).toNat)
       case atStart=>exact⟨0,yK,rfl,Nat.zero_le _,Lib.hid (by rw[HYK.out];simp),HOK⟩
       case round=>
        obtain⟨k,yH,rfl,hk,HM,HOH⟩:=hrel
        obtain⟨wH,hw9⟩:∃v,v=wr:=⟨_,rfl⟩
        rw[<-hw9]at HOH ⊢
        clear hw9
        by_cases hlt:k < nH
        ·have hl9:k < s.hints.length:=by rw[<-HNH.out];exact hlt
         obtain⟨b1,o1,q1,d1,hp1,hr1,hg1⟩:=TH.out.rows.get k hl9
         obtain⟨x,hx⟩:∃x,x=s.hints[k]:=⟨_,rfl⟩
         rw[<-hx]at hr1 hg1
         have HTK:=Lib.hid (show s.hints.take (k+1)=s.hints.take k++[x] by rw[hx];exact List.take_succ_eq_append_getElem hl9)
         have hok:=HH.out x (by rw[hx];exact List.getElem_mem hl9)
         have hr1':wH.rangeAt b1 (o1+k*34) (hcells x q1 d1):=range_below hr1 HOH.out.below
         have l1:=load_OH hg1.ok hr1'
         have a1:=alloc_OH wH
         have s1:=storeN_OH wH hg1.ok q1 d1
         have kb1:Blk (wH.alloc (.cells (hcells x q1 d1).toArray 97)) wH.heap.size (hcells x q1 d1) 97:=Blk.new wH _ 97
         have bw1:=(Below.refl wH.heap.size wH).alloc (Nat.le_refl _) (.cells (hcells x q1 d1).toArray 97)
         obtain⟨g1,hgg1⟩:∃g,g=wH.heap.size:=⟨_,rfl⟩
         obtain⟨wa,hwa⟩:∃v,v=wH.alloc (.cells (hcells x q1 d1).toArray 97):=⟨_,rfl⟩
         obtain⟨wz,hwz⟩:∃v,v=wH.alloc (.cells (hcells (0,0,Fld.zero32) none 0).toArray 97):=⟨_,rfl⟩
         rw[<-hwa]at s1 kb1 bw1
         rw[<-hwz]at a1 s1
         rw[<-hgg1]at a1 s1 kb1
         have f1:wa.cell? ⟨g1,0,none⟩=some (.int .i64 x.1):=kb1.cell 0
         have f2:wa.cell? ⟨g1,1,none⟩=some (.int .i64 x.2.1):=kb1.cell 1
         have f3:(loadOp 25 (.pointer (some ⟨g1,2,none⟩))).run Tryz.prog wa= .ok (.value (.agg (x.2.2.map v8).toArray)) wa:=load_idr hok.len (range_mid (pre:=[i64c x.1,i64c x.2.1]) (post:=[]) (by rw[List.append_nil];exact kb1) rfl)
         have mk:=make_fhint x hok.len wa
         have bf:=build1F (f:=fHint x) hok.len none 0 wa
         have HT:=Lib.hid (HOH.out.one bw1 (show sF.Good wk (fHint x) none 0 from goodF hok rfl))
         have HYL:=Lib.hid (show yH.length<=100000000 by have h9:=congrArg List.length HM.out;simp only[List.length_map,List.length_append,List.length_take]at h9;have:=HLE.out;omega)
         have HZL:=Lib.hid (show([(fHint x,none,0)]:List (Hd Fac)).length=1 from rfl)
         have HCM:=Lib.hid (Nat.le_refl 1)
         have HM2:=Lib.hid (show(1:Nat)<=2 by omega)
         obtain⟨wb,hwb⟩:∃v,v=wa.alloc (.cells (fcells (fHint x) none 0).toArray 28):=⟨_,rfl⟩
         rw[<-hwb]at bf HT
         subst hp1
         clear hr1 hg1 hr1' kb1 bw1 hwa hwz hgg1 hwb hok hx hl9
         go_wp2_with (at_builtin;refine wpList_app_s rfl (.tmp 70) (.tmp 78) 30 rfl wk.heap.size 28 (size:=38) (by decide) Tryz.underlying30 fact_all3 fzero_size _ yH.length (yH.flatMap sF.row) rfl HT.out.own _ 1 1 (List.flatMap sF.row [(fHint x,none,0)]) rfl HT.out.at_ (HT.out.len HZL.out) (HCN.out _) HCM.out (Shp.flat_one _) (by have:=HYL.out;have:=HM2.out;omega) (by have:=HYL.out;have:=HM2.out;unfold maxLen;omega) HT.out.below.size ?_;intro v9 w9 hown9 hgr9 _;have HO9:=Lib.hid (HT.out.app HZL.out hown9 hgr9);clear hown9 hgr9)
         go_roundw
         case rel=>exact⟨k+1,_,by go_num,by omega,Lib.hid (by rw[List.map_append,HM.out,HTK.out];simp),HO9⟩
         case measure=>simp[intOf];omega
        ·obtain rfl:k=nH:=by omega
         obtain⟨PH,hP⟩:∃l:List Fac,l=PK++(s.hints).map fHint:=⟨_,rfl⟩
         have HPH:=Lib.hid hP
         have HYH:=Lib.hid (show yH.map (·.1)=PH by rw[hP,HM.out,List.take_of_length_le (by rw[<-HNH.out];exact Nat.le_refl _)])
         have HLE:=Lib.hid (show PH.length+(s.votes.flatMap fVote).length+s.decs.length<=100000000 by have:=HLE.out;rw[hP,List.length_append];rw[List.length_map];omega)
         clear hP hlt hk HM cH HH TH
         have cV:wH.cell? ⟨g,5,none⟩=some (.slice pV nV cV):=((HKC.out.below HOH.out.below HKC.out.lt).cell 5).trans (by rw[scells_eq];rfl)
         have HNV:=Lib.hid (show nV=s.votes.length from TV.out.len)
         have hnV:nV<=100000000:=by have h8:=HNV.out;have h9:=HLE.out;have h7:=votes_few HVO.out;omega
         go_wp2_with fail
         go_loopw [3,84] (fun vV iV wV=>∃(k:Nat) (yV:List (Hd Fac)),iV= .int .i64 k/\k<=nV/\Hid (yV.map (·.1)=PH++(s.votes.take k).flatMap fVote)/\Hid (OwF wk wV vV yV)) (fun _ iV _=>nV - (intOf iV).toNat)
         case atStart=>exact⟨0,yH,rfl,Nat.zero_le _,Lib.hid (by rw[HYH.out];simp),HOH⟩
         case round=>
          obtain⟨k,yV,rfl,hk,HM,HOV⟩:=hrel
          obtain⟨wV,hw9⟩:∃v,v=wr:=⟨_,rfl⟩
          rw[<-hw9]at HOV ⊢
          clear hw9
          by_cases hlt:k < nV
          ·have hl9:k < s.votes.length:=by rw[<-HNV.out];exact hlt
           obtain⟨b1,o1,q1,d1,hp1,hr1,hg1⟩:=TV.out.rows.get k hl9
           obtain⟨x,hx⟩:∃x,x=s.votes[k]:=⟨_,rfl⟩
           rw[<-hx]at hr1 hg1
           have HTK:=Lib.hid (show s.votes.take (k+1)=s.votes.take k++[x] by rw[hx];exact List.take_succ_eq_append_getElem hl9)
           have hok:=HV.out x (by rw[hx];exact List.getElem_mem hl9)
           have hr1':wV.rangeAt b1 (o1+k*6) (vcells x q1 d1):=range_below hr1 HOV.out.below
           have l1:=load_OV hg1.ok hr1'
           have a1:=alloc_OV wV
           have s1:=storeN_OV wV hg1.ok q1 d1
           have kb1:Blk (wV.alloc (.cells (vcells x q1 d1).toArray 62)) wV.heap.size (vcells x q1 d1) 62:=Blk.new wV _ 62
           have bw1:=(Below.refl wV.heap.size wV).alloc (Nat.le_refl _) (.cells (vcells x q1 d1).toArray 62)
           obtain⟨g1,hgg1⟩:∃g,g=wV.heap.size:=⟨_,rfl⟩
           obtain⟨wa,hwa⟩:∃v,v=wV.alloc (.cells (vcells x q1 d1).toArray 62):=⟨_,rfl⟩
           obtain⟨wz,hwz⟩:∃v,v=wV.alloc (.cells (vcells ⟨0,0,0,0,0,[]⟩ none 0).toArray 62):=⟨_,rfl⟩
           rw[<-hwa]at s1 kb1 bw1
           rw[<-hwz]at a1 s1
           rw[<-hgg1]at a1 s1 kb1
           have hvo:=HVO.out x (by rw[hx];exact List.getElem_mem hl9)
           have l2:=load_OV (q:=q1) (c:=d1) hg1.ok (show wa.rangeAt g1 0 _ from kb1.range)
           have HVF:=Lib.hid (pvoteFacts_any x q1 d1 wa (hg1.below (HOV.out.below.trans (bw1.mono HOV.out.below.size))) hvo)
           have HGA:=Lib.hid (show∀y:Hd Fac,(y=(fProm x,none,0)\/(x.AN≠0/\y=(fAcc x,q1,d1)))->sF.Good wk y.1 y.2.1 y.2.2 from by
            rintro y (rfl | ⟨ha,rfl⟩)
            ·exact goodF (good_prom hvo).1 rfl
            ·exact⟨(good_acc hvo ha).1,hg1.at_,hg1.le,hg1.max,hg1.nil⟩)
           have HYL:=Lib.hid (show yV.length<=100000000 by have h9:=congrArg List.length HM.out;have h8:=congrArg List.length (congrArg (List.flatMap fVote) (List.take_append_drop k s.votes));rw[List.flatMap_append,List.length_append]at h8;rw[List.length_map,List.length_append]at h9;have:=HLE.out;omega)
           have HBW:=Lib.hid bw1
           subst hp1
           clear hr1 hg1 hr1' kb1 bw1 hwa hwz hgg1 hok hx hl9 hvo
           go_wp2_with fail
           refine HVF.out.mono ?_
           rintro e w5 ⟨p5,c5,zs,rfl,hz1,hz2,hz3,hz4,hz5,hz6⟩
           have HT:=Lib.hid (HOV.out.many (HBW.out.trans (hz6.mono HBW.out.size)) hz3 (fun y hy=>HGA.out y (hz2 y hy)))
           obtain⟨m,hm⟩:∃m,zs.length=m:=⟨_,rfl⟩
           have HZL:=Lib.hid hm
           have HZM:=Lib.hid hz1
           have HCM:=Lib.hid (show m<=c5 by rw[<-hm];exact hz4)
           have HC5:=Lib.hid hz5
           have HM2:=Lib.hid (show m<=2 by have h9:=congrArg List.length hz1;rw[List.length_map,hm]at h9;rw[h9];unfold fVote;split;simp;split<;>simp)
           rw[hm]
           clear hm hz1 hz2 hz3 hz4 hz5 hz6
           go_wp2_with (at_builtin;refine wpList_app_s rfl (.tmp 88) (.tmp 90) 30 rfl wk.heap.size 28 (size:=38) (by decide) Tryz.underlying30 fact_all3 fzero_size _ yV.length (yV.flatMap sF.row) rfl HT.out.own _ m c5 (List.flatMap sF.row zs) rfl HT.out.at_ (HT.out.len HZL.out) HC5.out HCM.out (Shp.flat_one _) (by have:=HYL.out;have:=HM2.out;omega) (by have:=HYL.out;have:=HM2.out;unfold maxLen;omega) HT.out.below.size ?_;intro v9 w9 hown9 hgr9 _;have HO9:=Lib.hid (HT.out.app HZL.out hown9 hgr9);clear hown9 hgr9)
           go_roundw
           case rel=>exact⟨k+1,_,by go_num,by omega,Lib.hid (by rw[List.map_append,HM.out,HTK.out,List.flatMap_append,HZM.out];simp),HO9⟩
           case measure=>simp[intOf];omega
          ·obtain rfl:k=nV:=by omega
           obtain⟨PV,hP⟩:∃l:List Fac,l=PH++(s.votes).flatMap fVote:=⟨_,rfl⟩
           have HPV:=Lib.hid hP
           have HYV:=Lib.hid (show yV.map (·.1)=PV by rw[hP,HM.out,List.take_of_length_le (by rw[<-HNV.out];exact Nat.le_refl _)])
           have HLE:=Lib.hid (show PV.length+s.decs.length<=100000000 by have:=HLE.out;rw[hP,List.length_append];omega)
           clear hP hlt hk HM cV HV TV
           have cD:wV.cell? ⟨g,6,none⟩=some (.slice pD nD cD):=((HKC.out.below HOV.out.below HKC.out.lt).cell 6).trans (by rw[scells_eq];rfl)
           have HND:=Lib.hid (show nD=s.decs.length from TD.out.len)
           have hnD:nD<=100000000:=by have h8:=HND.out;have h9:=HLE.out;omega
           go_wp2_with fail
           go_loopw [3,96] (fun vD iD wD=>∃(k:Nat) (yD:List (Hd Fac)),iD= .int .i64 k/\k<=nD/\Hid (yD.map (·.1)=PV++(s.decs.take k).map fDec)/\Hid (OwF wk wD vD yD)) (fun _ iD _=>nD - (intOf iD).toNat)
           case atStart=>exact⟨0,yV,rfl,Nat.zero_le _,Lib.hid (by rw[HYV.out];simp),HOV⟩
           case round=>
            obtain⟨k,yD,rfl,hk,HM,HOD⟩:=hrel
            obtain⟨wD,hw9⟩:∃v,v=wr:=⟨_,rfl⟩
            rw[<-hw9]at HOD ⊢
            clear hw9
            by_cases hlt:k < nD
            ·have hl9:k < s.decs.length:=by rw[<-HND.out];exact hlt
             obtain⟨b1,o1,q1,d1,hp1,hr1,hg1⟩:=TD.out.rows.get k hl9
             obtain⟨x,hx⟩:∃x,x=s.decs[k]:=⟨_,rfl⟩
             rw[<-hx]at hr1 hg1
             have HTK:=Lib.hid (show s.decs.take (k+1)=s.decs.take k++[x] by rw[hx];exact List.take_succ_eq_append_getElem hl9)
             have hok:=HD.out x (by rw[hx];exact List.getElem_mem hl9)
             have hr1':wD.rangeAt b1 (o1+k*2) (dcells9 x q1 d1):=range_below hr1 HOD.out.below
             have l1:=load_OD hg1.ok hr1'
             have a1:=alloc_OD wD
             have s1:=storeN_OD wD hg1.ok q1 d1
             have kb1:Blk (wD.alloc (.cells (dcells9 x q1 d1).toArray 73)) wD.heap.size (dcells9 x q1 d1) 73:=Blk.new wD _ 73
             have bw1:=(Below.refl wD.heap.size wD).alloc (Nat.le_refl _) (.cells (dcells9 x q1 d1).toArray 73)
             obtain⟨g1,hgg1⟩:∃g,g=wD.heap.size:=⟨_,rfl⟩
             obtain⟨wa,hwa⟩:∃v,v=wD.alloc (.cells (dcells9 x q1 d1).toArray 73):=⟨_,rfl⟩
             obtain⟨wz,hwz⟩:∃v,v=wD.alloc (.cells (dcells9 (0,[]) none 0).toArray 73):=⟨_,rfl⟩
             rw[<-hwa]at s1 kb1 bw1
             rw[<-hwz]at a1 s1
             rw[<-hgg1]at a1 s1 kb1
             have f1:wa.cell? ⟨g1,0,none⟩=some (.int .i64 x.1):=kb1.cell 0
             have f2:wa.cell? ⟨g1,1,none⟩=some (.slice q1 x.2.length d1):=kb1.cell 1
             have mk:=make_fdec x q1 _ d1 rfl wa
             have bf:=build1F (f:=fDec x) hok.len q1 d1 wa
             have HT:=Lib.hid (HOD.out.one bw1 (show sF.Good wk (fDec x) q1 d1 from⟨hok,hg1.at_,hg1.le,hg1.max,hg1.nil⟩))
             have HYL:=Lib.hid (show yD.length<=100000000 by have h9:=congrArg List.length HM.out;simp only[List.length_map,List.length_append,List.length_take]at h9;have:=HLE.out;omega)
             have HZL:=Lib.hid (show([(fDec x,q1,d1)]:List (Hd Fac)).length=1 from rfl)
             have HCM:=Lib.hid (Nat.le_refl 1)
             have HM2:=Lib.hid (show(1:Nat)<=2 by omega)
             obtain⟨wb,hwb⟩:∃v,v=wa.alloc (.cells (fcells (fDec x) q1 d1).toArray 28):=⟨_,rfl⟩
             rw[<-hwb]at bf HT
             subst hp1
             clear hr1 hg1 hr1' kb1 bw1 hwa hwz hgg1 hwb hok hx hl9
             go_wp2_with (at_builtin;refine wpList_app_s rfl (.tmp 100) (.tmp 106) 30 rfl wk.heap.size 28 (size:=38) (by decide) Tryz.underlying30 fact_all3 fzero_size _ yD.length (yD.flatMap sF.row) rfl HT.out.own _ 1 1 (List.flatMap sF.row [(fDec x,q1,d1)]) rfl HT.out.at_ (HT.out.len HZL.out) (HCN.out _) HCM.out (Shp.flat_one _) (by have:=HYL.out;have:=HM2.out;omega) (by have:=HYL.out;have:=HM2.out;unfold maxLen;omega) HT.out.below.size ?_;intro v9 w9 hown9 hgr9 _;have HO9:=Lib.hid (HT.out.app HZL.out hown9 hgr9);clear hown9 hgr9)
             go_roundw
             case rel=>exact⟨k+1,_,by go_num,by omega,Lib.hid (by rw[List.map_append,HM.out,HTK.out];simp),HO9⟩
             case measure=>simp[intOf];omega
            ·obtain rfl:k=nD:=by omega
             obtain⟨PD,hP⟩:∃l:List Fac,l=PV++(s.decs).map fDec:=⟨_,rfl⟩
             have HPD:=Lib.hid hP
             have HYD:=Lib.hid (show yD.map (·.1)=PD by rw[hP,HM.out,List.take_of_length_le (by rw[<-HND.out];exact Nat.le_refl _)])
             have HLE:=Lib.hid (show PD.length<=100000000 by have:=HLE.out;rw[hP,List.length_append];rw[List.length_map];omega)
             clear hP hlt hk HM cD HD TD
             obtain⟨q9,c9,rfl,ht9⟩:=HOD.out.told
             have hF9:PD=facts s:=by unfold facts;rw[HPD.out,HPV.out,HPH.out,HPK.out,HPB.out,HPA.out]
             have hl9:yD.length=(facts s).length:=by rw[<-hF9,<-HYD.out,List.length_map]
             rw[HYD.out,hF9,hl9]at ht9
             rw[hl9]
             have HT9:=Lib.hid ht9
             have HB9:=Lib.hid (HBK.out.trans (HOD.out.below.mono HBK.out.size))
             clear ht9 hF9 hl9
             go_wp2_with fail
             go_ret
             exact⟨q9,c9,rfl,HT9.out,HB9.out⟩
end
section
open Go.RowKit Sha Fct
theorem factTold:FactsTold where
 toFactsSame:=factSame
 facts s h w hs hl hg:=pFacts_any s h w hs (Nat.le_trans hl (by decide)) hg
end
section
open Go.RowKit Sha Fct
attribute [local go_sem ↓] execOp_allocFact execOp_allocSte execOp_storeFact execOp_storeSte execOp_boxFact execOp_boxSte execOp_loadSte execOp_makeFact execOp_makeSte execOp_buildFacts execOp_loadFact
theorem run_err (l:List Fac):∀s:Ste,(s.run l).2≠0->s.run l=(Ste.none,2):=by
 induction l with
 | nil=>intro s h;simp[Ste.run]at h
 | cons f l ih=>
    intro s h
    unfold Ste.run at h ⊢
    by_cases hc:can f=true
    ·rw[if_pos hc]at h ⊢
     exact ih _ h
    ·rw[if_neg hc]
theorem fold_err {l:List Fac}(h:(Fct.fold l).2≠0):Fct.fold l=(Ste.none,2):=run_err l _ h
theorem fshort_any (F:FactsTold)(l:List Fac)(p:Option Addr)(n c:Nat)(w:World)(h:sF.Told w p n c l):
 Calls Tryz.prog 7 #[.slice p n c] w fun e w'=>e= .returned (.bool true)/\Below w.heap.size w w':=by
 have as_:=fun w=>alloc_ste w
 have ms:=fun w=>make_ste w
 have HT:=Lib.hid h
 have HLEN:=Lib.hid h.len
 clear h
 go_enter Tryz.func7,Tryz.ntmps7
 go_wp2_with fail
 refine(awake_any F.toFactsFold w).mono ?_
 rintro e w1 ⟨rfl,hb⟩
 have B1:=Lib.hid hb
 have T1:=Lib.hid (HT.out.below hb)
 clear hb HT
 go_wp2_with fail
 refine(longFacts_any p n c l w1 T1.out).mono ?_
 rintro e w2 ⟨b,rfl,hl,rfl⟩
 cases b with
 | true=>
    clear hl
    go_wp2_with fail
    go_ret
    exact⟨rfl,B1.out⟩
 | false=>
    obtain⟨hl60,hlB⟩:=hl rfl
    have HL60:=Lib.hid hl60
    have hmax:∀x∈l,x.B.length<=dataMost:=fun x hx=>by have h1:=hlB x hx;have:dataMost=1000000000000:=rfl;omega
    have HFO:=Lib.hid (F.fold l p n c w1 T1.out (by have:listMost=2000000:=rfl;omega) hmax)
    have HSO:=Lib.hid (run_ok l Ste.none Sound.none (fun x hx=>T1.out.rows.ok x hx))
    have HER:=Lib.hid (fold_err (l:=l))
    have HFW:=Lib.hid (fun t h=>fold_few (l:=l) (t:=t) h)
    rw[show Ste.none.run l=Fct.fold l from rfl]at HSO
    unfold FSte at HFO
    obtain⟨⟨s,er⟩,hr⟩:∃r,r=Fct.fold l:=⟨_,rfl⟩
    rw[<-hr]at HFO HSO HER HFW
    simp only at HSO HER
    clear hl hmax hlB hr hl60
    go_wp2_with fail
    refine HFO.out.mono ?_
    rintro e w3 ⟨hd,rfl,hg,hb⟩
    have B3:=Lib.hid (B1.out.trans (hb.mono B1.out.size))
    have st:=store_ste1 w3 s hd
    have hk:=Blk.new w3 (scells s hd).toArray 47
    have hb4:=(Below.refl w3.heap.size w3).alloc (Nat.le_refl _) (Obj.cells (scells s hd).toArray 47)
    have ld:=load_steB hk
    have K4:=Lib.hid hk
    have G4:=Lib.hid (hg.below hb4)
    have B4:=Lib.hid (B3.out.trans (hb4.mono B3.out.size))
    clear hb hg hb4 hk HFO B3 B1 T1
    simp only
    by_cases her:er=0
    ·subst her
     have hfew:=HFW.out s rfl
     have HFA:=Lib.hid (F.facts s hd _ HSO.out (by have:listMost=2000000:=rfl;have:=HL60.out;omega) G4.out)
     have HFG:=Lib.hid (facts_good HSO.out)
     have HFF:=Lib.hid (fold_facts HSO.out)
     have HFE:=Lib.hid hfew
     clear HER HFW
     obtain⟨fs,hfs⟩:∃fs,fs=Fct.facts s:=⟨_,rfl⟩
     rw[<-hfs]at HFA HFG HFF HFE hfew
     have HFS:=Lib.hid hfs
     have HFEW:=Lib.hid hfew
     clear hfs hfew
     go_wp2_with fail
     refine HFA.out.mono ?_
     intro e w5 hff
     obtain⟨q5,d5,rfl,ht5,hb5⟩:=hff
     have B5:=Lib.hid (B4.out.trans (hb5.mono B4.out.size))
     have K5:=Lib.hid (K4.out.below hb5 K4.out.lt)
     have G5:=Lib.hid (G4.out.below hb5)
     have T5:=Lib.hid ht5
     clear hb5 ht5 K4 G4 B4 HFA ld
     have HF2:=Lib.hid (F.fold fs q5 fs.length d5 w5 T5.out (by have:listMost=2000000:=rfl;have:=HFEW.out;have:=HL60.out;omega) (fun x hx=>by have h1:=(HFG.out x hx).2.most;have:dataMost=1000000000000:=rfl;split at h1<;>omega))
     unfold FSte at HF2
     rw[HFF.out]at HF2
     obtain⟨fl,hfl⟩:∃fl,fl=fs.length:=⟨_,rfl⟩
     rw[<-hfl]at HF2 HFEW T5 ⊢
     clear hfl
     go_wp2_with fail
     refine HF2.out.mono ?_
     rintro e w6 ⟨hd2,rfl,hg6,hb6⟩
     have st6:=store_ste1 w6 s hd2
     have hb7:=hb6.trans (((Below.refl w6.heap.size w6).alloc (Nat.le_refl _) (Obj.cells (scells s hd2).toArray 47)).mono hb6.size)
     have hb8:=(Below.refl w6.heap.size w6).alloc (Nat.le_refl _) (Obj.cells (scells s hd2).toArray 47)
     have kb:=Blk.new w6 (scells s hd2).toArray 47
     have K7:=Lib.hid (K5.out.below hb7 K5.out.lt)
     have ka:=K7.out
     have ld1:=load_steB ka
     have ld2:=load_steB kb
     have G7:=Lib.hid (G5.out.below hb7)
     have H7:=Lib.hid (hg6.below hb8)
     have B7:=Lib.hid (B5.out.trans (hb7.mono B5.out.size))
     have L7:=Lib.hid kb
     have hsm:=F.same s s hd hd2 _ HSO.out HSO.out (by rw[<-HFS.out];have:listMost=2000000:=rfl;have:=HFE.out;have:=HL60.out;omega) (by rw[<-HFS.out];have:listMost=2000000:=rfl;have:=HFE.out;have:=HL60.out;omega) G7.out H7.out
     clear hb6 hb7 hb8 ka kb hg6 K5 G5 B5 T5 HF2
     go_wp2_with fail
     refine hsm.mono ?_
     rintro e w8 ⟨rfl,hb⟩
     have B8:=Lib.hid (B7.out.trans (hb.mono B7.out.size))
     have G8:=Lib.hid (G7.out.below hb)
     have H8:=Lib.hid (H7.out.below hb)
     have ld3:=load_steB (K7.out.below hb K7.out.lt)
     have ld4:=load_steB (L7.out.below hb L7.out.lt)
     clear hb B7 G7 H7 K7 L7 ld1 ld2 hsm
     first | rw[decide_eq_true (rfl:s=s)] | simp only[decide_true]
     go_wp2_with fail
     refine(sameState_any s s hd hd2 w8 G8.out H8.out).mono ?_
     rintro e w9 ⟨rfl,hb⟩
     have B9:=Lib.hid (B8.out.trans (hb.mono B8.out.size))
     clear hb ld3 ld4 G8 H8
     first | rw[decide_eq_true (rfl:s=s)] | simp only[decide_true]
     have hdl:decide ((fl:Int)<=2*(n:Int))=true:=decide_eq_true (by have:=HFEW.out;have:=HLEN.out;omega)
     have hnn:(0:Int)<=n/\(n:Int)<=1000:=by have:=HL60.out;have:=HLEN.out;omega
     go_wp2_with fail
     go_ret
     exact⟨rfl,B9.out⟩
    ·have her':(er == 0)=false:=by rw[beq_eq_false_iff_ne];exact her
     have hnone:s=Ste.none:=by have h1:=HER.out her;simp at h1;exact h1.1
     subst hnone
     have hsm:=F.same Ste.none Ste.none hd Hds.none _ Sound.none Sound.none (by decide) (by decide) G4.out (SGood.none_ _)
     clear HER HFW
     go_wp2_with fail
     refine hsm.mono ?_
     rintro e w5 ⟨rfl,hb⟩
     have B5:=Lib.hid (B4.out.trans (hb.mono B4.out.size))
     clear hb hsm B4 K4 G4
     first | rw[decide_eq_true (rfl:Ste.none=Ste.none)] | simp only[decide_true]
     go_wp2_with fail
     go_ret
     exact⟨rfl,B5.out⟩
end
section
open Go.RowKit Sha Fct
theorem factShort_law (l:List Fac)(n:Nat)(p:Option Addr)(c:Nat)(w:World)(h:sF.Told w p n c l):
 Calls Tryz.prog 7 #[.slice p n c] w fun e w'=>e= .returned (.bool true)/\Below w.heap.size w w':=fshort_any factTold l p n c w h
end
section
open Go.ChangeShapes Go.WideShapes Go.ChangeAt Go.RowKit
section
variable {H:Type} {enc:TypeId×Value->H} {P:Program}
theorem trodAll_carry {W W':World}(hl:laidOutB P=true)(hb:Below W.heap.size W W'):
 ∀{ts:List TypeId} {vs:List Value} {ds:List (DataW H)} {ps:List MemPlace},DataW.TrodAll enc P W 0 (fun _=>true) true ts vs ds ps->(∀t∈ts,P.readableRec t=true/\t < P.types.size)->(∀x∈ps,x.block < W.heap.size)->
  DataW.TrodAll enc P W' 0 (fun b=>decide (b < W.heap.size)) true ts vs ds ps
 | [],vs,ds,ps,h,_,_=>by
    obtain⟨rfl,rfl,rfl⟩:=trodAll_nil h
    exact trodAll_mk0
 | t::ts,vs,ds,ps,h,hr,hp=>by
    obtain⟨v,vs',d,ds',p,p',rfl,rfl,rfl,h1,h2⟩:=trodAll_cons h
    exact⟨p,p',Below.trod hl (hr t (by simp)).1 (hr t (by simp)).2 h1 hb (fun x hx=>hp x (by simp[hx])),trodAll_carry hl hb h2 (fun t ht=>hr t (by simp[ht])) (fun x hx=>hp x (by simp[hx])),rfl⟩
theorem law_post {f:Func} {s:ChangeSpec} {W W':World} {args:Array Value} {ds:List (DataW H)} {before:List MemPlace} {tb:TypeId}
 (hW:DataW.Whole enc P f.params.toList s.vars false W args.toList ds [] before) (hv:s.vars= []) (hfn:s.fn H (ds++[])= {results:=[.lit (.bool true)],args:=ds})
 (hr:f.resultTypes=#[tb]) (hu:P.underlying tb=some .bool) (hl:laidOutB P=true) (hps:∀t∈f.params.toList,P.readableRec t=true/\t < P.types.size) (hb:Below W.heap.size W W'):
 s.post enc P f false true false false W args (.bool true) W':=by
 have hlt:∀p∈before,p.block < W.heap.size:=fun p hp=>hW.lt p hp
 have hW2:=hW
 obtain⟨p,q,hA,hV,hbe,_,_⟩:=hW2
 rw[hv]at hV
 obtain⟨_,hq⟩:=trodVars_none hV
 have hbp:before=p:=by rw[hbe,hq,List.append_nil]
 refine⟨ds,[],before,[],p,[],hW,?_,?_,?_,?_,fun h=>by cases h⟩
 ·rw[hr,hfn]
  exact trodAll_mk1 (shut_bool hu true)
 ·rw[hfn]
  exact trodAll_carry hl hb hA hps (fun x hx=>hlt x (by rw[hbp];exact hx))
 ·rw[hv,hfn];rfl
 ·refine World.keptBut_mono (fun x hx=>⟨hx,?_⟩) (hb.frame (· ∈before))
  right;left
  rw[<-hbp];exact hx
end
end
section
open Go.ChangeShapes Go.WideShapes Go.ChangeAt Go.RowKit
theorem Tryz.own:ownKnob Tryz.prog.godebug=none:=by kernel_rfl
theorem Tryz.laidOut:laidOutB Tryz.prog=true:=by kernel_rfl
section
variable {H:Type} {enc:TypeId×Value->H} {P:Program} {w:World} {base:Nat} {spare:Nat->Bool} {held:Bool}
end
end
section
open Go.ChangeShapes Go.WideShapes Go.ChangeAt Go.RowKit Sha
section
variable {H:Type} {enc:TypeId×Value->H} {P:Program} {w:World} {base:Nat} {spare:Nat->Bool} {held:Bool}
theorem cells_bytesl {t e:TypeId} {fuel:Nat} {cs:List Value} {x:DataW H×List MemPlace}(ht:P.underlying t=some (.slice e))(he:P.underlying e=some (.int .u8))(hc:P.cellsOf e=1)
 (hf:DataW.trod enc P w base spare held fuel t cs=some x):
 ∃(q:Option Addr) (xs:List Int) (cap:Nat),cs= [.slice q xs.length cap]/\At w q (xs.map v8)/\xs.length<=cap/\cap<=maxLen/\(q=none->cap=0)/\(∀n∈xs,0<=n/\n<=255):=by
 rcases open_ints ht he hc hf with⟨hcs,hx⟩ | ⟨a,len,cap,zs,hcs,_,hl,hm,hz,hx,hcell,hwz⟩
 ·exact⟨none,[],0,hcs,At.nil _ _,Nat.le_refl _,by simp[maxLen],fun _=>rfl,by simp⟩
 ·have hzl:len<=zs.length:=by rw[hz];split<;>omega
  have hlen:(zs.take len).length=len:=by simp;omega
  refine⟨some a,zs.take len,cap,by rw[hlen];exact hcs,?_,by rw[hlen];exact hl,hm,(fun h=>by cases h),fun n hn=>bounds_u8 (hwz n (List.mem_of_mem_take hn))⟩
  by_cases h0:len=0
  ·subst h0;simp;exact At.nil _ _
  ·have h1:=hcell 0 (by omega)
   have hsp:a.spot=none:=by
    have:a.add 0=a:=by simp[Addr.add]
    rw[this]at h1
    cases hs:a.spot with
    | none=>rfl
    | some s=>
       unfold World.cell? at h1
       split at h1
       ·simp[hs]at h1
       ·cases h1
   obtain⟨b,off,sp⟩:=a
   simp only at hsp
   subst hsp
   refine Or.inr ⟨b,off,rfl,fun i v hi=>?_⟩
   rw[List.getElem?_map]at hi
   rcases Nat.lt_or_ge i len with hlt | hge
   ·rw[List.getElem?_take,if_pos hlt,List.getElem?_eq_getElem (by omega)]at hi
    simp at hi
    subst hi
    have:=hcell i (by omega)
    rw[Addr.add_mid]at this
    rw[this];simp[v8,List.getElem?_eq_getElem (show i < zs.length by omega)]
   ·rw[List.getElem?_eq_none (by simp;omega)]at hi;cases hi
end
end
section
set_option maxRecDepth 100000
open Go.ChangeShapes Go.WideShapes Go.ChangeAt Go.RowKit Sha Fct
section
variable {H:Type} {enc:TypeId×Value->H} {P:Program} {w:World} {base:Nat} {spare:Nat->Bool} {held:Bool}
theorem cells_bytes9 {t e:TypeId} {n fuel:Nat} {cs:List Value} {x:DataW H×List MemPlace}(ht:P.underlying t=some (.array n e))(he:P.underlying e=some (.int .u8))(hce:P.cellsOf e=1)(hct:P.cellsOf t=n)
 (hf:DataW.trod enc P w base spare held fuel t cs=some x):
 ∃xs:List Int,cs=xs.map v8/\xs.length=n/\(∀m∈xs,0<=m/\m<=255):=by
 obtain⟨ys,m,_,hx,hl,hyl,hel⟩:=DataW.trod_array ht hf
 simp only[hce,Nat.mul_one]at hel
 have hcl:cs.length=n:=by rw[hl,hct]
 have each:∀i,i < n->∃z,cs[i]? = some (.int .u8 z)/\0<=z/\z<=255:=by
  intro i hi
  have h1:=hel i hi
  obtain⟨y,hy⟩:∃y,ys[i]? = some y:=⟨ys[i],List.getElem?_eq_getElem (by omega)⟩
  rw[hy]at h1
  obtain⟨z,hc,rfl,hwf⟩:=DataW.trod_int he h1
  refine⟨z,?_,bounds_u8 hwf⟩
  have:=congrArg (·[0]?) hc
  simpa[List.getElem?_take,List.getElem?_drop]using this
 refine⟨(cs.map fun c=>match c with | .int _ z=>z | _=>0),?_,by simpa using hcl,?_⟩
 ·simp only[List.map_map]
  apply List.ext_getElem?
  intro i
  rw[List.getElem?_map]
  by_cases hi:i < n
  ·obtain⟨z,hz,_⟩:=each i hi
   simp[hz,v8]
  ·rw[List.getElem?_eq_none (by omega)];rfl
 ·intro q hq
  obtain⟨c,hc,rfl⟩:=List.mem_map.1 hq
  obtain⟨i,hi,hci⟩:=List.mem_iff_getElem.1 hc
  obtain⟨z,hz,hb⟩:=each i (by omega)
  rw[List.getElem?_eq_getElem hi,hci]at hz
  cases hz
  exact hb
end
section
variable {H:Type} {enc:TypeId×Value->H} {w:World} {base:Nat} {spare:Nat->Bool} {held:Bool}
theorem trod_struct6 {P:Program} {t:TypeId} {f0 f1 f2 f3 f4 f5:Field} {fuel:Nat} {cs:List Value} {x:DataW H×List MemPlace}(ht:P.underlying t=some (.struct #[f0,f1,f2,f3,f4,f5]))(h:DataW.trod enc P w base spare held fuel t cs=some x):
 ∃y0 y1 y2 y3 y4 y5 n,cs.length=P.cellsOf t/\DataW.trod enc P w base spare held n f0.type ((cs.drop f0.offset).take (P.cellsOf f0.type))=some y0/\
  DataW.trod enc P w base spare held n f1.type ((cs.drop f1.offset).take (P.cellsOf f1.type))=some y1/\DataW.trod enc P w base spare held n f2.type ((cs.drop f2.offset).take (P.cellsOf f2.type))=some y2/\
  DataW.trod enc P w base spare held n f3.type ((cs.drop f3.offset).take (P.cellsOf f3.type))=some y3/\DataW.trod enc P w base spare held n f4.type ((cs.drop f4.offset).take (P.cellsOf f4.type))=some y4/\
  DataW.trod enc P w base spare held n f5.type ((cs.drop f5.offset).take (P.cellsOf f5.type))=some y5:=by
 obtain⟨xs,n,_,rfl,hl,hlen,hf⟩:=DataW.trod_struct ht h
 match xs,hlen with
 | [y0,y1,y2,y3,y4,y5],_=>exact⟨y0,y1,y2,y3,y4,y5,n,hl,by simpa using hf 0 f0 rfl,by simpa using hf 1 f1 rfl,by simpa using hf 2 f2 rfl,by simpa using hf 3 f3 rfl,by simpa using hf 4 f4 rfl,by simpa using hf 5 f5 rfl⟩
theorem cells32f:Tryz.prog.cellsOf 25=32:=by kernel_rfl
theorem cells1sf:Tryz.prog.cellsOf 26=1:=by kernel_rfl
theorem cells1bf:Tryz.prog.cellsOf 5=1:=by kernel_rfl
theorem cells1if:Tryz.prog.cellsOf 3=1:=by kernel_rfl
theorem cells38:Tryz.prog.cellsOf 28=38:=by kernel_rfl
theorem cells2b:Tryz.prog.cellsOf 23=2:=by kernel_rfl
theorem open_fact {fuel:Nat} {cs:List Value} {x:DataW H×List MemPlace}(h:DataW.trod enc Tryz.prog w base spare held fuel 28 cs=some x):
 ∃y:Hd Fac,cs=sF.row y/\sF.Good w y.1 y.2.1 y.2.2:=by
 obtain⟨y0,y1,y2,y3,y4,y5,n,hl,h0,h1,h2,h3,h4,h5⟩:=trod_struct6 Tryz.underlying28 h
 have h0':DataW.trod enc Tryz.prog w base spare held n 3 ((cs.drop 0).take 1)=some y0:=by rw[<-cells1if];exact h0
 have h1':DataW.trod enc Tryz.prog w base spare held n 3 ((cs.drop 1).take 1)=some y1:=by rw[<-cells1if];exact h1
 have h2':DataW.trod enc Tryz.prog w base spare held n 3 ((cs.drop 2).take 1)=some y2:=by rw[<-cells1if];exact h2
 have h3':DataW.trod enc Tryz.prog w base spare held n 23 ((cs.drop 3).take 2)=some y3:=by rw[<-cells2b];exact h3
 have h4':DataW.trod enc Tryz.prog w base spare held n 25 ((cs.drop 5).take 32)=some y4:=by rw[<-cells32f];exact h4
 have h5':DataW.trod enc Tryz.prog w base spare held n 26 ((cs.drop 37).take 1)=some y5:=by rw[<-cells1sf];exact h5
 rw[cells38]at hl
 clear h0 h1 h2 h3 h4 h5 h
 obtain⟨K,c0,_,hw0⟩:=DataW.trod_int Tryz.underlying3 h0'
 obtain⟨S,c1,_,hw1⟩:=DataW.trod_int Tryz.underlying3 h1'
 obtain⟨Hm,c2,_,hw2⟩:=DataW.trod_int Tryz.underlying3 h2'
 obtain⟨z0,z1,n3,_,hl3,g0,g1⟩:=Go.ChangeShapes.trod_struct2 Tryz.underlying23 h3'
 have g0':DataW.trod enc Tryz.prog w base spare held n3 3 ((((cs.drop 3).take 2).drop 0).take 1)=some z0:=by rw[<-cells1if];exact g0
 have g1':DataW.trod enc Tryz.prog w base spare held n3 3 ((((cs.drop 3).take 2).drop 1).take 1)=some z1:=by rw[<-cells1if];exact g1
 obtain⟨N,c3,_,hw3⟩:=DataW.trod_int Tryz.underlying3 g0'
 obtain⟨O,c4,_,hw4⟩:=DataW.trod_int Tryz.underlying3 g1'
 obtain⟨D,c5,hD,hDb⟩:=cells_bytes9 Tryz.underlying25 Tryz.underlying5 cells1bf cells32f h4'
 obtain⟨q,B,cap,c6,hA,hle,hm,hn,hB⟩:=cells_bytesl Tryz.underlying26 Tryz.underlying5 cells1bf h5'
 clear h0' h1' h2' h3' h4' h5' g0 g1 g0' g1' hl3
 have e:cs= .int .i64 K::.int .i64 S::.int .i64 Hm::.int .i64 N::.int .i64 O::(D.map v8++[.slice q B.length cap]):=by
  rcases cs with _ | ⟨a0,_ | ⟨a1,_ | ⟨a2,_ | ⟨a3,_ | ⟨a4,r⟩⟩⟩⟩⟩
  ·simp at hl
  ·simp at hl
  ·simp at hl
  ·simp at hl
  ·simp at hl
  ·simp at c0 c1 c2 c3 c4 c5 c6 hl
   subst c0 c1 c2 c3 c4
   rw[<-c5,<-c6]
   have hr:r=r.take 32++(r.drop 32).take 1:=by rw[List.take_of_length_le (l:=r.drop 32) (by rw[List.length_drop];omega),List.take_append_drop]
   rw[<-hr]
 have k0:=bounds_i64 hw0
 have k1:=bounds_i64 hw1
 have k2:=bounds_i64 hw2
 have k3:=bounds_i64 hw3
 have k4:=bounds_i64 hw4
 exact⟨(⟨K,S,Hm,N,O,D,B⟩,q,cap),e,⟨⟨k0,k1,k2,k3,k4,hDb,hB,hD⟩,hA,hle,by unfold maxLen at hm;omega,hn⟩⟩
theorem fflat_inv (ys:List (Hd Fac))(h:∀y∈ys,y.1.ok)(j:Nat)(v:Value)(hv:(ys.flatMap sF.row)[j]? = some v):∃(i r:Nat)(hi:i < ys.length),r < 38/\j=i*38+r/\(sF.row ys[i])[r]? = some v:=by
 induction ys generalizing j with
 | nil=>simp at hv
 | cons y ys ih=>
    have hl:(sF.row y).length=38:=fcells_length (h y (List.mem_cons_self ..)).len _ _
    rw[List.flatMap_cons]at hv
    by_cases hj:j < 38
    ·rw[List.getElem?_append_left (by omega)]at hv
     exact⟨0,j,by simp,hj,by omega,by simpa using hv⟩
    ·rw[List.getElem?_append_right (by omega),hl]at hv
     obtain⟨i,r,hi,hr,he,hv'⟩:=ih (fun y hy=>h y (List.mem_cons_of_mem _ hy)) (j - 38) hv
     exact⟨i+1,r,by simpa using hi,hr,by omega,by simpa using hv'⟩
theorem open_facts {r:Reach} {b0:Nat} {v:Value} {d:DataW H} {p:List MemPlace}(hv:Value.okWide Tryz.prog w r b0 30 v)(h:DataW.Trod enc Tryz.prog w base spare held 30 v d p):
 ∃(q:Option Addr) (l:List Fac) (len cap:Nat),v= .slice q len cap/\sF.Told w q len cap l:=by
 obtain⟨a0,len0,cap0,rfl⟩:=okWide_slice Tryz.underlying30 hv
 obtain⟨fuel,hf⟩:=h
 rcases Deep.open_slice Tryz.underlying30 hf with⟨hcs,hx⟩ | ⟨a,len,cap,m,n,D,Pl,hcs,_,hl,hm,hmm,hx,hel⟩
 ·simp[Value.cells]at hcs
  obtain⟨rfl,rfl,rfl⟩:=hcs
  exact⟨none,[],0,0,rfl,Shp.Told.none_ _⟩
 ·simp[Value.cells]at hcs
  obtain⟨rfl,rfl,rfl⟩:=hcs
  have hlm:len0<=m:=by rw[hmm];split<;>omega
  have key:∀i,i < len0->∃y:Hd Fac,w.cells? base (a.add (i*38)) 38=some (sF.row y)/\sF.Good w y.1 y.2.1 y.2.2:=by
   intro i hi
   obtain⟨cs',h1,h2⟩:=hel i (by omega)
   rw[cells38]at h1
   obtain⟨y,rfl,hg⟩:=open_fact h2
   exact⟨y,h1,hg⟩
  have:Inhabited (Hd Fac):=⟨(⟨0,0,0,0,0,[],[]⟩,none,0)⟩
  obtain⟨f,hF⟩:=Deep.choose_lt key
  have hgood:∀y∈(List.range len0).map f,sF.Good w y.1 y.2.1 y.2.2:=by
   intro y hy
   obtain⟨i,hi,rfl⟩:=List.mem_map.1 hy
   exact(hF i (List.mem_range.1 hi)).2
  refine⟨some a,((List.range len0).map f).map (·.1),len0,cap0,rfl,by simp,hl,by unfold maxLen at hm;omega,(fun h=>by cases h),(List.range len0).map f,rfl,?_,hgood⟩
  by_cases h0:len0=0
  ·subst h0;exact At.nil _ _
  ·have h1:=(World.cells?_some (hF 0 (by omega)).1).2.2 0 (by omega)
   have hsp:a.spot=none:=by
    have e:(a.add (0*38)).add 0=a:=by simp[Addr.add]
    rw[e,show(sF.row (f 0))[0]? = some (.int .i64 (f 0).1.K)from fcells_K _ _ _]at h1
    cases hs:a.spot with
    | none=>rfl
    | some s=>
       unfold World.cell? at h1
       split at h1
       ·simp[hs]at h1
       ·cases h1
   obtain⟨b,off,sp⟩:=a
   simp only at hsp
   subst hsp
   refine Or.inr ⟨b,off,rfl,fun j v hj=>?_⟩
   obtain⟨i,r,hi,hr,rfl,hv'⟩:=fflat_inv _ (fun y hy=>(hgood y hy).ok) j v hj
   have h2:=(World.cells?_some (hF i (by simpa using hi)).1).2.2 r hr
   rw[Addr.add_mid,Addr.add_mid,Nat.add_assoc]at h2
   rw[h2]
   simpa using hv'
end
end
end Go.Proofs.YtokpabkcaofahaaGreat
