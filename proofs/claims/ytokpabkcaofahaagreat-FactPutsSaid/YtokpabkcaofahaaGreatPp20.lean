/-
  What stands under factPuts_holds: part 20.
-/
import Derived.Test.YtokpabkcaofahaaGreatPp19
import Derived.Test.YtokpabkcaofahaaGreatPp2
import Derived.Test.YtokpabkcaofahaaGreatPp4
import Derived.Test.YtokpabkcaofahaaGreatPp3
import Derived.Deep.RegionLaw
import Derived.Test.YtokpabkcaofahaaGreatPp7
namespace Go.Proofs.YtokpabkcaofahaaGreat
set_option linter.unusedSimpArgs false
set_option linter.unusedVariables false
set_option maxRecDepth 100000
set_option maxHeartbeats 20000000
section
open Go.RowKit Sha Fct
theorem zero1_K:(Tryz.prog.info? 95).map (fun i=>i.zero)=some (some (.agg (kcells (0,Fld.zero32) none 0).toArray)):=by
 have h:=info_K
 cases hq:Tryz.prog.info? 95 with
 | none=>rw[hq]at h;cases h
 | some i=>rw[hq]at h;simp at h;simp[h.1]
theorem zeroV_K (w:World):(zeroValue 95).run Tryz.prog w= .ok (.agg (kcells (0,Fld.zero32) none 0).toArray) w:=by
 have h:=zero1_K
 cases hq:Tryz.prog.info? 95 with
 | none=>rw[hq]at h;cases h
 | some i=>rw[hq]at h;simp at h;simp[zeroValue,typeInfo,hq,h]
theorem execOp_allocOK (ρ:Operand->Value)(dst:Option Tmp)(ty:TypeId)(pos:String)(after:Array Edge)(guard:Option (Nat×Bool)):
 execOp ρ {dst:=dst,op:=.alloc 95,type:=ty,pos:=pos,after:=after,guard:=guard}= allocOp 95:=by unfold allocOp;rfl
theorem execOp_storeOK (ρ:Operand->Value)(dst:Option Tmp)(x y:Operand)(ty:TypeId)(pos:String)(after:Array Edge)(guard:Option (Nat×Bool)):
 execOp ρ {dst:=dst,op:=.store 95 x y,type:=ty,pos:=pos,after:=after,guard:=guard}= storeOp 95 (ρ x) (ρ y):=by unfold storeOp;rfl
theorem alloc_OK (w:World):(allocOp 95).run Tryz.prog w= .ok (.value (.pointer (some ⟨w.heap.size,0,none⟩))) (w.alloc (.cells (kcells (0,Fld.zero32) none 0).toArray 95)):=run_allocOp w zero1_K
theorem storeN_OK (w:World) {x:Int×Fct.Id}(hx:sK.ok x)(q:Option Addr)(c:Nat):(storeOp 95 (.pointer (some ⟨w.heap.size,0,none⟩)) (.agg (kcells x q c).toArray)).run Tryz.prog (w.alloc (.cells (kcells (0,Fld.zero32) none 0).toArray 95))= .ok .skip (w.alloc (.cells (kcells x q c).toArray 95)):=by
 have hl:(kcells x q c).length=33:=sK.len q c hx
 refine run_storeNew w (by rw[isize_K];simp[hl]) (by rw[List.size_toArray,List.size_toArray,hl];exact zlen_K) ?_
 have h1:=sK.one x q c
 simp only[List.all_toArray,List.all_eq_true]
 exact h1
def DltK (mb:Nat)(Pr:Int×Fct.Id->Bool)(ys:List (Hd (Int×Fct.Id)))(I:World->Nat->Prop)(w:World)(B:Nat)(v:Value)(e:Ending)(w':World):Prop:=
 ∃v',e= .returned v'/\Rws sK 95 w' B v' (ys.filter fun y=>!Pr y.1)/\I w' ys.length/\Chg (fun k=>v.ownBlock=some k\/k=mb) w w'
attribute [local go_sem ↓] execOp_loadOK execOp_allocOK execOp_storeOK execOp_sliceK
theorem del_K (mb:Nat)(cap:Value)(Pr:Int×Fct.Id->Bool)(ys:List (Hd (Int×Fct.Id)))(I:World->Nat->Prop)(HP:PrdK mb cap Pr ys I)(w:World)(B:Nat)(v:Value)(h:Rws sK 95 w B v ys)(hI:I w 0)(hn:ys.length<=1000000000):
 Calls Tryz.prog 164 #[v,.func (.func 165) #[] #[cap]] w (DltK mb Pr ys I w B v):=by
 have HIX:=Lib.hid (idx_K mb cap Pr ys I HP w B v h hI hn)
 by_cases h0:ixK Pr ys=ys.length
 ·obtain⟨p,c,rfl,_⟩:=h.told
  have HR:=Lib.hid h
  have HF:=Lib.hid (show(ys.filter fun y=>!Pr y.1)=ys from List.filter_eq_self.2 fun y hy=>by
   obtain⟨i,hi,rfl⟩:=List.getElem_of_mem hy
   have:=List.not_of_lt_findIdx (p:=fun y:Hd (Int×Fct.Id)=>Pr y.1) (xs:=ys) (i:=i) (by unfold ixK at h0;rw[h0];exact hi)
   simpa using this)
  have HM:=Lib.hid (HP.map _ _ hI)
  clear h hI
  go_enter Tryz.func164,Tryz.ntmps164
  go_wp2_with fail
  refine HIX.out.mono ?_
  rintro e w2 ⟨r,rfl,hr,hg2⟩
  rcases hr with⟨hr,_,hI2⟩ | ⟨_,hr,_⟩
  rotate_left
  ·omega
  subst hr
  have HG2:=Lib.hid hg2
  have HI2:=Lib.hid hI2
  clear hg2 hI2
  go_wp2_with fail
  go_ret
  refine⟨_,rfl,?_,HI2.out,(Chg.refl _ w).grown HG2.out fun k hk _=>Or.inr (by cases hk;rfl)⟩
  rw[HF.out];exact HR.out.map_ HG2.out HM.out
 ·have hlt:ixK Pr ys < ys.length:=by
   have:ixK Pr ys<=ys.length:=List.findIdx_le_length
   omega
  obtain⟨g,cp,rest,rfl,hBg,hcp,hmx,hk,hl,hl2⟩:=own_whole h.own (by omega)
  obtain⟨n,hnl⟩:∃n,n=ys.length:=⟨_,rfl⟩
  obtain⟨ix,hix⟩:∃i,i=ixK Pr ys:=⟨_,rfl⟩
  rw[<-hix]at hlt
  have hrest:rest.length=(cp - n)*33:=by
   rw[List.length_append,hl,<-hnl]at hl2
   have e:sK.n=33:=rfl
   rw[e]at hl2
   rw[Nat.sub_mul];omega
  -- behind the first one
  have h1:Pr ys[ix].1=true:=by
   subst hix
   exact List.findIdx_getElem (p:=fun y:Hd (Int×Fct.Id)=>Pr y.1) (xs:=ys) (w:=hlt)
  have hF0:(ys.take ix).filter (fun y=>!Pr y.1)=ys.take ix:=List.filter_eq_self.2 fun y hy=>by
   obtain⟨i,hi,rfl⟩:=List.getElem_of_mem hy
   rw[List.length_take]at hi
   have:=List.not_of_lt_findIdx (p:=fun y:Hd (Int×Fct.Id)=>Pr y.1) (xs:=ys) (i:=i) (by rw[hix]at hi;unfold ixK at hi;omega)
   simpa using this
  have hF1:(ys.take (ix+1)).filter (fun y=>!Pr y.1)=ys.take ix:=by
   rw[filter_upto _ _ _ hlt,hF0];simp[h1]
  have hM:MidB sK w g 95 (ys.take ix) (sK.row ys[ix]) (ys.drop (ix+1)) rest:=by
   unfold MidB
   rw[<-flat_el h.ok ix hlt];exact hk
  have hG0:(sK.row ys[ix]).length=(ix+1 - ix)*33:=by
   rw[Nat.add_sub_cancel_left,Nat.one_mul];exact sK.len _ _ (h.ok _ (List.getElem_mem hlt))
  have hFl:(ys.take ix).length=ix:=by rw[List.length_take];omega
  rw[<-hF1]at hM hFl
  have HM:=Lib.hid hM
  have HR:=Lib.hid h
  have HK:=Lib.hid hk
  have HMB:=Lib.hid (HP.map _ _ hI)
  have HNL:=Lib.hid hnl
  have HX:=Lib.hid hix
  have HG0:=Lib.hid hG0
  have HFL:=Lib.hid hFl
  have HRE:=Lib.hid hrest
  rw[<-hnl]at hcp hlt ⊢
  generalize sK.row ys[ix] = G0 at *
  clear hnl hix hM h hI hk hl hl2 h1 hF0 hF1 hG0 hFl hrest
  go_enter Tryz.func164,Tryz.ntmps164
  go_wp2_with fail
  rw[HNL.out]
  refine HIX.out.mono ?_
  rintro e w2 ⟨r,rfl,hr,hg2⟩
  rcases hr with⟨_,hr,_⟩ | ⟨hr,_,hI2⟩
  ·omega
  rw[<-HX.out]at hr hI2
  subst hr
  rw[<-HNL.out]
  have HM2:=Lib.hid (HM.out.kept hg2 fun e=>isMap_ne HMB.out HK.out (by cases e;rfl))
  have HI2:=Lib.hid hI2
  have HC2:=Lib.hid ((Chg.refl (fun k=>k=g\/k=mb) w).grown hg2 fun k hk _=>Or.inr (by cases hk;rfl))
  clear hg2 hI2
  have hm1:((ix:Int) == -1)=false:=by rw[beq_eq_false_iff_ne];omega
  go_wp2_with fail
  go_loopw [5,6] (fun vi vj wr=>∃(i j:Nat) (G:List Value),vi= .int .i64 i/\vj= .int .i64 j/\i < j/\j<=n/\Hid (((ys.take j).filter fun y=>!Pr y.1).length=i)/\Hid (G.length=(j - i)*33)/\Hid (MidB sK wr g 95 ((ys.take j).filter fun y=>!Pr y.1) G (ys.drop j) rest)/\Hid (I wr j)/\Hid (Chg (fun k=>k=g\/k=mb) w wr)) (fun _ j _=>n - (intOf j).toNat)
  case atStart=>exact⟨ix,ix+1,G0,rfl,by go_num,by omega,by omega,HFL,HG0,HM2,HI2,HC2⟩
  case round=>
   obtain⟨i,j,G,rfl,rfl,hij,hjn,HF,HG,HB,HI,HC⟩:=hrel
   have HFO:=Lib.hid (show∀y∈(ys.take j).filter (fun y=>!Pr y.1),sK.ok y.1 from fun y hy=>HR.out.ok y (List.mem_of_mem_take (List.mem_filter.1 hy).1))
   by_cases hjl:j < n
   ·have hjy:j < ys.length:=by rw[<-HNL.out];exact hjl
    have hdr:ys.drop j=ys[j]::ys.drop (j+1):=List.drop_eq_getElem_cons hjy
    have hfu:=filter_upto (fun y:Hd (Int×Fct.Id)=>!Pr y.1) ys j hjy
    have hb1:=HB.out
    rw[hdr]at hb1
    have hoky:=HR.out.ok _ (List.getElem_mem hjy)
    have hca:=fun w h=>HP.call w j hjy h
    obtain⟨y,hy⟩:∃y,y=ys[j]:=⟨_,rfl⟩
    rw[<-hy]at hfu hb1 hoky hca
    have HFU:=Lib.hid hfu
    have HOK:=Lib.hid hoky
    have HCA:=Lib.hid hca
    have hr2:wr.rangeAt g (j*33) (kcells y.1 y.2.1 y.2.2):=hb1.range HFO.out HF.out HG.out (by omega)
    have l1:=load_OK hoky hr2
    have al:=alloc_OK wr
    have sN:=storeN_OK wr hoky y.2.1 y.2.2
    have hbk:Blk (wr.alloc (.cells (kcells y.1 y.2.1 y.2.2).toArray 95)) wr.heap.size (kcells y.1 y.2.1 y.2.2) 95:=Blk.new wr _ 95
    have hg2:=alloc_grown wr (.cells (kcells y.1 y.2.1 y.2.2).toArray 95) none
    have HI2:=Lib.hid (HP.stays _ _ _ none HI.out hg2 (fun k hk=>by cases hk))
    have HB2:=Lib.hid (hb1.kept hg2 (by simp))
    have HC2:=Lib.hid (HC.out.grown hg2 (by intro k hk;cases hk))
    obtain⟨b0,hb0⟩:∃b,b=wr.heap.size:=⟨_,rfl⟩
    rw[<-hb0]at al sN hbk
    have HBK:=Lib.hid hbk
    have l2:=load_OK hoky hbk.range
    obtain⟨F,hF⟩:∃F,F=(ys.take j).filter (fun y:Hd (Int×Fct.Id)=>!Pr y.1):=⟨_,rfl⟩
    rw[<-hF]at HF HFO HFU HB2
    clear hF hb0 hy hfu hb1 hoky hca hdr hr2 hg2 hbk HB HI HC
    generalize wr.alloc (.cells (kcells (0,Fld.zero32) none 0).toArray 95)=w1 at *
    generalize wr.alloc (.cells (kcells y.1 y.2.1 y.2.2).toArray 95)=w2 at *
    have hjn2:(0:Int)<=(j:Int)/\(j:Int) < (n:Int):=by omega
    have hin2:(0:Int)<=(i:Int)/\(i:Int) < (n:Int):=by omega
    go_wp2_with fail
    refine(HCA.out _ HI2.out).mono ?_
    rintro e w3 ⟨rfl,hI3,hg3⟩
    have HM2:=Lib.hid (HP.map _ _ HI2.out)
    have HB3:=Lib.hid (HB2.out.kept hg3 (fun e=>isMap_ne HM2.out (show Blk w2 g _ _ from HB2.out) (by cases e;rfl)))
    have HK3:=Lib.hid (blk_grown HBK.out hg3 (fun e=>isMap_ne HM2.out HBK.out (by cases e;rfl)))
    have HI3:=Lib.hid hI3
    have HC3:=Lib.hid (HC2.out.grown hg3 fun k hk _=>Or.inr (by cases hk;rfl))
    clear hI3 hg3 l1 l2 al sN
    cases hp:Pr y.1 with
    | true=>
       have HFU2:=Lib.hid (show(ys.take (j+1)).filter (fun y:Hd (Int×Fct.Id)=>!Pr y.1)=F by rw[HFU.out,hp];simp)
       clear hp
       go_wp2_with fail
       go_roundw
       case rel=>
        refine⟨i,j+1,G++sK.row y,rfl,by go_num,by omega,by omega,?_,?_,?_,HI3,HC3⟩
        ·rw[HFU2.out];exact HF
        ·refine Lib.hid ?_
         rw[List.length_append,HG.out,show(sK.row y).length=33 from sK.len _ _ HOK.out,show j+1 - i=(j - i)+1 by omega,Nat.succ_mul]
        ·rw[HFU2.out];exact Lib.hid HB3.out.skip
       case measure=>simp[intOf];omega
    | false=>
       have HFU2:=Lib.hid (show(ys.take (j+1)).filter (fun y:Hd (Int×Fct.Id)=>!Pr y.1)=F++[y] by rw[HFU.out,hp];simp)
       clear hp
       obtain⟨k1,k2,k3⟩:=HB3.out.keep HFO.out HOK.out HF.out HG.out hij
       have st:(storeOp 95 (.pointer (some ⟨g,i*33,none⟩)) (.agg (kcells y.1 y.2.1 y.2.2).toArray)).run Tryz.prog w3= .ok .skip (w3.setCells g (i*33) (sK.row y)):=k3 isize_K
       have hg4:=setCells_grown w3 g (i*33) (sK.row y)
       have l3:=load_OK HOK.out HK3.out.range
       have HI4:=Lib.hid (HP.stays _ _ _ (some g) HI3.out hg4 (fun k hk=>by cases hk;exact⟨_,_,HB3.out⟩))
       have HC4:=Lib.hid (HC3.out.grown hg4 fun k hk _=>Or.inl (by cases hk;rfl))
       have HB4:=Lib.hid k1
       have HG4:=Lib.hid k2
       clear k1 k2 k3 hg4
       have e1:sK.n=33:=rfl
       rw[e1]at HB4
       generalize w3.setCells g (i*33) (sK.row y)=w4 at *
       clear e1
       go_wp2_with fail
       go_roundw
       case rel=>
        refine⟨i+1,j+1,_,by go_num,by go_num,by omega,by omega,?_,HG4,?_,HI4,HC4⟩
        ·rw[HFU2.out];refine Lib.hid ?_;rw[List.length_append,HF.out];rfl
        ·rw[HFU2.out];exact HB4
       case measure=>simp[intOf];omega
   ·obtain rfl:j=n:=by omega
    have hdr:ys.drop j= []:=List.drop_eq_nil_of_le (by rw[HNL.out];omega)
    have htk:ys.take j=ys:=List.take_of_length_le (by rw[HNL.out];omega)
    rw[hdr]at HB
    rw[htk]at HB HF HFO
    have hz:=zsize_K
    obtain⟨zz,hzz⟩:∃zz:Value,zz= .agg (kcells (0,Fld.zero32) none 0).toArray:=⟨_,rfl⟩
    have hzv:=zeroV_K
    rw[<-hzz]at hz hzv
    have hz1:∀v∈zz.cells.toList,v.oneCell'=true:=by rw[hzz];exact sK.one _ _ _
    have hZl:(Builtin.zeroCells zz.cells (j - i)).toList.length=(j - i)*33:=by rw[Array.length_toList,size_zeroCells,hz]
    obtain⟨hown,hth⟩:=HB.out.clear HFO.out HF.out HG.out hZl (by omega) hBg hcp hmx HRE.out
    have cl:=run_clearS (P:=Tryz.prog) wr Tryz.underlying42 hzv (by omega) hz1 g (i*33) (j - i) (cp - i) (by omega) (by rw[hz];exact hth)
    have hg4:=setCells_grown wr g (i*33) (Builtin.zeroCells zz.cells (j - i)).toList
    have HI4:=Lib.hid (HP.stays _ _ _ (some g) HI.out hg4 (fun k hk=>by cases hk;exact⟨_,_,HB.out⟩))
    have HC4:=Lib.hid (HC.out.grown hg4 fun k hk _=>Or.inl (by cases hk;rfl))
    have HO4:=Lib.hid hown
    have k0:=cut_lK (some ⟨g,0,none⟩) j cp i (by omega) hcp
    simp only[if_neg (show¬(cp=i) by omega),Option.map_some,Addr.add_mid,Nat.zero_add]at k0
    have k1:=cut_hK (some ⟨g,0,none⟩) j cp i (by omega)
    clear hown hth hg4 hz hzv hz1 hZl hzz hdr htk
    have e1:sK.n=33:=rfl
    rw[e1]at HO4
    clear e1
    generalize wr.setCells g (i*33) (Builtin.zeroCells zz.cells (j - i)).toList=w4 at *
    have hfl:=HF.out
    generalize j - i=dl at *
    generalize cp - i=dc at *
    go_wp2_with (at_builtin;refine clear_law _ rfl (.tmp 38) 42 rfl _ rfl (cl _) ?_)
    go_ret
    have hold:∀y∈ys,sK.Good w4 y.1 y.2.1 y.2.2/\U8 w4 y.2.1 (sK.byt y.1):=fun y hy=>by
     have hk:=u8_keeps HC4.out fun k cs hb=>by
      rintro(e | e)
      ·subst e;exact absurd (blk_ty hb HK.out) (by decide)
      ·exact isMap_ne HMB.out hb e.symm
     exact⟨good_blk (HR.out.good y hy).1 (HR.out.good y hy).2 hk,(HR.out.good y hy).2.on hk⟩
    refine⟨_,rfl,⟨?_,fun y hy=>hold y (List.mem_filter.1 hy).1⟩,by rw[<-HNL.out];exact HI4.out,HC4.out.mono fun k _ hk=>hk.imp (fun e=>by rw[e];rfl) id⟩
    rw[hfl];exact HO4.out
end
section
open Go.RowKit Sha Fct
theorem info_H:(Tryz.prog.info? 97).map (fun i=>(i.zero,i.size,i.bytes))=some (some (.agg (hcells (0,0,Fld.zero32) none 0).toArray),34,48):=by unfold hcells;kernel_rfl
theorem isize_H:(Tryz.prog.info? 97).map (fun i=>i.size)=some 34:=by
 have h:=info_H
 cases hq:Tryz.prog.info? 97 with
 | none=>rw[hq]at h;cases h
 | some i=>rw[hq]at h;simp at h;simp[h.2.1]
theorem zlen_H:(hcells (0,0,Fld.zero32) none 0).length=34:=by unfold hcells;simp[Fld.zero32]
theorem zsize_H:(Value.agg (hcells (0,0,Fld.zero32) none 0).toArray).cells.size=34:=by simp only[Value.cells,List.size_toArray];exact zlen_H
theorem execOp_sliceH (ρ:Operand->Value)(dst:Option Tmp)(x:Operand)(lo hi:Option Operand)(ty:TypeId)(pos:String)(after:Array Edge)(guard:Option (Nat×Bool)):
 execOp ρ {dst:=dst,op:=.slice 43 x lo hi none,type:=ty,pos:=pos,after:=after,guard:=guard}= sliceOp 43 (ρ x) (lo.map ρ) (hi.map ρ):=by unfold sliceOp;rfl
def InsH (w:World)(B:Nat)(v:Value)(n:Nat)(xs:List Value)(e:Ending)(w':World):Prop:=
 ∃v',e= .returned v'/\w'.ownsRow B 97 34 v' n xs/\w.grownBy w' v.ownBlock/\(∀g,v'.ownBlock=some g->v.ownBlock=some g\/w.heap.size<=g)
attribute [local go_sem ↓] execOp_sliceH
theorem cut_lH (p:Option Addr)(len cap k:Nat)(hk:k<=len)(hc:len<=cap)(w:World):(sliceOp 43 (.slice p len cap) (some (.int .i64 k)) none).run Tryz.prog w= .ok (.value (.slice (if cap=k then p else p.map (·.add (k*34))) (len - k) (cap - k))) w:=
 run_sliceOp (run_cutS_l Tryz.underlying43 isize_H p len cap k hk hc w)
theorem cut_hH (p:Option Addr)(len cap k:Nat)(hk:k<=cap)(w:World):(sliceOp 43 (.slice p len cap) none (some (.int .i64 k))).run Tryz.prog w= .ok (.value (.slice p k cap)) w:=
 run_sliceOp (run_cutS_h Tryz.underlying43 isize_H p len cap k hk w)
theorem insEnd_H (w:World)(B:Nat)(v:Value)(n:Nat)(xs:List Value)(ho:w.ownsRow B 97 34 v n xs)(pb:Nat)(c:List Value)(hc:c.length=34)(h1:∀u∈c,u.oneCell'=true)(hb:Blk w pb c 97)(hn:n<=1000000000)(hB:B<=w.heap.size):
 Calls Tryz.prog 176 #[v,.int .i64 n,.slice (some ⟨pb,0,none⟩) 1 1] w (InsH w B v (n+1) (xs++c)):=by
 obtain⟨p,cap,rfl,hle,hmx,hA,hB2,hnil⟩:=own_at_s ho
 have k1:=cut_lH p n cap n (Nat.le_refl _) hle w
 generalize(if cap=n then p else p.map (·.add (n*34)))=p1 at *
 have HO:=Lib.hid ho
 have hA1:=Lib.hid (show At w (some ⟨pb,0,none⟩) c from At.ofBlk (rest:=[]) (by simpa using hb))
 have HC:=Lib.hid hc
 have H1:=Lib.hid h1
 clear ho hc h1 hb hA hB2 hnil
 unfold maxLen at hmx
 go_enter Tryz.func176,Tryz.ntmps176
 go_wp2_with (at_builtin;refine wpList_app_s rfl (.tmp 23) (.tmp 24) 43 rfl B 97 (size:=34) (by omega) Tryz.underlying43 info_H zsize_H _ n xs rfl HO.out (some ⟨pb,0,none⟩) 1 1 c rfl hA1.out (by rw[HC.out]) (fun h=>by cases h) (Nat.le_refl _) H1.out (by omega) (by unfold maxLen;omega) hB ?_;intro v7 w7 hown7 hg7 hat7;have O7:=Lib.hid hown7;have G7:=Lib.hid hg7;have A7:=Lib.hid hat7;clear hown7 hg7 hat7)
 go_ret
 exact⟨v7,rfl,O7.out,G7.out,A7.out⟩
theorem over_H (w:World)(pb g o lb cb:Nat) {c cs:List Value} {tp tg:TypeId}(hp:Blk w pb c tp)(hg:Blk w g cs tg)(hne:pb≠g)(hcs:cs≠[]):
 (callFunc 190 #[.slice (some ⟨pb,0,none⟩) 1 1,.slice (some ⟨g,o,none⟩) lb cb]).run Tryz.prog w= .ok (.value (.bool false)) w:=by
 have hsz:=isize_H
 rw[run_callFunc_extern Tryz.func190 (by kernel_rfl) (by kernel_rfl) (by kernel_rfl) (e:=Extern.SlicesOverlaps.overlaps #[43,43] #[4]) (by kernel_rfl),
  Lib.run_overlaps_apart w 43 4 97 Tryz.underlying43 34 (size_ofS isize_H) ⟨pb,0,none⟩ ⟨g,o,none⟩ 1 1 lb cb hne tp tg c.length cs.length (by unfold World.shape?;rw[hp];rfl) (by unfold World.shape?;rw[hg];rfl) (by simpa using hcs) (hp.free 0) (hp.free _)]
 rfl
theorem insIn_H (w:World)(B g n cap i:Nat)(A D R:List Value)(hA:A.length=i*34)(hD:D.length=(n - i)*34)(hR:R.length=(cap - n)*34)(hi:i < n)(hcap:n+1<=cap)(hm:cap<=maxLen)(hBg:B<=g)(hg:Blk w g (A++D++R) 97)
 (hAD1:∀u∈A++D,u.oneCell'=true) (pb:Nat) (c:List Value) (hc:c.length=34) (h1:∀u∈c,u.oneCell'=true) (hb:Blk w pb c 97) (hne:pb≠g):
 Calls Tryz.prog 176 #[.slice (some ⟨g,0,none⟩) n cap,.int .i64 i,.slice (some ⟨pb,0,none⟩) 1 1] w (InsH w B (.slice (some ⟨g,0,none⟩) n cap) (n+1) (A++c++D)):=by
 unfold maxLen at hm
 have hDR:(D++R).length=(cap - i)*34:=by rw[List.length_append,hD,hR,<-Nat.add_mul];congr 1;omega
 -- the room is parted
 have hL1:((D++R).take 34).length=34:=by rw[List.length_take,hDR];have:1*34<=(cap - i)*34:=Nat.mul_le_mul_right _ (by omega);omega
 have hL2:(((D++R).drop 34).take D.length).length=D.length:=by
  rw[List.length_take,List.length_drop,hDR,hD]
  have:(n - i)*34+1*34<=(cap - i)*34:=by rw[<-Nat.add_mul];exact Nat.mul_le_mul_right _ (by omega)
  omega
 have hparts:A++D++R=(A++(D++R).take 34)++((D++R).drop 34).take D.length++((D++R).drop 34).drop D.length:=by
  rw[List.append_assoc (A++_),List.take_append_drop,List.append_assoc A ((D++R).take _),List.take_append_drop,List.append_assoc]
 generalize(D++R).take 34=L1 at *
 generalize((D++R).drop 34).take D.length=L2 at *
 generalize((D++R).drop 34).drop D.length=L3 at *
 have hgd:Blk w.drew g (A++D++R) 97:=hg
 have hgp:=hgd
 rw[hparts]at hgp
 have hg2:Blk (w.drew.setCells g ((i+1)*34) D) g ((A++L1)++D++L3) 97:=Blk.setCells D _ _ _ _ _ hgp (by rw[List.length_append,hA,hL1,Nat.add_mul,Nat.one_mul]) hL2
 have hg2':Blk (w.drew.setCells g ((i+1)*34) D) g (A++L1++(D++L3)) 97:=by rw[<-List.append_assoc];exact hg2
 have hg3:Blk ((w.drew.setCells g ((i+1)*34) D).setCells g (i*34) c) g (A++c++(D++L3)) 97:=Blk.setCells c _ _ _ _ _ hg2' hA (by rw[hL1,hc])
 have hpb2:Blk (w.drew.setCells g ((i+1)*34) D) pb c 97:=by
  unfold Blk;rw[setCells_heap g D _ w.drew pb hne];exact hb
 have hlen2:((A++L1)++D++L3).length=(A++D++R).length:=by rw[hparts];simp[hL2]
 have hlenW:(A++D++R).length=cap*34:=by
  rw[List.append_assoc,List.length_append,hA,hDR,<-Nat.add_mul];congr 1;omega
 have cp1:=run_copyS (P:=Tryz.prog) w.drew Tryz.underlying43 isize_H g ((i+1)*34) (n+1 - (i+1)) (cap - (i+1)) ⟨g,i*34,none⟩ (n+1 - i) (cap - i) (n - i) D (by simp only[Nat.min_def];split<;>omega) hD (cells_in hgd hA)
  (hgd.there _ _ (by rw[hlenW,hD,<-Nat.add_mul];exact Nat.mul_le_mul_right _ (by omega))) (fun u hu=>hAD1 u (List.mem_append_right _ hu))
 have cp2:=run_copyS (P:=Tryz.prog) (w.drew.setCells g ((i+1)*34) D) Tryz.underlying43 isize_H g (i*34) (n+1 - i) (cap - i) ⟨pb,0,none⟩ 1 1 1 c (by simp only[Nat.min_def];split<;>omega) (by rw[hc,Nat.one_mul]) (cells_in (pre:=[]) (post:=[]) (by simpa using hpb2) rfl)
  (hg2.there _ _ (by rw[hlen2,hlenW,hc,<-Nat.succ_mul];exact Nat.mul_le_mul_right _ (by omega))) h1
 have k0:=cut_lH (some ⟨g,0,none⟩) n cap i (by omega) (by omega) w
 have k1:∀W,(sliceOp 43 (.slice (some ⟨g,0,none⟩) n cap) none (some (.int .i64 ((n:Int)+1)))).run Tryz.prog W= .ok (.value (.slice (some ⟨g,0,none⟩) (n+1) cap)) W:=fun W=>cut_hH (some ⟨g,0,none⟩) n cap (n+1) hcap W
 have k2:∀W,(sliceOp 43 (.slice (some ⟨g,0,none⟩) (n+1) cap) (some (.int .i64 ((i:Int)+1))) none).run Tryz.prog W= .ok (.value (.slice (some ⟨g,(i+1)*34,none⟩) (n+1 - (i+1)) (cap - (i+1)))) W:=fun W=>by
  have h:=cut_lH (some ⟨g,0,none⟩) (n+1) cap (i+1) (by omega) hcap W
  rw[if_neg (by omega)]at h
  simpa[Addr.add_mid]using h
 have k3:∀W,(sliceOp 43 (.slice (some ⟨g,0,none⟩) (n+1) cap) (some (.int .i64 (i:Int))) none).run Tryz.prog W= .ok (.value (.slice (some ⟨g,i*34,none⟩) (n+1 - i) (cap - i))) W:=fun W=>by
  have h:=cut_lH (some ⟨g,0,none⟩) (n+1) cap i (by omega) hcap W
  rw[if_neg (by omega)]at h
  simpa[Addr.add_mid]using h
 have hov:=over_H w pb g ((i+1)*34) (n+1 - (i+1)) (cap - (i+1)) hb hg hne (by
  intro h0;rw[h0]at hlenW
  have:1*34<=cap*34:=Nat.mul_le_mul_right _ (by omega)
  simp at hlenW;omega)
 generalize(if cap=i then(some (⟨g,0,none⟩:Addr))else(some (⟨g,0,none⟩:Addr)).map (·.add (i*34)))=p0 at *
 have hwr1:IntKind.i64.wrap ((i:Int)+1)=(i:Int)+1:=by rw[IntKind.wrap_i64];omega
 have hni:((i:Int) == (n:Int))=false:=by rw[beq_eq_false_iff_ne];omega
 have hroom:decide ((cap:Int) < (n:Int)+1)=false:=by rw[decide_eq_false_iff_not];omega
 have hgr:w.grownBy ((w.drew.setCells g ((i+1)*34) D).setCells g (i*34) c) (some g):=by
  have h2:=setCells_below (a:=w.drew) (B:=g) (Nat.le_refl _) D ((i+1)*34) w.drew (Below.refl _ _)
  have h3:=setCells_below (a:=w.drew) (B:=g) (Nat.le_refl _) c (i*34) _ h2
  exact⟨h3.os,h3.tape,h3.output,h3.size,fun k hk hn=>by
   have hkg:k≠g:=fun e=>hn (by rw[e])
   rw[setCells_heap g c _ _ k hkg,setCells_heap g D _ _ k hkg];rfl⟩
 have hown:=own_ofBlk (B:=B) (n:=n+1) (s:=34) (cap:=cap) (xs:=A++c++D) (rest:=L3) hBg (by rw[List.append_assoc (A++c)];exact hg3) hcap (by unfold maxLen;exact hm)
  (by rw[List.length_append,List.length_append,hA,hc,hD,<-Nat.succ_mul,<-Nat.add_mul];congr 1;omega)
  (by rw[<-hlenW,<-hlen2];simp[hL1,hc]<;>omega)
 have HG:=Lib.hid hgr
 have HO:=Lib.hid hown
 clear hgr hown hg3 hg2 hg2' hgp hgd hg hpb2 hb hparts hlen2 hlenW hL1 hL2 hDR hR hD hA hAD1 h1 hc hne
 generalize w.drew.setCells g ((i+1)*34) D=w1 at *
 generalize w1.setCells g (i*34) c=w2 at *
 generalize n+1 - (i+1)=l2 at *
 generalize cap - (i+1)=c2 at *
 generalize n+1 - i=l3 at *
 generalize cap - i=c3 at *
 go_enter Tryz.func176,Tryz.ntmps176
 go_wp2_with (simp only[hov])
 go_region_law (refine copy_step rfl (.tmp 73) (.tmp 76) 43 43 rfl _ _ (by simp[Act.eval,Act.put]) (by simp[Act.eval,Act.put]) (cp1 _) ?_)
 all_goals
  go_wp2_with (at_builtin;refine copy_law _ rfl (.tmp 80) (.tmp 81) 43 43 rfl _ _ rfl rfl (cp2 _) ?_)
  go_ret
  exact⟨_,rfl,HO.out,HG.out,fun k hk=>Or.inl hk⟩
theorem insGrow_H (w:World)(B g n cap i:Nat)(A D R:List Value)(hA:A.length=i*34)(hD:D.length=(n - i)*34)(hi:i < n)(hn:n<=1000000000)(hle:n<=cap)(hcap:cap < n+1)(hg:Blk w g (A++D++R) 97)
 (hAD1:∀u∈A++D,u.oneCell'=true) (pb:Nat) (c:List Value) (hc:c.length=34) (h1:∀u∈c,u.oneCell'=true) (hb:Blk w pb c 97) (hB:B<=w.heap.size):
 Calls Tryz.prog 176 #[.slice (some ⟨g,0,none⟩) n cap,.int .i64 i,.slice (some ⟨pb,0,none⟩) 1 1] w (InsH w B (.slice (some ⟨g,0,none⟩) n cap) (n+1) (A++c++D)):=by
 obtain⟨i0,hi0,hz0,hz1,hz2⟩:=info_parts info_H
 obtain⟨G,hG⟩:∃G,G=grownCap w (n+1) cap 97:=⟨_,rfl⟩
 obtain⟨N,hN⟩:∃N,N=w.heap.size:=⟨_,rfl⟩
 obtain⟨zz,hzz⟩:∃zz:Value,zz= .agg (hcells (0,0,Fld.zero32) none 0).toArray:=⟨_,rfl⟩
 rw[<-hzz]at hz0
 have hzs:zz.cells.size=34:=by rw[hzz];exact zsize_H
 have hGn:n+1<=G:=by rw[hG];exact grownCap_ge w _ _ _
 have hGm:G<=maxLen:=by rw[hG];exact grownCap_le_maxLen w (n+1) cap 97 (by unfold maxLen;omega)
 have hap:∀ty,(Builtin.append_ #[43,3] ty #[.slice (some ⟨g,0,none⟩) i cap,.int .i64 ((n:Int)+1 - (i:Int))]).run Tryz.prog w =
  .ok (.slice (some ⟨N,0,none⟩) (n+1) G) (w.drew.alloc (.cells (A.toArray++Builtin.zeroCells zz.cells (n+1 - i)++Builtin.zeroCells zz.cells (G - (n+1))) 97)):=fun ty=>by
  have h:=Lib.run_append_grow_zeros (P:=Tryz.prog) w 43 3 ty 97 i0 zz .i64 .i64 Tryz.underlying43 Tryz.underlying3 hi0 hz0 (some ⟨g,0,none⟩) i cap A
   (by rw[hz1];exact run_firstCells_some w.drew 34 i ⟨g,0,none⟩ i cap A hA (cells_in (w:=w.drew) (pre:=[]) (post:=D++R) (by have h9:Blk w.drew g (A++D++R) 97:=hg;simpa using h9) rfl))
   (n+1 - i) (by omega) (by rw[hz1];omega) (by omega) (by omega) (by rw[hz2];omega) (by rw[hz2];exact growslice_fits (by omega) (by omega))
  rw[show i+(n+1 - i)=n+1 by omega]at h
  rw[show(n:Int)+1 - (i:Int)=((n+1 - i:Nat):Int) by omega,hG,hN]
  exact h
 obtain⟨Z1,hZ1⟩:∃Z1,Z1=(Builtin.zeroCells zz.cells (n+1 - i)).toList:=⟨_,rfl⟩
 obtain⟨Z2,hZ2⟩:∃Z2,Z2=(Builtin.zeroCells zz.cells (G - (n+1))).toList:=⟨_,rfl⟩
 have lZ1:Z1.length=(n+1 - i)*34:=by rw[hZ1,Array.length_toList,size_zeroCells,hzs]
 have lZ2:Z2.length=(G - (n+1))*34:=by rw[hZ2,Array.length_toList,size_zeroCells,hzs]
 have hrow:A.toArray++Builtin.zeroCells zz.cells (n+1 - i)++Builtin.zeroCells zz.cells (G - (n+1))=(A++Z1++Z2).toArray:=by
  rw[hZ1,hZ2];simp
 rw[hrow]at hap
 have b1:Blk (w.drew.alloc (.cells (A++Z1++Z2).toArray 97)) N (A++Z1++Z2) 97:=by rw[hN];exact Blk.new w.drew _ 97
 have g1:Blk (w.drew.alloc (.cells (A++Z1++Z2).toArray 97)) g (A++D++R) 97:=Blk.old (w:=w.drew) hg _
 have p1:Blk (w.drew.alloc (.cells (A++Z1++Z2).toArray 97)) pb c 97:=Blk.old (w:=w.drew) hb _
 have hgN:g≠N:=by have:=hg.lt;omega
 have hpN:pb≠N:=by have:=hb.lt;omega
 have hbw1:Below w.heap.size w (w.drew.alloc (.cells (A++Z1++Z2).toArray 97)):=(Below.refl _ w).drew.alloc (Nat.le_refl _) _
 generalize w.drew.alloc (.cells (A++Z1++Z2).toArray 97)=w1 at *
 have l1:(Z1.take 34).length=34:=by rw[List.length_take,lZ1];have:1*34<=(n+1 - i)*34:=Nat.mul_le_mul_right _ (by omega);omega
 have l2:(Z1.drop 34).length=D.length:=by
  rw[List.length_drop,lZ1,hD,show n+1 - i=(n - i)+1 by omega,Nat.succ_mul,Nat.add_sub_cancel]
 have b1':Blk w1 N (A++Z1.take 34++(Z1.drop 34++Z2)) 97:=by
  rw[List.append_assoc A,<-List.append_assoc (Z1.take _),List.take_append_drop,<-List.append_assoc];exact b1
 have b2:Blk (w1.setCells N (i*34) c) N (A++c++(Z1.drop 34++Z2)) 97:=Blk.setCells c _ _ _ _ _ b1' hA (by rw[l1,hc])
 have g2:Blk (w1.setCells N (i*34) c) g (A++D++R) 97:=by unfold Blk;rw[setCells_heap N c _ w1 g hgN];exact g1
 have lN:(A++Z1++Z2).length=G*34:=by
  rw[List.length_append,List.length_append,hA,lZ1,lZ2,<-Nat.add_mul,<-Nat.add_mul];congr 1;omega
 have lN2:(A++c++(Z1.drop 34++Z2)).length=G*34:=by
  rw[List.length_append,List.length_append,List.length_append,hA,hc,l2,hD,lZ2,<-Nat.succ_mul,<-Nat.add_mul,<-Nat.add_mul];congr 1;omega
 have cp1:=run_copyS (P:=Tryz.prog) w1 Tryz.underlying43 isize_H N (i*34) (n+1 - i) (G - i) ⟨pb,0,none⟩ 1 1 1 c (by simp only[Nat.min_def];split<;>omega) (by rw[hc,Nat.one_mul]) (cells_in (pre:=[]) (post:=[]) (by simpa using p1) rfl)
  (b1.there _ _ (by rw[lN,hc,<-Nat.succ_mul];exact Nat.mul_le_mul_right _ (by omega))) h1
 have b2d:Blk (w1.setCells N (i*34) c).drew N (A++c++(Z1.drop 34++Z2)) 97:=b2
 have g2d:Blk (w1.setCells N (i*34) c).drew g (A++D++R) 97:=g2
 have cp2:=run_copyS (P:=Tryz.prog) (w1.setCells N (i*34) c).drew Tryz.underlying43 isize_H N ((i+1)*34) (n+1 - (i+1)) (G - (i+1)) ⟨g,i*34,none⟩ (n - i) (cap - i) (n - i) D (by simp only[Nat.min_def];split<;>omega) hD (cells_in g2d hA)
  (b2d.there _ _ (by rw[lN2,hD,<-Nat.add_mul];exact Nat.mul_le_mul_right _ (by omega))) (fun u hu=>hAD1 u (List.mem_append_right _ hu))
 have b3:Blk ((w1.setCells N (i*34) c).drew.setCells N ((i+1)*34) D) N ((A++c)++D++Z2) 97:=
  Blk.setCells D _ _ _ _ _ (by rw[<-List.append_assoc]at b2d;exact b2d) (by rw[List.length_append,hA,hc,Nat.succ_mul]) l2
 have hown:=own_ofBlk (B:=B) (n:=n+1) (s:=34) (cap:=G) (xs:=A++c++D) (rest:=Z2) (by omega) b3 hGn hGm
  (by rw[List.length_append,List.length_append,hA,hc,hD,<-Nat.succ_mul,<-Nat.add_mul];congr 1;omega)
  (by rw[List.length_append,List.length_append,List.length_append,hA,hc,hD,lZ2,<-Nat.succ_mul,<-Nat.add_mul,<-Nat.add_mul];congr 1;omega)
 have hgr:w.grownBy ((w1.setCells N (i*34) c).drew.setCells N ((i+1)*34) D) (some g):=by
  have h2:=setCells_below (a:=w) (B:=w.heap.size) (b:=N) (by omega) c (i*34) w1 hbw1
  have h3:=setCells_below (a:=w) (B:=w.heap.size) (b:=N) (by omega) D ((i+1)*34) _ h2.drew
  exact⟨h3.os,h3.tape,h3.output,h3.size,fun k hk _=>h3.block k hk⟩
 have k0:=cut_lH (some ⟨g,0,none⟩) n cap i (by omega) (by omega)
 have hci:¬(cap=i):=by omega
 simp only[if_neg hci,Option.map_some,Addr.add_mid,Nat.zero_add]at k0
 have k1:=cut_hH (some ⟨g,0,none⟩) n cap i (by omega)
 have k2:=cut_lH (some ⟨N,0,none⟩) (n+1) G i (by omega) hGn
 simp only[if_neg (show¬(G=i) by omega),Option.map_some,Addr.add_mid,Nat.zero_add]at k2
 have k3:∀W,(sliceOp 43 (.slice (some ⟨N,0,none⟩) (n+1) G) (some (.int .i64 ((i:Int)+1))) none).run Tryz.prog W= .ok (.value (.slice (some ⟨N,(i+1)*34,none⟩) (n+1 - (i+1)) (G - (i+1)))) W:=fun W=>by
  have h:=cut_lH (some ⟨N,0,none⟩) (n+1) G (i+1) (by omega) hGn W
  rw[if_neg (by omega)]at h
  simpa[Addr.add_mid]using h
 have hwr1:IntKind.i64.wrap ((i:Int)+1)=(i:Int)+1:=by rw[IntKind.wrap_i64];omega
 have hni:((i:Int) == (n:Int))=false:=by rw[beq_eq_false_iff_ne];omega
 have hroom:decide ((cap:Int) < (n:Int)+1)=true:=by rw[decide_eq_true_iff];omega
 have HG:=Lib.hid hgr
 have HO:=Lib.hid hown
 have HNW:=Lib.hid hN
 have HNS:=Lib.hid (show w.heap.size<=N by omega)
 clear hgr hown b3 b2 b2d g2 g2d b1 b1' g1 p1 l1 l2 lZ1 lZ2 lN lN2 hgN hpN hrow hZ1 hZ2 hN hG hGm hzz hz0 hz1 hz2 hzs hi0 hbw1 hg hb hA hD hAD1 hc h1
 generalize w1.setCells N (i*34) c=w2 at *
 generalize w2.drew.setCells N ((i+1)*34) D=w3 at *
 generalize n+1 - (i+1)=l2 at *
 generalize G - (i+1)=c2 at *
 generalize n+1 - i=l3 at *
 generalize G - i=c3 at *
 generalize n - i=l4 at *
 generalize cap - i=c4 at *
 go_enter Tryz.func176,Tryz.ntmps176
 go_wp2_with (first | (at_builtin;refine Lib.wpList_append_run _ rfl (.tmp 34) (.tmp 39) _ _ rfl _ _ rfl rfl _ _ (hap _) ?_) | (refine copy_law _ rfl (.tmp 43) (.tmp 44) 43 43 rfl _ _ rfl rfl (cp1 _) ?_))
 go_region_law (refine copy_step rfl (.tmp 50) (.tmp 53) 43 43 rfl _ _ (by simp[Act.eval,Act.put]) (by simp[Act.eval,Act.put]) (cp2 _) ?_)
 all_goals
  go_wp2_with fail
  go_ret
  exact⟨_,rfl,HO.out,HG.out,fun k hk=>Or.inr (by cases hk;exact HNS.out)⟩
theorem ins_H (w:World)(B:Nat)(v:Value)(n:Nat)(xs:List Value)(ho:w.ownsRow B 97 34 v n xs)(hx1:∀u∈xs,u.oneCell'=true)(i:Nat)(hi:i<=n)(pb:Nat)(c:List Value)(hc:c.length=34)(h1:∀u∈c,u.oneCell'=true)(hb:Blk w pb c 97)(hne:v.ownBlock≠some pb)(hn:n<=1000000000)(hB:B<=w.heap.size):
 Calls Tryz.prog 176 #[v,.int .i64 i,.slice (some ⟨pb,0,none⟩) 1 1] w (InsH w B v (n+1) (xs.take (i*34)++c++xs.drop (i*34))):=by
 by_cases he:i=n
 ·subst he
  have hxl:=ho.1
  rw[List.take_of_length_le (by omega),List.drop_eq_nil_of_le (by omega),List.append_nil]
  exact insEnd_H w B v i xs ho pb c hc h1 hb hn hB
 ·obtain⟨g,cap,rest,rfl,hg,hle,hm,hk,hl,hl2⟩:=own_whole ho (by omega)
  have hpg:pb≠g:=fun e=>hne (by rw[e];rfl)
  have hA:(xs.take (i*34)).length=i*34:=by rw[List.length_take,hl];have:i*34<=n*34:=Nat.mul_le_mul_right _ hi;omega
  have hD:(xs.drop (i*34)).length=(n - i)*34:=by rw[List.length_drop,hl,<-Nat.sub_mul]
  have hR:rest.length=(cap - n)*34:=by rw[List.length_append,hl]at hl2;rw[Nat.sub_mul];omega
  have hk':Blk w g (xs.take (i*34)++xs.drop (i*34)++rest) 97:=by rw[List.take_append_drop];exact hk
  have h1':∀u∈xs.take (i*34)++xs.drop (i*34),u.oneCell'=true:=by rw[List.take_append_drop];exact hx1
  by_cases hc2:n+1<=cap
  ·exact insIn_H w B g n cap i _ _ rest hA hD hR (by omega) hc2 hm hg hk' h1' pb c hc h1 hb hpg
  ·exact insGrow_H w B g n cap i _ _ rest hA hD (by omega) hn hle (by omega) hk' h1' pb c hc h1 hb hB
end
section
open Go.RowKit Sha Fct
theorem ordc_H (x y:Int×Int×Fct.Id)(q r:Option Addr)(c d:Nat)(w:World)(hx:sH.ok x)(hy:sH.ok y):
 Calls Tryz.prog 156 #[.agg (hcells x q c).toArray,.agg (hcells y r d).toArray] w fun e w'=>e= .returned (.int .i64 (ordH x y))/\Below w.heap.size w w':=hints_any x y w hx.2.2 hy.2.2
theorem ordn_H (x y:Int×Int×Fct.Id):ordH x y < 0↔hlt (id x) (id y)=true:=ordH_neg x y
theorem ordz_H (x y:Int×Int×Fct.Id):ordH x y=0↔id x=id y:=ordH_zero x y
theorem execOp_loadOH (ρ:Operand->Value)(dst:Option Tmp)(x:Operand)(ty:TypeId)(pos:String)(after:Array Edge)(guard:Option (Nat×Bool)):
 execOp ρ {dst:=dst,op:=.load 97 x,type:=ty,pos:=pos,after:=after,guard:=guard}= loadOp 97 (ρ x):=by unfold loadOp;rfl
theorem load_OH {w:World} {g o:Nat} {x:Int×Int×Fct.Id}(hx:sH.ok x) {q:Option Addr} {c:Nat}(h:w.rangeAt g o (hcells x q c)):(loadOp 97 (.pointer (some ⟨g,o,none⟩))).run Tryz.prog w= .ok (.value (.agg (hcells x q c).toArray)) w:=
 run_loadOp (run_loadAt_mid w g o 97 _ _ h Tryz.underlying97 rfl (by rw[isize_H];exact congrArg some (sH.len q c hx).symm))
attribute [local go_sem ↓] execOp_loadOH execOp_boxOH
theorem bs_H (l:List (Int×Int×Fct.Id))(p:Option Addr)(n c:Nat)(w:World)(h:sH.Told w p n c l)(hup:Rise.Up id hlt l)(x:Int×Int×Fct.Id)(q:Option Addr)(d:Nat)(hx:sH.ok x)(hn:n<=1000000000):
 Calls Tryz.prog 175 #[.slice p n c,.agg (hcells x q d).toArray,.func (.func 156) #[] #[]] w fun e w'=>
  e= .returned (.tuple #[.int .i64 (Rise.place id hlt (id x) l:Nat),.bool (Rise.found id hlt (id x) l)])/\Below w.heap.size w w':=by
 have bx:=run_boxOp (P:=Tryz.prog) (t:=97) (cs:=(hcells x q d).toArray) w
 have hb1:=(Below.refl w.heap.size w).alloc (Nat.le_refl _) (.cells (hcells x q d).toArray 97)
 have hk1:Blk (w.alloc (.cells (hcells x q d).toArray 97)) w.heap.size (hcells x q d) 97:=Blk.new w _ 97
 obtain⟨w1,hw1⟩:∃v,v=w.alloc (.cells (hcells x q d).toArray 97):=⟨_,rfl⟩
 rw[<-hw1]at bx hb1 hk1
 obtain⟨g0,hg0⟩:∃g,g=w.heap.size:=⟨_,rfl⟩
 rw[<-hg0]at bx hk1
 obtain⟨pl,hpl⟩:∃k,k=Rise.place id hlt (id x) l:=⟨_,rfl⟩
 have hple:pl<=n:=by rw[hpl,h.len];exact Rise.place_le _ _
 have HPL:=Lib.hid hpl
 have HB1:=Lib.hid hb1
 have HK:=Lib.hid hk1
 have HT:=Lib.hid (h.below hb1)
 have HX:=Lib.hid hx
 have HUP:=Lib.hid hup
 have HN:=Lib.hid (show n=l.length from h.len)
 rw[<-hpl]
 obtain⟨fd,hfd⟩:∃f,f=Rise.found id hlt (id x) l:=⟨_,rfl⟩
 have HFD:=Lib.hid hfd
 rw[<-hfd]
 clear hfd hw1 hg0 hpl hb1 hk1 h hup hx
 go_enter Tryz.func175,Tryz.ntmps175
 go_wp2_with fail
 go_loopw [9,10] (fun i j wr=>∃a b:Nat,i= .int .i64 a/\j= .int .i64 b/\a<=pl/\pl<=b/\b<=n/\Hid (Below w1.heap.size w1 wr)) (fun i j _=>(intOf j).toNat - (intOf i).toNat)
 case atStart=>exact⟨0,n,rfl,rfl,by omega,hple,by omega,Lib.hid (Below.refl _ _)⟩
 case round=>
  obtain⟨a,b,rfl,rfl,ha,hb,hbn,HBR⟩:=hrel
  by_cases hab:a < b
  ·obtain⟨m,hm⟩:∃m,m=(a+b) / 2:=⟨_,rfl⟩
   have hma:a<=m/\m < b:=by omega
   have hm2:((a:Int)+(b:Int)) / 2=(m:Int):=by omega
   have hml:m < l.length:=by rw[<-HN.out];omega
   obtain⟨b0,off,q2,c2,hp,hr,hgd⟩:=(HT.out.below HBR.out).rows.get m hml
   obtain⟨y,hy⟩:∃y,y=l[m]:=⟨_,rfl⟩
   have hlo:=fun h=>Rise.place_lt (key:=id) (lt:=hlt) (id x) l m hml (by rw[<-HPL.out];exact h)
   have hhi:=fun h=>Rise.place_ge hlt_ord (id x) l HUP.out m hml (by rw[<-HPL.out];exact h)
   rw[<-hy]at hr hgd hlo hhi
   subst hp
   have hr2:wr.rangeAt b0 (off+m*34) (hcells y q2 c2):=hr
   obtain⟨I,W,hC⟩:=cls_of wr
   have hne:Nonempty I:=hC.ne
   have lM:=fun n=>load_OH hgd.ok (range_below hr2 (hC.back n))
   have lX:=fun n=>load_OH HX.out ((HK.out.below HBR.out HK.out.lt).below (hC.back n) (HK.out.below HBR.out HK.out.lt).lt).range
   have QS:=Lib.hid (hC.call (P:=Tryz.prog) (f:=156) (args:=#[.agg (hcells y q2 c2).toArray,.agg (hcells x q d).toArray]) (v:=.int .i64 (ordH y x)) (fun w' hb=>ordc_H y x q2 q c2 d w' hgd.ok HX.out))
   have hjn:(0:Int)<=(m:Int)/\(m:Int) < (n:Int):=by omega
   have HC:=Lib.hid hC
   have HDN:=Lib.hid (ordn_H y x)
   generalize hod:ordH y x=od at *
   clear hod hr hr2 hgd hy hml hm hC
   by_cases hpm:m < pl
   ·have t1:decide (od < 0)=true:=by rw[decide_eq_true_iff];exact HDN.out.2 (hlo hpm)
    clear hlo hhi HDN
    go_wp2_with fail
    refine wp_region_cls W (by kernel_rfl) (by kernel_rfl) HC.out.one ?_
    repeat go_big_quiet_step ((go_at_call 156;exact QS.out _))
    refine wpQuiet_nil ?_
    rintro _ ⟨nq,rfl⟩
    have HB2:=Lib.hid (HBR.out.trans ((HC.out.back nq).mono HBR.out.size))
    clear lM lX QS hm2
    go_wp2_with fail
    go_roundw
    case rel=>exact⟨m+1,b,by go_num,rfl,by omega,hb,hbn,HB2⟩
    case measure=>simp[intOf];omega
   ·have t1:decide (od < 0)=false:=by
     rw[decide_eq_false_iff_not]
     intro h
     have h2:=HDN.out.1 h
     rw[hhi (by omega)]at h2;cases h2
    clear hlo hhi HDN
    go_wp2_with fail
    refine wp_region_cls W (by kernel_rfl) (by kernel_rfl) HC.out.one ?_
    repeat go_big_quiet_step ((go_at_call 156;exact QS.out _))
    refine wpQuiet_nil ?_
    rintro _ ⟨nq,rfl⟩
    have HB2:=Lib.hid (HBR.out.trans ((HC.out.back nq).mono HBR.out.size))
    clear lM lX QS hm2
    go_wp2_with fail
    go_roundw
    case rel=>exact⟨a,m,rfl,rfl,ha,by omega,by omega,HB2⟩
    case measure=>simp[intOf];omega
  ·obtain rfl:a=pl:=by omega
   obtain rfl:b=a:=by omega
   by_cases hbl:b < n
   ·have hml:b < l.length:=by rw[<-HN.out];omega
    obtain⟨b0,off,q2,c2,hp,hr,hgd⟩:=(HT.out.below HBR.out).rows.get b hml
    have hfi:fd=true↔id l[b] = id x:=by
     have h2:=Rise.found_iff (key:=id) (lt:=hlt) (id x) l
     rw[<-HFD.out]at h2
     rw[h2]
     have h3:=HPL.out
     constructor
     ·rintro⟨_,h⟩;simpa only[<-h3]using h
     ·intro h;exact⟨by rw[<-h3];exact hml,by simpa only[<-h3]using h⟩
    obtain⟨y,hy⟩:∃y,y=l[b]:=⟨_,rfl⟩
    rw[<-hy]at hr hgd hfi
    subst hp
    have hr2:wr.rangeAt b0 (off+b*34) (hcells y q2 c2):=hr
    obtain⟨I,W,hC⟩:=cls_of wr
    have hne:Nonempty I:=hC.ne
    have lM:=fun n=>load_OH hgd.ok (range_below hr2 (hC.back n))
    have lX:=fun n=>load_OH HX.out ((HK.out.below HBR.out HK.out.lt).below (hC.back n) (HK.out.below HBR.out HK.out.lt).lt).range
    have QS:=Lib.hid (hC.call (P:=Tryz.prog) (f:=156) (args:=#[.agg (hcells y q2 c2).toArray,.agg (hcells x q d).toArray]) (v:=.int .i64 (ordH y x)) (fun w' hb=>ordc_H y x q2 q c2 d w' hgd.ok HX.out))
    have hjn:(0:Int)<=(b:Int)/\(b:Int) < (n:Int):=by omega
    have HC:=Lib.hid hC
    have hdz:=ordz_H y x
    have t1:(ordH y x == 0)=fd:=by
     rw[Bool.eq_iff_iff,beq_iff_eq,hdz];exact hfi.symm
    have tg:decide ((b:Int) < (n:Int))=true:=by simpa using hbl
    generalize ordH y x=od at *
    clear hdz hr hr2 hgd hy hml hC hfi
    go_wp2_with fail
    refine wp_region_cls W (by kernel_rfl) (by kernel_rfl) HC.out.one ?_
    repeat go_big_quiet_step ((go_at_call 156;exact QS.out _))
    refine wpQuiet_nil ?_
    rintro _ ⟨nq,rfl⟩
    have HB2:=Lib.hid (HB1.out.trans ((HBR.out.trans ((HC.out.back nq).mono HBR.out.size)).mono HB1.out.size))
    clear lM lX QS
    go_wp2_with fail
    go_ret2
    exact⟨rfl,HB2.out⟩
   ·have hf2:fd=false:=by
     rw[Bool.eq_false_iff]
     intro h
     rw[HFD.out,Rise.found_iff]at h
     obtain⟨h2,_⟩:=h
     rw[<-HPL.out,<-HN.out]at h2
     exact hbl h2
    subst hf2
    have tg:decide ((b:Int) < (n:Int))=false:=by simpa using hbl
    obtain⟨I,W,hC⟩:=cls_of wr
    have hne:Nonempty I:=hC.ne
    have HC:=Lib.hid hC
    clear hC
    go_wp2_with fail
    refine wp_region_cls W (by kernel_rfl) (by kernel_rfl) HC.out.one ?_
    repeat go_big_quiet_step (fail)
    refine wpQuiet_nil ?_
    rintro _ ⟨nq,rfl⟩
    have HB2:=Lib.hid (HB1.out.trans ((HBR.out.trans ((HC.out.back nq).mono HBR.out.size)).mono HB1.out.size))
    go_wp2_with fail
    go_ret2
    exact⟨rfl,HB2.out⟩
end
section
open Go.RowKit Sha Fct
structure PrdH (mb:Nat)(cap:Value)(Pr:Int×Int×Fct.Id->Bool)(ys:List (Hd (Int×Int×Fct.Id)))(I:World->Nat->Prop):Prop where
 call:∀w k (hk:k < ys.length),I w k->Calls Tryz.prog 167 #[.agg (hcells ys[k].1 ys[k].2.1 ys[k].2.2).toArray,cap] w fun e w'=>e= .returned (.bool (Pr ys[k].1))/\I w' (k+1)/\w.grownBy w' (some mb)
 stays:∀w w' k row,I w k->w.grownBy w' row->RowTy w row 97->I w' k
 map:∀w k,I w k->IsMapB w mb
attribute [local go_sem ↓] execOp_loadOH
def ixH (Pr:Int×Int×Fct.Id->Bool)(ys:List (Hd (Int×Int×Fct.Id))):Nat:=ys.findIdx fun y=>Pr y.1
def IxdH (mb:Nat)(Pr:Int×Int×Fct.Id->Bool)(ys:List (Hd (Int×Int×Fct.Id)))(I:World->Nat->Prop)(w:World)(e:Ending)(w':World):Prop:=
 ∃r:Int,e= .returned (.int .i64 r)/\((r= -1/\ixH Pr ys=ys.length/\I w' ys.length)\/(r=(ixH Pr ys:Nat)/\ixH Pr ys < ys.length/\I w' (ixH Pr ys+1)))/\w.grownBy w' (some mb)
theorem idx_H (mb:Nat)(cap:Value)(Pr:Int×Int×Fct.Id->Bool)(ys:List (Hd (Int×Int×Fct.Id)))(I:World->Nat->Prop)(HP:PrdH mb cap Pr ys I)(w:World)(B:Nat)(v:Value)(h:Rws sH 97 w B v ys)(hI:I w 0)(hn:ys.length<=1000000000):
 Calls Tryz.prog 185 #[v,.func (.func 167) #[] #[cap]] w (IxdH mb Pr ys I w):=by
 obtain⟨p,c,rfl,_⟩:=h.told
 obtain⟨n,hnl⟩:∃n,n=ys.length:=⟨_,rfl⟩
 obtain⟨ix,hix⟩:∃i,i=ixH Pr ys:=⟨_,rfl⟩
 have hle:ix<=n:=by rw[hix,hnl];exact List.findIdx_le_length
 have H1:=Lib.hid (show∀a (ha:a < ys.length),a < ix->Pr ys[a].1=false from fun a ha h=>by
  have:=List.not_of_lt_findIdx (p:=fun y:Hd (Int×Int×Fct.Id)=>Pr y.1) (xs:=ys) (i:=a) (by rw[hix]at h;exact h)
  simpa using this)
 have H2:=Lib.hid (show∀(ha:ix < ys.length),Pr ys[ix].1=true from fun ha=>by
  subst hix
  exact List.findIdx_getElem (p:=fun y:Hd (Int×Int×Fct.Id)=>Pr y.1) (xs:=ys) (w:=ha))
 have HR:=Lib.hid h
 have HNL:=Lib.hid hnl
 have HIX:=Lib.hid hix
 have HI:=Lib.hid hI
 rw[<-hnl]at hn ⊢
 clear hnl hix h hI
 go_enter Tryz.func185,Tryz.ntmps185
 go_wp2_with fail
 go_loopw [8] (fun i wr=>∃a:Nat,i= .int .i64 a/\a<=ix/\Hid (I wr a)/\Hid (w.grownBy wr (some mb))) (fun i _=>n - (intOf i).toNat)
 case atStart=>exact⟨0,rfl,by omega,HI,Lib.hid (grown_refl _ _)⟩
 case round=>
  obtain⟨a,rfl,ha,HA,HG⟩:=hrel
  by_cases han:a < n
  ·have hay:a < ys.length:=by rw[<-HNL.out];exact han
   have HR2:=Lib.hid (HR.out.map_ HG.out (HP.map _ _ HI.out))
   obtain⟨g,c2,hv,hr⟩:=HR2.out.el a hay
   have hv2:p=some ⟨g,0,none⟩:=by injection hv
   subst hv2
   have hr2:wr.rangeAt g (a*34) (hcells ys[a].1 ys[a].2.1 ys[a].2.2):=hr
   have l1:=load_OH (HR2.out.ok _ (List.getElem_mem hay)) hr2
   have HC:=Lib.hid (HP.call wr a hay HA.out)
   have h1:=H1.out a hay
   have h2:∀(e:a=ix),Pr ys[a].1=true:=fun e=>by subst e;exact H2.out hay
   generalize ys[a].1=x at *
   generalize ys[a].2.1=xq at *
   generalize ys[a].2.2=xc at *
   clear hr hr2 hv
   go_wp2_with fail
   refine HC.out.mono ?_
   rintro e w2 ⟨rfl,hI2,hg2⟩
   have HA2:=Lib.hid hI2
   have HG2:=Lib.hid (grown_trans HG.out hg2)
   clear hI2 hg2 l1
   by_cases hai:a=ix
   ·have hp:Pr x=true:=h2 hai
    rw[hp]
    clear h1 h2 hp HC
    go_wp2_with fail
    go_ret
    subst hai
    exact⟨_,rfl,Or.inr ⟨by rw[HIX.out],by rw[<-HIX.out];exact hay,by rw[<-HIX.out];exact HA2.out⟩,HG2.out⟩
   ·have hp:Pr x=false:=h1 (by omega)
    rw[hp]
    clear h1 h2 hp HC
    go_wp2_with fail
    go_roundw
    case rel=>exact⟨a+1,by go_num,by omega,HA2,HG2⟩
    case measure=>simp[intOf];omega
  ·obtain rfl:a=n:=by omega
   obtain rfl:ix=a:=by omega
   go_wp2_with fail
   go_ret
   exact⟨_,rfl,Or.inl ⟨rfl,by rw[<-HIX.out,HNL.out],by rw[<-HNL.out];exact HA.out⟩,HG.out⟩
end
section
open Go.RowKit Sha Fct
theorem zero1_H:(Tryz.prog.info? 97).map (fun i=>i.zero)=some (some (.agg (hcells (0,0,Fld.zero32) none 0).toArray)):=by
 have h:=info_H
 cases hq:Tryz.prog.info? 97 with
 | none=>rw[hq]at h;cases h
 | some i=>rw[hq]at h;simp at h;simp[h.1]
theorem zeroV_H (w:World):(zeroValue 97).run Tryz.prog w= .ok (.agg (hcells (0,0,Fld.zero32) none 0).toArray) w:=by
 have h:=zero1_H
 cases hq:Tryz.prog.info? 97 with
 | none=>rw[hq]at h;cases h
 | some i=>rw[hq]at h;simp at h;simp[zeroValue,typeInfo,hq,h]
theorem execOp_allocOH (ρ:Operand->Value)(dst:Option Tmp)(ty:TypeId)(pos:String)(after:Array Edge)(guard:Option (Nat×Bool)):
 execOp ρ {dst:=dst,op:=.alloc 97,type:=ty,pos:=pos,after:=after,guard:=guard}= allocOp 97:=by unfold allocOp;rfl
theorem execOp_storeOH (ρ:Operand->Value)(dst:Option Tmp)(x y:Operand)(ty:TypeId)(pos:String)(after:Array Edge)(guard:Option (Nat×Bool)):
 execOp ρ {dst:=dst,op:=.store 97 x y,type:=ty,pos:=pos,after:=after,guard:=guard}= storeOp 97 (ρ x) (ρ y):=by unfold storeOp;rfl
theorem alloc_OH (w:World):(allocOp 97).run Tryz.prog w= .ok (.value (.pointer (some ⟨w.heap.size,0,none⟩))) (w.alloc (.cells (hcells (0,0,Fld.zero32) none 0).toArray 97)):=run_allocOp w zero1_H
theorem storeN_OH (w:World) {x:Int×Int×Fct.Id}(hx:sH.ok x)(q:Option Addr)(c:Nat):(storeOp 97 (.pointer (some ⟨w.heap.size,0,none⟩)) (.agg (hcells x q c).toArray)).run Tryz.prog (w.alloc (.cells (hcells (0,0,Fld.zero32) none 0).toArray 97))= .ok .skip (w.alloc (.cells (hcells x q c).toArray 97)):=by
 have hl:(hcells x q c).length=34:=sH.len q c hx
 refine run_storeNew w (by rw[isize_H];simp[hl]) (by rw[List.size_toArray,List.size_toArray,hl];exact zlen_H) ?_
 have h1:=sH.one x q c
 simp only[List.all_toArray,List.all_eq_true]
 exact h1
def DltH (mb:Nat)(Pr:Int×Int×Fct.Id->Bool)(ys:List (Hd (Int×Int×Fct.Id)))(I:World->Nat->Prop)(w:World)(B:Nat)(v:Value)(e:Ending)(w':World):Prop:=
 ∃v',e= .returned v'/\Rws sH 97 w' B v' (ys.filter fun y=>!Pr y.1)/\I w' ys.length/\Chg (fun k=>v.ownBlock=some k\/k=mb) w w'
attribute [local go_sem ↓] execOp_loadOH execOp_allocOH execOp_storeOH execOp_sliceH
theorem del_H (mb:Nat)(cap:Value)(Pr:Int×Int×Fct.Id->Bool)(ys:List (Hd (Int×Int×Fct.Id)))(I:World->Nat->Prop)(HP:PrdH mb cap Pr ys I)(w:World)(B:Nat)(v:Value)(h:Rws sH 97 w B v ys)(hI:I w 0)(hn:ys.length<=1000000000):
 Calls Tryz.prog 166 #[v,.func (.func 167) #[] #[cap]] w (DltH mb Pr ys I w B v):=by
 have HIX:=Lib.hid (idx_H mb cap Pr ys I HP w B v h hI hn)
 by_cases h0:ixH Pr ys=ys.length
 ·obtain⟨p,c,rfl,_⟩:=h.told
  have HR:=Lib.hid h
  have HF:=Lib.hid (show(ys.filter fun y=>!Pr y.1)=ys from List.filter_eq_self.2 fun y hy=>by
   obtain⟨i,hi,rfl⟩:=List.getElem_of_mem hy
   have:=List.not_of_lt_findIdx (p:=fun y:Hd (Int×Int×Fct.Id)=>Pr y.1) (xs:=ys) (i:=i) (by unfold ixH at h0;rw[h0];exact hi)
   simpa using this)
  have HM:=Lib.hid (HP.map _ _ hI)
  clear h hI
  go_enter Tryz.func166,Tryz.ntmps166
  go_wp2_with fail
  refine HIX.out.mono ?_
  rintro e w2 ⟨r,rfl,hr,hg2⟩
  rcases hr with⟨hr,_,hI2⟩ | ⟨_,hr,_⟩
  rotate_left
  ·omega
  subst hr
  have HG2:=Lib.hid hg2
  have HI2:=Lib.hid hI2
  clear hg2 hI2
  go_wp2_with fail
  go_ret
  refine⟨_,rfl,?_,HI2.out,(Chg.refl _ w).grown HG2.out fun k hk _=>Or.inr (by cases hk;rfl)⟩
  rw[HF.out];exact HR.out.map_ HG2.out HM.out
 ·have hlt:ixH Pr ys < ys.length:=by
   have:ixH Pr ys<=ys.length:=List.findIdx_le_length
   omega
  obtain⟨g,cp,rest,rfl,hBg,hcp,hmx,hk,hl,hl2⟩:=own_whole h.own (by omega)
  obtain⟨n,hnl⟩:∃n,n=ys.length:=⟨_,rfl⟩
  obtain⟨ix,hix⟩:∃i,i=ixH Pr ys:=⟨_,rfl⟩
  rw[<-hix]at hlt
  have hrest:rest.length=(cp - n)*34:=by
   rw[List.length_append,hl,<-hnl]at hl2
   have e:sH.n=34:=rfl
   rw[e]at hl2
   rw[Nat.sub_mul];omega
  -- behind the first one
  have h1:Pr ys[ix].1=true:=by
   subst hix
   exact List.findIdx_getElem (p:=fun y:Hd (Int×Int×Fct.Id)=>Pr y.1) (xs:=ys) (w:=hlt)
  have hF0:(ys.take ix).filter (fun y=>!Pr y.1)=ys.take ix:=List.filter_eq_self.2 fun y hy=>by
   obtain⟨i,hi,rfl⟩:=List.getElem_of_mem hy
   rw[List.length_take]at hi
   have:=List.not_of_lt_findIdx (p:=fun y:Hd (Int×Int×Fct.Id)=>Pr y.1) (xs:=ys) (i:=i) (by rw[hix]at hi;unfold ixH at hi;omega)
   simpa using this
  have hF1:(ys.take (ix+1)).filter (fun y=>!Pr y.1)=ys.take ix:=by
   rw[filter_upto _ _ _ hlt,hF0];simp[h1]
  have hM:MidB sH w g 97 (ys.take ix) (sH.row ys[ix]) (ys.drop (ix+1)) rest:=by
   unfold MidB
   rw[<-flat_el h.ok ix hlt];exact hk
  have hG0:(sH.row ys[ix]).length=(ix+1 - ix)*34:=by
   rw[Nat.add_sub_cancel_left,Nat.one_mul];exact sH.len _ _ (h.ok _ (List.getElem_mem hlt))
  have hFl:(ys.take ix).length=ix:=by rw[List.length_take];omega
  rw[<-hF1]at hM hFl
  have HM:=Lib.hid hM
  have HR:=Lib.hid h
  have HK:=Lib.hid hk
  have HMB:=Lib.hid (HP.map _ _ hI)
  have HNL:=Lib.hid hnl
  have HX:=Lib.hid hix
  have HG0:=Lib.hid hG0
  have HFL:=Lib.hid hFl
  have HRE:=Lib.hid hrest
  rw[<-hnl]at hcp hlt ⊢
  generalize sH.row ys[ix] = G0 at *
  clear hnl hix hM h hI hk hl hl2 h1 hF0 hF1 hG0 hFl hrest
  go_enter Tryz.func166,Tryz.ntmps166
  go_wp2_with fail
  rw[HNL.out]
  refine HIX.out.mono ?_
  rintro e w2 ⟨r,rfl,hr,hg2⟩
  rcases hr with⟨_,hr,_⟩ | ⟨hr,_,hI2⟩
  ·omega
  rw[<-HX.out]at hr hI2
  subst hr
  rw[<-HNL.out]
  have HM2:=Lib.hid (HM.out.kept hg2 fun e=>isMap_ne HMB.out HK.out (by cases e;rfl))
  have HI2:=Lib.hid hI2
  have HC2:=Lib.hid ((Chg.refl (fun k=>k=g\/k=mb) w).grown hg2 fun k hk _=>Or.inr (by cases hk;rfl))
  clear hg2 hI2
  have hm1:((ix:Int) == -1)=false:=by rw[beq_eq_false_iff_ne];omega
  go_wp2_with fail
  go_loopw [5,6] (fun vi vj wr=>∃(i j:Nat) (G:List Value),vi= .int .i64 i/\vj= .int .i64 j/\i < j/\j<=n/\Hid (((ys.take j).filter fun y=>!Pr y.1).length=i)/\Hid (G.length=(j - i)*34)/\Hid (MidB sH wr g 97 ((ys.take j).filter fun y=>!Pr y.1) G (ys.drop j) rest)/\Hid (I wr j)/\Hid (Chg (fun k=>k=g\/k=mb) w wr)) (fun _ j _=>n - (intOf j).toNat)
  case atStart=>exact⟨ix,ix+1,G0,rfl,by go_num,by omega,by omega,HFL,HG0,HM2,HI2,HC2⟩
  case round=>
   obtain⟨i,j,G,rfl,rfl,hij,hjn,HF,HG,HB,HI,HC⟩:=hrel
   have HFO:=Lib.hid (show∀y∈(ys.take j).filter (fun y=>!Pr y.1),sH.ok y.1 from fun y hy=>HR.out.ok y (List.mem_of_mem_take (List.mem_filter.1 hy).1))
   by_cases hjl:j < n
   ·have hjy:j < ys.length:=by rw[<-HNL.out];exact hjl
    have hdr:ys.drop j=ys[j]::ys.drop (j+1):=List.drop_eq_getElem_cons hjy
    have hfu:=filter_upto (fun y:Hd (Int×Int×Fct.Id)=>!Pr y.1) ys j hjy
    have hb1:=HB.out
    rw[hdr]at hb1
    have hoky:=HR.out.ok _ (List.getElem_mem hjy)
    have hca:=fun w h=>HP.call w j hjy h
    obtain⟨y,hy⟩:∃y,y=ys[j]:=⟨_,rfl⟩
    rw[<-hy]at hfu hb1 hoky hca
    have HFU:=Lib.hid hfu
    have HOK:=Lib.hid hoky
    have HCA:=Lib.hid hca
    have hr2:wr.rangeAt g (j*34) (hcells y.1 y.2.1 y.2.2):=hb1.range HFO.out HF.out HG.out (by omega)
    have l1:=load_OH hoky hr2
    have al:=alloc_OH wr
    have sN:=storeN_OH wr hoky y.2.1 y.2.2
    have hbk:Blk (wr.alloc (.cells (hcells y.1 y.2.1 y.2.2).toArray 97)) wr.heap.size (hcells y.1 y.2.1 y.2.2) 97:=Blk.new wr _ 97
    have hg2:=alloc_grown wr (.cells (hcells y.1 y.2.1 y.2.2).toArray 97) none
    have HI2:=Lib.hid (HP.stays _ _ _ none HI.out hg2 (fun k hk=>by cases hk))
    have HB2:=Lib.hid (hb1.kept hg2 (by simp))
    have HC2:=Lib.hid (HC.out.grown hg2 (by intro k hk;cases hk))
    obtain⟨b0,hb0⟩:∃b,b=wr.heap.size:=⟨_,rfl⟩
    rw[<-hb0]at al sN hbk
    have HBK:=Lib.hid hbk
    have l2:=load_OH hoky hbk.range
    obtain⟨F,hF⟩:∃F,F=(ys.take j).filter (fun y:Hd (Int×Int×Fct.Id)=>!Pr y.1):=⟨_,rfl⟩
    rw[<-hF]at HF HFO HFU HB2
    clear hF hb0 hy hfu hb1 hoky hca hdr hr2 hg2 hbk HB HI HC
    generalize wr.alloc (.cells (hcells (0,0,Fld.zero32) none 0).toArray 97)=w1 at *
    generalize wr.alloc (.cells (hcells y.1 y.2.1 y.2.2).toArray 97)=w2 at *
    have hjn2:(0:Int)<=(j:Int)/\(j:Int) < (n:Int):=by omega
    have hin2:(0:Int)<=(i:Int)/\(i:Int) < (n:Int):=by omega
    go_wp2_with fail
    refine(HCA.out _ HI2.out).mono ?_
    rintro e w3 ⟨rfl,hI3,hg3⟩
    have HM2:=Lib.hid (HP.map _ _ HI2.out)
    have HB3:=Lib.hid (HB2.out.kept hg3 (fun e=>isMap_ne HM2.out (show Blk w2 g _ _ from HB2.out) (by cases e;rfl)))
    have HK3:=Lib.hid (blk_grown HBK.out hg3 (fun e=>isMap_ne HM2.out HBK.out (by cases e;rfl)))
    have HI3:=Lib.hid hI3
    have HC3:=Lib.hid (HC2.out.grown hg3 fun k hk _=>Or.inr (by cases hk;rfl))
    clear hI3 hg3 l1 l2 al sN
    cases hp:Pr y.1 with
    | true=>
       have HFU2:=Lib.hid (show(ys.take (j+1)).filter (fun y:Hd (Int×Int×Fct.Id)=>!Pr y.1)=F by rw[HFU.out,hp];simp)
       clear hp
       go_wp2_with fail
       go_roundw
       case rel=>
        refine⟨i,j+1,G++sH.row y,rfl,by go_num,by omega,by omega,?_,?_,?_,HI3,HC3⟩
        ·rw[HFU2.out];exact HF
        ·refine Lib.hid ?_
         rw[List.length_append,HG.out,show(sH.row y).length=34 from sH.len _ _ HOK.out,show j+1 - i=(j - i)+1 by omega,Nat.succ_mul]
        ·rw[HFU2.out];exact Lib.hid HB3.out.skip
       case measure=>simp[intOf];omega
    | false=>
       have HFU2:=Lib.hid (show(ys.take (j+1)).filter (fun y:Hd (Int×Int×Fct.Id)=>!Pr y.1)=F++[y] by rw[HFU.out,hp];simp)
       clear hp
       obtain⟨k1,k2,k3⟩:=HB3.out.keep HFO.out HOK.out HF.out HG.out hij
       have st:(storeOp 97 (.pointer (some ⟨g,i*34,none⟩)) (.agg (hcells y.1 y.2.1 y.2.2).toArray)).run Tryz.prog w3= .ok .skip (w3.setCells g (i*34) (sH.row y)):=k3 isize_H
       have hg4:=setCells_grown w3 g (i*34) (sH.row y)
       have l3:=load_OH HOK.out HK3.out.range
       have HI4:=Lib.hid (HP.stays _ _ _ (some g) HI3.out hg4 (fun k hk=>by cases hk;exact⟨_,_,HB3.out⟩))
       have HC4:=Lib.hid (HC3.out.grown hg4 fun k hk _=>Or.inl (by cases hk;rfl))
       have HB4:=Lib.hid k1
       have HG4:=Lib.hid k2
       clear k1 k2 k3 hg4
       have e1:sH.n=34:=rfl
       rw[e1]at HB4
       generalize w3.setCells g (i*34) (sH.row y)=w4 at *
       clear e1
       go_wp2_with fail
       go_roundw
       case rel=>
        refine⟨i+1,j+1,_,by go_num,by go_num,by omega,by omega,?_,HG4,?_,HI4,HC4⟩
        ·rw[HFU2.out];refine Lib.hid ?_;rw[List.length_append,HF.out];rfl
        ·rw[HFU2.out];exact HB4
       case measure=>simp[intOf];omega
   ·obtain rfl:j=n:=by omega
    have hdr:ys.drop j= []:=List.drop_eq_nil_of_le (by rw[HNL.out];omega)
    have htk:ys.take j=ys:=List.take_of_length_le (by rw[HNL.out];omega)
    rw[hdr]at HB
    rw[htk]at HB HF HFO
    have hz:=zsize_H
    obtain⟨zz,hzz⟩:∃zz:Value,zz= .agg (hcells (0,0,Fld.zero32) none 0).toArray:=⟨_,rfl⟩
    have hzv:=zeroV_H
    rw[<-hzz]at hz hzv
    have hz1:∀v∈zz.cells.toList,v.oneCell'=true:=by rw[hzz];exact sH.one _ _ _
    have hZl:(Builtin.zeroCells zz.cells (j - i)).toList.length=(j - i)*34:=by rw[Array.length_toList,size_zeroCells,hz]
    obtain⟨hown,hth⟩:=HB.out.clear HFO.out HF.out HG.out hZl (by omega) hBg hcp hmx HRE.out
    have cl:=run_clearS (P:=Tryz.prog) wr Tryz.underlying43 hzv (by omega) hz1 g (i*34) (j - i) (cp - i) (by omega) (by rw[hz];exact hth)
    have hg4:=setCells_grown wr g (i*34) (Builtin.zeroCells zz.cells (j - i)).toList
    have HI4:=Lib.hid (HP.stays _ _ _ (some g) HI.out hg4 (fun k hk=>by cases hk;exact⟨_,_,HB.out⟩))
    have HC4:=Lib.hid (HC.out.grown hg4 fun k hk _=>Or.inl (by cases hk;rfl))
    have HO4:=Lib.hid hown
    have k0:=cut_lH (some ⟨g,0,none⟩) j cp i (by omega) hcp
    simp only[if_neg (show¬(cp=i) by omega),Option.map_some,Addr.add_mid,Nat.zero_add]at k0
    have k1:=cut_hH (some ⟨g,0,none⟩) j cp i (by omega)
    clear hown hth hg4 hz hzv hz1 hZl hzz hdr htk
    have e1:sH.n=34:=rfl
    rw[e1]at HO4
    clear e1
    generalize wr.setCells g (i*34) (Builtin.zeroCells zz.cells (j - i)).toList=w4 at *
    have hfl:=HF.out
    generalize j - i=dl at *
    generalize cp - i=dc at *
    go_wp2_with (at_builtin;refine clear_law _ rfl (.tmp 38) 43 rfl _ rfl (cl _) ?_)
    go_ret
    have hold:∀y∈ys,sH.Good w4 y.1 y.2.1 y.2.2/\U8 w4 y.2.1 (sH.byt y.1):=fun y hy=>by
     have hk:=u8_keeps HC4.out fun k cs hb=>by
      rintro(e | e)
      ·subst e;exact absurd (blk_ty hb HK.out) (by decide)
      ·exact isMap_ne HMB.out hb e.symm
     exact⟨good_blk (HR.out.good y hy).1 (HR.out.good y hy).2 hk,(HR.out.good y hy).2.on hk⟩
    refine⟨_,rfl,⟨?_,fun y hy=>hold y (List.mem_filter.1 hy).1⟩,by rw[<-HNL.out];exact HI4.out,HC4.out.mono fun k _ hk=>hk.imp (fun e=>by rw[e];rfl) id⟩
    rw[hfl];exact HO4.out
end
end Go.Proofs.YtokpabkcaofahaaGreat
