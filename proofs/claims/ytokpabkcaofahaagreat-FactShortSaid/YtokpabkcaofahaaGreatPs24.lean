/-
  What stands under factShort_holds: part 24.
-/
import Derived.Test.YtokpabkcaofahaaGreatPs23
import Derived.Test.YtokpabkcaofahaaGreatPs6
import Derived.Test.YtokpabkcaofahaaGreatPs7
namespace Go.Proofs.YtokpabkcaofahaaGreat
set_option linter.unusedSimpArgs false
set_option linter.unusedVariables false
set_option maxRecDepth 100000
set_option maxHeartbeats 20000000
section
open Go.RowKit Sha Fct
theorem execOp_eqlBal (ρ:Operand->Value)(dst:Option Tmp)(x y:Operand)(r:TypeId)(ty:TypeId)(pos:String)(after:Array Edge)(guard:Option (Nat×Bool)):
 execOp ρ {dst:=dst,op:=.binOp .eql 23 x y r,type:=ty,pos:=pos,after:=after,guard:=guard}= eqlOp 23 x y (ρ x) (ρ y):=by unfold eqlOp;rfl
theorem run_eqlBal (x y:Operand)(a b c d:Int)(e:Bool)(he:e=decide (a=c/\b=d))(w:World):(eqlOp 23 x y (.agg #[.int .i64 a,.int .i64 b]) (.agg #[.int .i64 c,.int .i64 d])).run Tryz.prog w= .ok (.value (.bool e)) w:=by
 subst he
 unfold eqlOp
 by_cases h:a=c<;>by_cases h2:b=d<;>simp[go_sem,h,h2]
attribute [local go_sem ↓] execOp_boxOV execOp_loadBal execOp_eqlBal
theorem psameV_any (x y:Vot)(q r:Option Addr)(c d:Nat)(w:World)(hx:sV.Good w x q c)(hy:sV.Good w y r d):
 Calls Tryz.prog 70 #[.agg (vcells x q c).toArray,.agg (vcells y r d).toArray] w fun e w'=>e= .returned (.bool (decide (x=y)))/\Below w.heap.size w w':=by
 obtain⟨w2,hF⟩:=bx2_of sV 62 w x y q r c d
 have bx:=hF.b1
 have by_:=hF.b2
 rw[show sV.cells x q c=vcells x q c from rfl]at bx by_
 rw[show sV.cells y r d=vcells y r d from rfl]at by_
 have hx2:=hx.below hF.below
 have hy2:=hy.below hF.below
 have a0:w2.cell? ⟨w.heap.size,0,none⟩=some (.int .i64 x.S):=hF.k1.cell 0
 have b0:w2.cell? ⟨w.heap.size+1,0,none⟩=some (.int .i64 y.S):=hF.k2.cell 0
 have e1:∀z u (i:Nat),vcells z u i= [i64c z.S]++[i64c z.PN,i64c z.PO]++[i64c z.AN,i64c z.AO,.slice u z.B.length i]:=fun _ _ _=>rfl
 have e2:∀z u (i:Nat),vcells z u i= [i64c z.S,i64c z.PN,i64c z.PO]++[i64c z.AN,i64c z.AO]++[.slice u z.B.length i]:=fun _ _ _=>rfl
 have p1:(loadOp 23 (.pointer (some ⟨w.heap.size,1,none⟩))).run Tryz.prog w2= .ok (.value (.agg #[.int .i64 x.PN,.int .i64 x.PO])) w2:=load_vbal (range_mid (by rw[<-e1];exact hF.k1) rfl)
 have p2:(loadOp 23 (.pointer (some ⟨w.heap.size+1,1,none⟩))).run Tryz.prog w2= .ok (.value (.agg #[.int .i64 y.PN,.int .i64 y.PO])) w2:=load_vbal (range_mid (by rw[<-e1];exact hF.k2) rfl)
 have p3:(loadOp 23 (.pointer (some ⟨w.heap.size,3,none⟩))).run Tryz.prog w2= .ok (.value (.agg #[.int .i64 x.AN,.int .i64 x.AO])) w2:=load_vbal (range_mid (by rw[<-e2];exact hF.k1) rfl)
 have p4:(loadOp 23 (.pointer (some ⟨w.heap.size+1,3,none⟩))).run Tryz.prog w2= .ok (.value (.agg #[.int .i64 y.AN,.int .i64 y.AO])) w2:=load_vbal (range_mid (by rw[<-e2];exact hF.k2) rfl)
 obtain⟨m,hm⟩:∃m,m=x.B.length:=⟨_,rfl⟩
 obtain⟨k,hk⟩:∃k,k=y.B.length:=⟨_,rfl⟩
 have a5:w2.cell? ⟨w.heap.size,5,none⟩=some (.slice q m c):=by rw[hm];exact hF.k1.cell 5
 have b5:w2.cell? ⟨w.heap.size+1,5,none⟩=some (.slice r k d):=by rw[hk];exact hF.k2.cell 5
 have HEQ:=Lib.hid (bytesEq_any x.B y.B q r m k c d w2 hx.ok.B hy.ok.B hm.symm hk.symm hx2.at_ hy2.at_)
 obtain⟨bb,hbb⟩:∃b,b=decide (x.B=y.B):=⟨_,rfl⟩
 rw[<-hbb]at HEQ
 obtain⟨bp,hbp⟩:∃b,b=decide (x.PN=y.PN/\x.PO=y.PO):=⟨_,rfl⟩
 obtain⟨ba,hba⟩:∃b,b=decide (x.AN=y.AN/\x.AO=y.AO):=⟨_,rfl⟩
 have q1:=fun o1 o2=>run_eqlBal o1 o2 x.PN x.PO y.PN y.PO bp hbp w2
 have q2:=fun o1 o2=>run_eqlBal o1 o2 x.AN x.AO y.AN y.AO ba hba w2
 have HR:=Lib.hid (show decide (x=y)=((((x.S == y.S) && bp) && ba) && bb) by
  rw[hbb,hbp,hba,Bool.eq_iff_iff]
  obtain⟨x1,x2,x3,x4,x5,x6⟩:=x
  obtain⟨y1,y2,y3,y4,y5,y6⟩:=y
  simp
  constructor
  ·rintro⟨rfl,rfl,rfl,rfl,rfl,rfl⟩;simp
  ·rintro⟨⟨⟨rfl,rfl,rfl⟩,rfl,rfl⟩,rfl⟩;simp)
 have HB:=Lib.hid hF.below
 clear hm hk hbb hF hx hy hx2 hy2 e1 e2 hbp hba
 generalize hs:(x.S == y.S)=bs at *
 cases bs<;>cases bp<;>cases ba<;>(
  go_enter Tryz.func70,Tryz.ntmps70
  go_wp2_with (go_at_call 66;refine HEQ.out.mono ?_;rintro e w3 ⟨rfl,rfl⟩)
  go_ret
  exact⟨by rw[HR.out];simp,HB.out⟩)
end
section
open Go.RowKit Sha Fct
attribute [local go_sem ↓] execOp_allocOB execOp_storeOB execOp_loadOB
theorem eqfB_any (p1 p2:Option Addr)(n m c1 c2:Nat)(l k:List (Fct.Id×List Int))(w:World)(h1:sB.Told w p1 n c1 l)(h2:sB.Told w p2 m c2 k)(hs:n<=1000000000)(hs2:m<=1000000000):
 Calls Tryz.prog 64 #[.slice p1 n c1,.slice p2 m c2,.func (.func 65) #[] #[]] w fun e w'=>e= .returned (.bool (decide (l=k)))/\Below w.heap.size w w':=by
 have H1:=Lib.hid h1
 have H2:=Lib.hid h2
 have HN1:=Lib.hid h1.len
 have HN2:=Lib.hid h2.len
 clear h1 h2
 by_cases hnm:n=m
 ·subst hnm
  go_enter Tryz.func64,Tryz.ntmps64
  go_wp2_with fail
  go_loopw [17] (fun iv wr=>∃i:Nat,iv= .int .i64 i/\i<=n/\Hid (l.take i=k.take i)/\Hid (Below w.heap.size w wr)) (fun iv _=>n - (intOf iv).toNat)
  case atStart=>exact⟨0,rfl,Nat.zero_le _,Lib.hid rfl,Lib.hid (Below.refl _ _)⟩
  case round=>
   obtain⟨i,rfl,hi,HT,HB⟩:=hrel
   by_cases hlt:i < n
   ·have hl:i < l.length:=by rw[<-HN1.out];exact hlt
    have hk:i < k.length:=by rw[<-HN2.out];exact hlt
    obtain⟨b1,o1,q1,d1,hp1,hr1,hg1⟩:=(H1.out.below HB.out).rows.get i hl
    obtain⟨b2,o2,q2,d2,hp2,hr2,hg2⟩:=(H2.out.below HB.out).rows.get i hk
    obtain⟨x,hx⟩:∃x,x=l[i]:=⟨_,rfl⟩
    obtain⟨y,hy⟩:∃y,y=k[i]:=⟨_,rfl⟩
    rw[<-hx]at hr1 hg1
    rw[<-hy]at hr2 hg2
    have hTK:=Lib.hid (show l.take (i+1)=l.take i++[x] by rw[hx];exact List.take_succ_eq_append_getElem hl)
    have hTL:=Lib.hid (show k.take (i+1)=k.take i++[y] by rw[hy];exact List.take_succ_eq_append_getElem hk)
    have hr1':wr.rangeAt b1 (o1+i*33) (bcells x q1 d1):=hr1
    have hr2':wr.rangeAt b2 (o2+i*33) (bcells y q2 d2):=hr2
    have l1:=load_OB hg1.ok hr1'
    have a1:=alloc_OB wr
    have s1:=storeN_OB wr hg1.ok q1 d1
    have kb1:Blk (wr.alloc (.cells (bcells x q1 d1).toArray 93)) wr.heap.size (bcells x q1 d1) 93:=Blk.new wr _ 93
    have bw1:=(Below.refl wr.heap.size wr).alloc (Nat.le_refl _) (.cells (bcells x q1 d1).toArray 93)
    obtain⟨g1,hgg1⟩:∃g,g=wr.heap.size:=⟨_,rfl⟩
    obtain⟨wa,hwa⟩:∃v,v=wr.alloc (.cells (bcells x q1 d1).toArray 93):=⟨_,rfl⟩
    obtain⟨wz,hwz⟩:∃v,v=wr.alloc (.cells (bcells (Fld.zero32,[]) none 0).toArray 93):=⟨_,rfl⟩
    rw[<-hwa]at s1 kb1 bw1
    rw[<-hwz]at a1 s1
    rw[<-hgg1]at a1 s1 kb1
    have l2:=load_OB hg2.ok (range_below hr2' bw1)
    have a2:=alloc_OB wa
    have s2:=storeN_OB wa hg2.ok q2 d2
    have kb2:Blk (wa.alloc (.cells (bcells y q2 d2).toArray 93)) wa.heap.size (bcells y q2 d2) 93:=Blk.new wa _ 93
    have kb12:=kb1.old (.cells (bcells y q2 d2).toArray 93)
    have bw2:=bw1.alloc bw1.size (.cells (bcells y q2 d2).toArray 93)
    obtain⟨g2,hgg2⟩:∃g,g=wa.heap.size:=⟨_,rfl⟩
    obtain⟨wb,hwb⟩:∃v,v=wa.alloc (.cells (bcells y q2 d2).toArray 93):=⟨_,rfl⟩
    obtain⟨wy,hwy⟩:∃v,v=wa.alloc (.cells (bcells (Fld.zero32,[]) none 0).toArray 93):=⟨_,rfl⟩
    rw[<-hwb]at s2 kb2 kb12 bw2
    rw[<-hwy]at a2 s2
    rw[<-hgg2]at a2 s2 kb2
    have l3:=load_OB (q:=q1) (c:=d1) hg1.ok (show wb.rangeAt g1 0 _ from kb12.range)
    have l4:=load_OB (q:=q2) (c:=d2) hg2.ok (show wb.rangeAt g2 0 _ from kb2.range)
    have HSM:=Lib.hid (psameB_any x y q1 q2 d1 d2 wb (hg1.below bw2) (hg2.below bw2))
    have HB2:=Lib.hid (HB.out.trans (bw2.mono HB.out.size))
    obtain⟨bb,hbb⟩:∃b,b=decide (x=y):=⟨_,rfl⟩
    rw[<-hbb]at HSM
    have HBB:=Lib.hid hbb
    subst hp1 hp2
    clear hr1 hr2 hg1 hg2 hr1' hr2' kb1 kb2 kb12 bw1 bw2 hwa hwb hwz hwy hgg1 hgg2 hbb hx hy hl hk HB
    go_wp2_with fail
    refine HSM.out.mono ?_
    rintro e w5 ⟨rfl,hb5⟩
    have HB5:=Lib.hid (HB2.out.trans (hb5.mono HB2.out.size))
    clear hb5
    cases bb with
    | true=>
       go_wp2_with fail
       go_roundw
       case rel=>exact⟨i+1,by go_num,by omega,Lib.hid (by rw[hTK.out,hTL.out,HT.out,of_decide_eq_true HBB.out.symm]),HB5⟩
       case measure=>simp[intOf];omega
    | false=>
       go_wp2_with fail
       go_ret
       refine⟨?_,HB5.out⟩
       have hne:¬l=k:=fun e=>by
        subst e
        have h9:=hTK.out
        rw[hTL.out]at h9
        have h10:=List.append_cancel_left h9
        simp at h10
        exact absurd h10.symm (of_decide_eq_false HBB.out.symm)
       rw[decide_eq_false hne];rfl
   ·obtain rfl:i=n:=by omega
    have hlk:l=k:=by
     have h9:=HT.out
     rw[List.take_of_length_le (by rw[<-HN1.out];exact Nat.le_refl _),List.take_of_length_le (by rw[<-HN2.out];exact Nat.le_refl _)]at h9
     exact h9
    have HLK:=Lib.hid hlk
    clear hlk
    go_wp2_with fail
    go_ret
    exact⟨by rw[decide_eq_true HLK.out];rfl,HB.out⟩
 ·have hne:¬l=k:=fun e=>by subst e;exact hnm (HN1.out.trans HN2.out.symm)
  have HNE:=Lib.hid hne
  have e1:((n:Int) != (m:Int))=true:=by rw[bne_iff_ne];omega
  clear hne
  go_enter Tryz.func64,Tryz.ntmps64
  go_wp2_with fail
  go_ret
  exact⟨by rw[decide_eq_false HNE.out];rfl,Below.refl _ _⟩
end
section
open Go.RowKit Sha Fct
theorem zeroE_V:(Tryz.prog.info? 62).map (fun i=>i.zero)=some (some (.agg (vcells ⟨0,0,0,0,0,[]⟩ none 0).toArray)):=by kernel_rfl
theorem sizeE_V:(Tryz.prog.info? 62).map (fun i=>i.size)=some 6:=by kernel_rfl
theorem execOp_allocOV (ρ:Operand->Value)(dst:Option Tmp)(ty:TypeId)(pos:String)(after:Array Edge)(guard:Option (Nat×Bool)):
 execOp ρ {dst:=dst,op:=.alloc 62,type:=ty,pos:=pos,after:=after,guard:=guard}= allocOp 62:=by unfold allocOp;rfl
theorem execOp_storeOV (ρ:Operand->Value)(dst:Option Tmp)(x y:Operand)(ty:TypeId)(pos:String)(after:Array Edge)(guard:Option (Nat×Bool)):
 execOp ρ {dst:=dst,op:=.store 62 x y,type:=ty,pos:=pos,after:=after,guard:=guard}= storeOp 62 (ρ x) (ρ y):=by unfold storeOp;rfl
theorem alloc_OV (w:World):(allocOp 62).run Tryz.prog w= .ok (.value (.pointer (some ⟨w.heap.size,0,none⟩))) (w.alloc (.cells (vcells ⟨0,0,0,0,0,[]⟩ none 0).toArray 62)):=run_allocOp w zeroE_V
theorem storeN_OV (w:World) {x:Vot}(hx:sV.ok x)(q:Option Addr)(c:Nat):(storeOp 62 (.pointer (some ⟨w.heap.size,0,none⟩)) (.agg (vcells x q c).toArray)).run Tryz.prog (w.alloc (.cells (vcells ⟨0,0,0,0,0,[]⟩ none 0).toArray 62))= .ok .skip (w.alloc (.cells (vcells x q c).toArray 62)):=by
 have hl:(vcells x q c).length=6:=sV.len q c hx
 refine run_storeNew w (by rw[sizeE_V,List.size_toArray,hl]) (by rw[List.size_toArray,List.size_toArray,hl];rfl) ?_
 rw[Array.all_eq_true_iff_forall_mem];intro v hv;exact sV.one x q c v (List.mem_toArray.1 hv)
attribute [local go_sem ↓] execOp_allocOV execOp_storeOV execOp_loadOV
theorem eqfV_any (p1 p2:Option Addr)(n m c1 c2:Nat)(l k:List (Vot))(w:World)(h1:sV.Told w p1 n c1 l)(h2:sV.Told w p2 m c2 k)(hs:n<=1000000000)(hs2:m<=1000000000):
 Calls Tryz.prog 69 #[.slice p1 n c1,.slice p2 m c2,.func (.func 70) #[] #[]] w fun e w'=>e= .returned (.bool (decide (l=k)))/\Below w.heap.size w w':=by
 have H1:=Lib.hid h1
 have H2:=Lib.hid h2
 have HN1:=Lib.hid h1.len
 have HN2:=Lib.hid h2.len
 clear h1 h2
 by_cases hnm:n=m
 ·subst hnm
  go_enter Tryz.func69,Tryz.ntmps69
  go_wp2_with fail
  go_loopw [17] (fun iv wr=>∃i:Nat,iv= .int .i64 i/\i<=n/\Hid (l.take i=k.take i)/\Hid (Below w.heap.size w wr)) (fun iv _=>n - (intOf iv).toNat)
  case atStart=>exact⟨0,rfl,Nat.zero_le _,Lib.hid rfl,Lib.hid (Below.refl _ _)⟩
  case round=>
   obtain⟨i,rfl,hi,HT,HB⟩:=hrel
   by_cases hlt:i < n
   ·have hl:i < l.length:=by rw[<-HN1.out];exact hlt
    have hk:i < k.length:=by rw[<-HN2.out];exact hlt
    obtain⟨b1,o1,q1,d1,hp1,hr1,hg1⟩:=(H1.out.below HB.out).rows.get i hl
    obtain⟨b2,o2,q2,d2,hp2,hr2,hg2⟩:=(H2.out.below HB.out).rows.get i hk
    obtain⟨x,hx⟩:∃x,x=l[i]:=⟨_,rfl⟩
    obtain⟨y,hy⟩:∃y,y=k[i]:=⟨_,rfl⟩
    rw[<-hx]at hr1 hg1
    rw[<-hy]at hr2 hg2
    have hTK:=Lib.hid (show l.take (i+1)=l.take i++[x] by rw[hx];exact List.take_succ_eq_append_getElem hl)
    have hTL:=Lib.hid (show k.take (i+1)=k.take i++[y] by rw[hy];exact List.take_succ_eq_append_getElem hk)
    have hr1':wr.rangeAt b1 (o1+i*6) (vcells x q1 d1):=hr1
    have hr2':wr.rangeAt b2 (o2+i*6) (vcells y q2 d2):=hr2
    have l1:=load_OV hg1.ok hr1'
    have a1:=alloc_OV wr
    have s1:=storeN_OV wr hg1.ok q1 d1
    have kb1:Blk (wr.alloc (.cells (vcells x q1 d1).toArray 62)) wr.heap.size (vcells x q1 d1) 62:=Blk.new wr _ 62
    have bw1:=(Below.refl wr.heap.size wr).alloc (Nat.le_refl _) (.cells (vcells x q1 d1).toArray 62)
    obtain⟨g1,hgg1⟩:∃g,g=wr.heap.size:=⟨_,rfl⟩
    obtain⟨wa,hwa⟩:∃v,v=wr.alloc (.cells (vcells x q1 d1).toArray 62):=⟨_,rfl⟩
    obtain⟨wz,hwz⟩:∃v,v=wr.alloc (.cells (vcells ⟨0,0,0,0,0,[]⟩ none 0).toArray 62):=⟨_,rfl⟩
    rw[<-hwa]at s1 kb1 bw1
    rw[<-hwz]at a1 s1
    rw[<-hgg1]at a1 s1 kb1
    have l2:=load_OV hg2.ok (range_below hr2' bw1)
    have a2:=alloc_OV wa
    have s2:=storeN_OV wa hg2.ok q2 d2
    have kb2:Blk (wa.alloc (.cells (vcells y q2 d2).toArray 62)) wa.heap.size (vcells y q2 d2) 62:=Blk.new wa _ 62
    have kb12:=kb1.old (.cells (vcells y q2 d2).toArray 62)
    have bw2:=bw1.alloc bw1.size (.cells (vcells y q2 d2).toArray 62)
    obtain⟨g2,hgg2⟩:∃g,g=wa.heap.size:=⟨_,rfl⟩
    obtain⟨wb,hwb⟩:∃v,v=wa.alloc (.cells (vcells y q2 d2).toArray 62):=⟨_,rfl⟩
    obtain⟨wy,hwy⟩:∃v,v=wa.alloc (.cells (vcells ⟨0,0,0,0,0,[]⟩ none 0).toArray 62):=⟨_,rfl⟩
    rw[<-hwb]at s2 kb2 kb12 bw2
    rw[<-hwy]at a2 s2
    rw[<-hgg2]at a2 s2 kb2
    have l3:=load_OV (q:=q1) (c:=d1) hg1.ok (show wb.rangeAt g1 0 _ from kb12.range)
    have l4:=load_OV (q:=q2) (c:=d2) hg2.ok (show wb.rangeAt g2 0 _ from kb2.range)
    have HSM:=Lib.hid (psameV_any x y q1 q2 d1 d2 wb (hg1.below bw2) (hg2.below bw2))
    have HB2:=Lib.hid (HB.out.trans (bw2.mono HB.out.size))
    obtain⟨bb,hbb⟩:∃b,b=decide (x=y):=⟨_,rfl⟩
    rw[<-hbb]at HSM
    have HBB:=Lib.hid hbb
    subst hp1 hp2
    clear hr1 hr2 hg1 hg2 hr1' hr2' kb1 kb2 kb12 bw1 bw2 hwa hwb hwz hwy hgg1 hgg2 hbb hx hy hl hk HB
    go_wp2_with fail
    refine HSM.out.mono ?_
    rintro e w5 ⟨rfl,hb5⟩
    have HB5:=Lib.hid (HB2.out.trans (hb5.mono HB2.out.size))
    clear hb5
    cases bb with
    | true=>
       go_wp2_with fail
       go_roundw
       case rel=>exact⟨i+1,by go_num,by omega,Lib.hid (by rw[hTK.out,hTL.out,HT.out,of_decide_eq_true HBB.out.symm]),HB5⟩
       case measure=>simp[intOf];omega
    | false=>
       go_wp2_with fail
       go_ret
       refine⟨?_,HB5.out⟩
       have hne:¬l=k:=fun e=>by
        subst e
        have h9:=hTK.out
        rw[hTL.out]at h9
        have h10:=List.append_cancel_left h9
        simp at h10
        exact absurd h10.symm (of_decide_eq_false HBB.out.symm)
       rw[decide_eq_false hne];rfl
   ·obtain rfl:i=n:=by omega
    have hlk:l=k:=by
     have h9:=HT.out
     rw[List.take_of_length_le (by rw[<-HN1.out];exact Nat.le_refl _),List.take_of_length_le (by rw[<-HN2.out];exact Nat.le_refl _)]at h9
     exact h9
    have HLK:=Lib.hid hlk
    clear hlk
    go_wp2_with fail
    go_ret
    exact⟨by rw[decide_eq_true HLK.out];rfl,HB.out⟩
 ·have hne:¬l=k:=fun e=>by subst e;exact hnm (HN1.out.trans HN2.out.symm)
  have HNE:=Lib.hid hne
  have e1:((n:Int) != (m:Int))=true:=by rw[bne_iff_ne];omega
  clear hne
  go_enter Tryz.func69,Tryz.ntmps69
  go_wp2_with fail
  go_ret
  exact⟨by rw[decide_eq_false HNE.out];rfl,Below.refl _ _⟩
end
section
open Go.RowKit Sha Fct
theorem zeroE_D:(Tryz.prog.info? 73).map (fun i=>i.zero)=some (some (.agg (dcells9 (0,[]) none 0).toArray)):=by kernel_rfl
theorem sizeE_D:(Tryz.prog.info? 73).map (fun i=>i.size)=some 2:=by kernel_rfl
theorem execOp_allocOD (ρ:Operand->Value)(dst:Option Tmp)(ty:TypeId)(pos:String)(after:Array Edge)(guard:Option (Nat×Bool)):
 execOp ρ {dst:=dst,op:=.alloc 73,type:=ty,pos:=pos,after:=after,guard:=guard}= allocOp 73:=by unfold allocOp;rfl
theorem execOp_storeOD (ρ:Operand->Value)(dst:Option Tmp)(x y:Operand)(ty:TypeId)(pos:String)(after:Array Edge)(guard:Option (Nat×Bool)):
 execOp ρ {dst:=dst,op:=.store 73 x y,type:=ty,pos:=pos,after:=after,guard:=guard}= storeOp 73 (ρ x) (ρ y):=by unfold storeOp;rfl
theorem alloc_OD (w:World):(allocOp 73).run Tryz.prog w= .ok (.value (.pointer (some ⟨w.heap.size,0,none⟩))) (w.alloc (.cells (dcells9 (0,[]) none 0).toArray 73)):=run_allocOp w zeroE_D
theorem storeN_OD (w:World) {x:Int×List Int}(hx:sD.ok x)(q:Option Addr)(c:Nat):(storeOp 73 (.pointer (some ⟨w.heap.size,0,none⟩)) (.agg (dcells9 x q c).toArray)).run Tryz.prog (w.alloc (.cells (dcells9 (0,[]) none 0).toArray 73))= .ok .skip (w.alloc (.cells (dcells9 x q c).toArray 73)):=by
 have hl:(dcells9 x q c).length=2:=sD.len q c hx
 refine run_storeNew w (by rw[sizeE_D,List.size_toArray,hl]) (by rw[List.size_toArray,List.size_toArray,hl];rfl) ?_
 rw[Array.all_eq_true_iff_forall_mem];intro v hv;exact sD.one x q c v (List.mem_toArray.1 hv)
attribute [local go_sem ↓] execOp_allocOD execOp_storeOD execOp_loadOD
theorem eqfD_any (p1 p2:Option Addr)(n m c1 c2:Nat)(l k:List (Int×List Int))(w:World)(h1:sD.Told w p1 n c1 l)(h2:sD.Told w p2 m c2 k)(hs:n<=1000000000)(hs2:m<=1000000000):
 Calls Tryz.prog 71 #[.slice p1 n c1,.slice p2 m c2,.func (.func 72) #[] #[]] w fun e w'=>e= .returned (.bool (decide (l=k)))/\Below w.heap.size w w':=by
 have H1:=Lib.hid h1
 have H2:=Lib.hid h2
 have HN1:=Lib.hid h1.len
 have HN2:=Lib.hid h2.len
 clear h1 h2
 by_cases hnm:n=m
 ·subst hnm
  go_enter Tryz.func71,Tryz.ntmps71
  go_wp2_with fail
  go_loopw [17] (fun iv wr=>∃i:Nat,iv= .int .i64 i/\i<=n/\Hid (l.take i=k.take i)/\Hid (Below w.heap.size w wr)) (fun iv _=>n - (intOf iv).toNat)
  case atStart=>exact⟨0,rfl,Nat.zero_le _,Lib.hid rfl,Lib.hid (Below.refl _ _)⟩
  case round=>
   obtain⟨i,rfl,hi,HT,HB⟩:=hrel
   by_cases hlt:i < n
   ·have hl:i < l.length:=by rw[<-HN1.out];exact hlt
    have hk:i < k.length:=by rw[<-HN2.out];exact hlt
    obtain⟨b1,o1,q1,d1,hp1,hr1,hg1⟩:=(H1.out.below HB.out).rows.get i hl
    obtain⟨b2,o2,q2,d2,hp2,hr2,hg2⟩:=(H2.out.below HB.out).rows.get i hk
    obtain⟨x,hx⟩:∃x,x=l[i]:=⟨_,rfl⟩
    obtain⟨y,hy⟩:∃y,y=k[i]:=⟨_,rfl⟩
    rw[<-hx]at hr1 hg1
    rw[<-hy]at hr2 hg2
    have hTK:=Lib.hid (show l.take (i+1)=l.take i++[x] by rw[hx];exact List.take_succ_eq_append_getElem hl)
    have hTL:=Lib.hid (show k.take (i+1)=k.take i++[y] by rw[hy];exact List.take_succ_eq_append_getElem hk)
    have hr1':wr.rangeAt b1 (o1+i*2) (dcells9 x q1 d1):=hr1
    have hr2':wr.rangeAt b2 (o2+i*2) (dcells9 y q2 d2):=hr2
    have l1:=load_OD hg1.ok hr1'
    have a1:=alloc_OD wr
    have s1:=storeN_OD wr hg1.ok q1 d1
    have kb1:Blk (wr.alloc (.cells (dcells9 x q1 d1).toArray 73)) wr.heap.size (dcells9 x q1 d1) 73:=Blk.new wr _ 73
    have bw1:=(Below.refl wr.heap.size wr).alloc (Nat.le_refl _) (.cells (dcells9 x q1 d1).toArray 73)
    obtain⟨g1,hgg1⟩:∃g,g=wr.heap.size:=⟨_,rfl⟩
    obtain⟨wa,hwa⟩:∃v,v=wr.alloc (.cells (dcells9 x q1 d1).toArray 73):=⟨_,rfl⟩
    obtain⟨wz,hwz⟩:∃v,v=wr.alloc (.cells (dcells9 (0,[]) none 0).toArray 73):=⟨_,rfl⟩
    rw[<-hwa]at s1 kb1 bw1
    rw[<-hwz]at a1 s1
    rw[<-hgg1]at a1 s1 kb1
    have l2:=load_OD hg2.ok (range_below hr2' bw1)
    have a2:=alloc_OD wa
    have s2:=storeN_OD wa hg2.ok q2 d2
    have kb2:Blk (wa.alloc (.cells (dcells9 y q2 d2).toArray 73)) wa.heap.size (dcells9 y q2 d2) 73:=Blk.new wa _ 73
    have kb12:=kb1.old (.cells (dcells9 y q2 d2).toArray 73)
    have bw2:=bw1.alloc bw1.size (.cells (dcells9 y q2 d2).toArray 73)
    obtain⟨g2,hgg2⟩:∃g,g=wa.heap.size:=⟨_,rfl⟩
    obtain⟨wb,hwb⟩:∃v,v=wa.alloc (.cells (dcells9 y q2 d2).toArray 73):=⟨_,rfl⟩
    obtain⟨wy,hwy⟩:∃v,v=wa.alloc (.cells (dcells9 (0,[]) none 0).toArray 73):=⟨_,rfl⟩
    rw[<-hwb]at s2 kb2 kb12 bw2
    rw[<-hwy]at a2 s2
    rw[<-hgg2]at a2 s2 kb2
    have l3:=load_OD (q:=q1) (c:=d1) hg1.ok (show wb.rangeAt g1 0 _ from kb12.range)
    have l4:=load_OD (q:=q2) (c:=d2) hg2.ok (show wb.rangeAt g2 0 _ from kb2.range)
    have HSM:=Lib.hid (psameD_any x y q1 q2 d1 d2 wb (hg1.below bw2) (hg2.below bw2))
    have HB2:=Lib.hid (HB.out.trans (bw2.mono HB.out.size))
    obtain⟨bb,hbb⟩:∃b,b=decide (x=y):=⟨_,rfl⟩
    rw[<-hbb]at HSM
    have HBB:=Lib.hid hbb
    subst hp1 hp2
    clear hr1 hr2 hg1 hg2 hr1' hr2' kb1 kb2 kb12 bw1 bw2 hwa hwb hwz hwy hgg1 hgg2 hbb hx hy hl hk HB
    go_wp2_with fail
    refine HSM.out.mono ?_
    rintro e w5 ⟨rfl,hb5⟩
    have HB5:=Lib.hid (HB2.out.trans (hb5.mono HB2.out.size))
    clear hb5
    cases bb with
    | true=>
       go_wp2_with fail
       go_roundw
       case rel=>exact⟨i+1,by go_num,by omega,Lib.hid (by rw[hTK.out,hTL.out,HT.out,of_decide_eq_true HBB.out.symm]),HB5⟩
       case measure=>simp[intOf];omega
    | false=>
       go_wp2_with fail
       go_ret
       refine⟨?_,HB5.out⟩
       have hne:¬l=k:=fun e=>by
        subst e
        have h9:=hTK.out
        rw[hTL.out]at h9
        have h10:=List.append_cancel_left h9
        simp at h10
        exact absurd h10.symm (of_decide_eq_false HBB.out.symm)
       rw[decide_eq_false hne];rfl
   ·obtain rfl:i=n:=by omega
    have hlk:l=k:=by
     have h9:=HT.out
     rw[List.take_of_length_le (by rw[<-HN1.out];exact Nat.le_refl _),List.take_of_length_le (by rw[<-HN2.out];exact Nat.le_refl _)]at h9
     exact h9
    have HLK:=Lib.hid hlk
    clear hlk
    go_wp2_with fail
    go_ret
    exact⟨by rw[decide_eq_true HLK.out];rfl,HB.out⟩
 ·have hne:¬l=k:=fun e=>by subst e;exact hnm (HN1.out.trans HN2.out.symm)
  have HNE:=Lib.hid hne
  have e1:((n:Int) != (m:Int))=true:=by rw[bne_iff_ne];omega
  clear hne
  go_enter Tryz.func71,Tryz.ntmps71
  go_wp2_with fail
  go_ret
  exact⟨by rw[decide_eq_false HNE.out];rfl,Below.refl _ _⟩
end
section
open Go.RowKit Sha Fct
section
variable {P:Program}
theorem run_neq_nums (w:World)(x y:Operand)(t ti tid te:TypeId)(m:Nat)(ht:P.underlying t=some (.struct (P.fieldsOf t)))(hp:P.stoodInHeld t=false)(hg:P.eqGuardType P.depth t=false)(hf:numsThen P ti tid m 0 (P.fieldsOf t).toList)
 (hi:P.underlying ti=some (.int .i64)) (hid:P.underlying tid=some (.array 32 te)) (hte:P.underlying te=some (.int .u8)) (he:(P.info? te).map (fun i=>i.size)=some 1) (hs:(P.info? tid).map (fun i=>i.size)=some 32)
 (xs ys D E:List Int) (hx:xs.length=m) (hy:ys.length=m) (hD:D.length=32) (hE:E.length=32):
 (do eqGuard .neq t x y (.agg (xs.map (Value.int .i64)++D.map v8).toArray) (.agg (ys.map (Value.int .i64)++E.map v8).toArray);binOp .neq t (.agg (xs.map (Value.int .i64)++D.map v8).toArray) (.agg (ys.map (Value.int .i64)++E.map v8).toArray):Sem Value).run P w= .ok (.bool (!decide (xs=ys/\D=E))) w:=by
 have hq:(Op.equal t (.agg (xs.map (Value.int .i64)++D.map v8).toArray) (.agg (ys.map (Value.int .i64)++E.map v8).toArray)).run P w= .ok (decide (xs=ys/\D=E)) w:=by
  show(Op.equalIn (9999+1) t _ _).run P w=_
  rw[run_equalIn_struct w 9999 t _ _ ht hp]
  have:=run_eq_nums (P:=P) w 9997 ti tid te hi hid hte he hs D E hD hE m 0 (P.fieldsOf t).toList xs ys [] [] hf hx hy rfl rfl
  simp only[List.nil_append]at this
  rw[this]
 rw[Sem.run_bind,run_eqGuard_agg w .neq t x y _ _ hg]
 simp only[Result.andThen_ok]
 simp[binOp,hq,Sem.run_pure]
end
@[irreducible] def neqOp9 (t:TypeId) (x y:Operand) (u v:Value):Sem Next:=do pure (.value (<-(do eqGuard .neq t x y u v;binOp .neq t u v)))
theorem execOp_neqKeep (ρ:Operand->Value)(dst:Option Tmp)(x y:Operand)(r:TypeId)(ty:TypeId)(pos:String)(after:Array Edge)(guard:Option (Nat×Bool)):
 execOp ρ {dst:=dst,op:=.binOp .neq 95 x y r,type:=ty,pos:=pos,after:=after,guard:=guard}= neqOp9 95 x y (ρ x) (ρ y):=by unfold neqOp9;rfl
theorem execOp_neqHint (ρ:Operand->Value)(dst:Option Tmp)(x y:Operand)(r:TypeId)(ty:TypeId)(pos:String)(after:Array Edge)(guard:Option (Nat×Bool)):
 execOp ρ {dst:=dst,op:=.binOp .neq 97 x y r,type:=ty,pos:=pos,after:=after,guard:=guard}= neqOp9 97 x y (ρ x) (ρ y):=by unfold neqOp9;rfl
theorem run_neqK (o1 o2:Operand)(k l:Int×List Int)(q r:Option Addr)(c d:Nat)(hx:k.2.length=32)(hy:l.2.length=32)(bb:Bool)(hb:bb= !decide (k=l))(w:World):(neqOp9 95 o1 o2 (.agg (kcells k q c).toArray) (.agg (kcells l r d).toArray)).run Tryz.prog w= .ok (.value (.bool bb)) w:=by
 subst hb
 obtain⟨a,x⟩:=k
 obtain⟨b,y⟩:=l
 have hr:=run_neq_nums (P:=Tryz.prog) w o1 o2 95 3 25 5 1 keep_under keep_held keep_guard keep_nums Tryz.underlying3 Tryz.underlying25 Tryz.underlying5 kslice1 id_size [a] [b] x y rfl rfl hx hy
 unfold neqOp9
 rw[Sem.run_bind]
 have e:∀(n:Int) (D:List Int) q c,(kcells (n,D) q c).toArray=([n].map (Value.int .i64)++D.map v8).toArray:=fun n D _ _=>congrArg List.toArray (by unfold kcells;simp)
 rw[e,e,hr]
 simp only[Result.andThen_ok,Sem.run_pure]
 simp
theorem run_neqH (o1 o2:Operand)(k l:Int×Int×List Int)(q r:Option Addr)(c d:Nat)(hx:k.2.2.length=32)(hy:l.2.2.length=32)(bb:Bool)(hb:bb= !decide (k=l))(w:World):(neqOp9 97 o1 o2 (.agg (hcells k q c).toArray) (.agg (hcells l r d).toArray)).run Tryz.prog w= .ok (.value (.bool bb)) w:=by
 subst hb
 obtain⟨a,a2,x⟩:=k
 obtain⟨b,b2,y⟩:=l
 have hr:=run_neq_nums (P:=Tryz.prog) w o1 o2 97 3 25 5 2 hint_under hint_held hint_guard hint_nums Tryz.underlying3 Tryz.underlying25 Tryz.underlying5 kslice1 id_size [a,a2] [b,b2] x y rfl rfl hx hy
 unfold neqOp9
 rw[Sem.run_bind]
 have e:∀(n m:Int) (D:List Int) q c,(hcells (n,m,D) q c).toArray=([n,m].map (Value.int .i64)++D.map v8).toArray:=fun n m D _ _=>congrArg List.toArray (by unfold hcells;simp)
 rw[e,e,hr]
 simp only[Result.andThen_ok,Sem.run_pure]
 simp[and_assoc]
end
section
open Go.RowKit Sha Fct
attribute [local go_sem ↓] execOp_loadOK execOp_neqKeep
theorem eqsK_any (p1 p2:Option Addr)(n m c1 c2:Nat)(l k:List (Int×Fct.Id))(w:World)(h1:sK.Told w p1 n c1 l)(h2:sK.Told w p2 m c2 k)(hs:n<=1000000000)(hs2:m<=1000000000):
 Calls Tryz.prog 67 #[.slice p1 n c1,.slice p2 m c2] w fun e w'=>e= .returned (.bool (decide (l=k)))/\Below w.heap.size w w':=by
 have H1:=Lib.hid h1
 have H2:=Lib.hid h2
 have HN1:=Lib.hid h1.len
 have HN2:=Lib.hid h2.len
 clear h1 h2
 by_cases hnm:n=m
 ·subst hnm
  go_enter Tryz.func67,Tryz.ntmps67
  go_wp2_with fail
  go_loopw [13] (fun iv wr=>∃i:Nat,iv= .int .i64 i/\i<=n/\Hid (l.take i=k.take i)/\Hid (Below w.heap.size w wr)) (fun iv _=>n - (intOf iv).toNat)
  case atStart=>exact⟨0,rfl,Nat.zero_le _,Lib.hid rfl,Lib.hid (Below.refl _ _)⟩
  case round=>
   obtain⟨i,rfl,hi,HT,HB⟩:=hrel
   by_cases hlt:i < n
   ·have hl:i < l.length:=by rw[<-HN1.out];exact hlt
    have hk:i < k.length:=by rw[<-HN2.out];exact hlt
    obtain⟨b1,o1,q1,d1,hp1,hr1,hg1⟩:=(H1.out.below HB.out).rows.get i hl
    obtain⟨b2,o2,q2,d2,hp2,hr2,hg2⟩:=(H2.out.below HB.out).rows.get i hk
    obtain⟨x,hx⟩:∃x,x=l[i]:=⟨_,rfl⟩
    obtain⟨y,hy⟩:∃y,y=k[i]:=⟨_,rfl⟩
    rw[<-hx]at hr1 hg1
    rw[<-hy]at hr2 hg2
    have hTK:=Lib.hid (show l.take (i+1)=l.take i++[x] by rw[hx];exact List.take_succ_eq_append_getElem hl)
    have hTL:=Lib.hid (show k.take (i+1)=k.take i++[y] by rw[hy];exact List.take_succ_eq_append_getElem hk)
    have hr1':wr.rangeAt b1 (o1+i*33) (kcells x q1 d1):=hr1
    have hr2':wr.rangeAt b2 (o2+i*33) (kcells y q2 d2):=hr2
    obtain⟨I,W,hC⟩:=cls_of wr
    have hne:Nonempty I:=hC.ne
    have l1:=fun n=>load_OK hg1.ok (range_below hr1' (hC.back n))
    have l2:=fun n=>load_OK hg2.ok (range_below hr2' (hC.back n))
    obtain⟨bb,hbb⟩:∃b,b= !decide (x=y):=⟨_,rfl⟩
    have q:=fun o1 o2 w=>run_neqK o1 o2 x y q1 q2 d1 d2 hg1.ok.2.1 hg2.ok.2.1 bb hbb w
    have HBB:=Lib.hid hbb
    have HC:=Lib.hid hC
    have i1:(0:Int)<=(i:Int)/\(i:Int) < (n:Int):=by omega
    subst hp1 hp2
    clear hr1 hr2 hg1 hg2 hr1' hr2' hbb hx hy hl hk hC
    go_wp2_with fail
    refine wp_region_cls W (by kernel_rfl) (by kernel_rfl) HC.out.one ?_
    repeat go_big_quiet_step (fail)
    refine wpQuiet_nil ?_
    rintro _ ⟨nq,rfl⟩
    have HB5:=Lib.hid (HB.out.trans ((HC.out.back nq).mono HB.out.size))
    cases bb with
    | false=>
       go_wp2_with fail
       go_roundw
       case rel=>exact⟨i+1,by go_num,by omega,Lib.hid (by rw[hTK.out,hTL.out,HT.out,show x=y by simpa using HBB.out]),HB5⟩
       case measure=>simp[intOf];omega
    | true=>
       go_wp2_with fail
       go_ret
       refine⟨?_,HB5.out⟩
       have hne:¬l=k:=fun e=>by
        subst e
        have h9:=hTK.out
        rw[hTL.out]at h9
        have h10:=List.append_cancel_left h9
        simp at h10
        have h11:=HBB.out
        rw[h10]at h11
        simp at h11
       rw[decide_eq_false hne];rfl
   ·obtain rfl:i=n:=by omega
    have hlk:l=k:=by
     have h9:=HT.out
     rw[List.take_of_length_le (by rw[<-HN1.out];exact Nat.le_refl _),List.take_of_length_le (by rw[<-HN2.out];exact Nat.le_refl _)]at h9
     exact h9
    have HLK:=Lib.hid hlk
    clear hlk
    go_wp2_with fail
    go_ret
    exact⟨by rw[decide_eq_true HLK.out];rfl,HB.out⟩
 ·have hne:¬l=k:=fun e=>by subst e;exact hnm (HN1.out.trans HN2.out.symm)
  have HNE:=Lib.hid hne
  have e1:((n:Int) != (m:Int))=true:=by rw[bne_iff_ne];omega
  clear hne
  go_enter Tryz.func67,Tryz.ntmps67
  go_wp2_with fail
  go_ret
  exact⟨by rw[decide_eq_false HNE.out];rfl,Below.refl _ _⟩
end
section
open Go.RowKit Sha Fct
attribute [local go_sem ↓] execOp_loadOH execOp_neqHint
theorem eqsH_any (p1 p2:Option Addr)(n m c1 c2:Nat)(l k:List (Int×Int×Fct.Id))(w:World)(h1:sH.Told w p1 n c1 l)(h2:sH.Told w p2 m c2 k)(hs:n<=1000000000)(hs2:m<=1000000000):
 Calls Tryz.prog 68 #[.slice p1 n c1,.slice p2 m c2] w fun e w'=>e= .returned (.bool (decide (l=k)))/\Below w.heap.size w w':=by
 have H1:=Lib.hid h1
 have H2:=Lib.hid h2
 have HN1:=Lib.hid h1.len
 have HN2:=Lib.hid h2.len
 clear h1 h2
 by_cases hnm:n=m
 ·subst hnm
  go_enter Tryz.func68,Tryz.ntmps68
  go_wp2_with fail
  go_loopw [13] (fun iv wr=>∃i:Nat,iv= .int .i64 i/\i<=n/\Hid (l.take i=k.take i)/\Hid (Below w.heap.size w wr)) (fun iv _=>n - (intOf iv).toNat)
  case atStart=>exact⟨0,rfl,Nat.zero_le _,Lib.hid rfl,Lib.hid (Below.refl _ _)⟩
  case round=>
   obtain⟨i,rfl,hi,HT,HB⟩:=hrel
   by_cases hlt:i < n
   ·have hl:i < l.length:=by rw[<-HN1.out];exact hlt
    have hk:i < k.length:=by rw[<-HN2.out];exact hlt
    obtain⟨b1,o1,q1,d1,hp1,hr1,hg1⟩:=(H1.out.below HB.out).rows.get i hl
    obtain⟨b2,o2,q2,d2,hp2,hr2,hg2⟩:=(H2.out.below HB.out).rows.get i hk
    obtain⟨x,hx⟩:∃x,x=l[i]:=⟨_,rfl⟩
    obtain⟨y,hy⟩:∃y,y=k[i]:=⟨_,rfl⟩
    rw[<-hx]at hr1 hg1
    rw[<-hy]at hr2 hg2
    have hTK:=Lib.hid (show l.take (i+1)=l.take i++[x] by rw[hx];exact List.take_succ_eq_append_getElem hl)
    have hTL:=Lib.hid (show k.take (i+1)=k.take i++[y] by rw[hy];exact List.take_succ_eq_append_getElem hk)
    have hr1':wr.rangeAt b1 (o1+i*34) (hcells x q1 d1):=hr1
    have hr2':wr.rangeAt b2 (o2+i*34) (hcells y q2 d2):=hr2
    obtain⟨I,W,hC⟩:=cls_of wr
    have hne:Nonempty I:=hC.ne
    have l1:=fun n=>load_OH hg1.ok (range_below hr1' (hC.back n))
    have l2:=fun n=>load_OH hg2.ok (range_below hr2' (hC.back n))
    obtain⟨bb,hbb⟩:∃b,b= !decide (x=y):=⟨_,rfl⟩
    have q:=fun o1 o2 w=>run_neqH o1 o2 x y q1 q2 d1 d2 hg1.ok.2.2.1 hg2.ok.2.2.1 bb hbb w
    have HBB:=Lib.hid hbb
    have HC:=Lib.hid hC
    have i1:(0:Int)<=(i:Int)/\(i:Int) < (n:Int):=by omega
    subst hp1 hp2
    clear hr1 hr2 hg1 hg2 hr1' hr2' hbb hx hy hl hk hC
    go_wp2_with fail
    refine wp_region_cls W (by kernel_rfl) (by kernel_rfl) HC.out.one ?_
    repeat go_big_quiet_step (fail)
    refine wpQuiet_nil ?_
    rintro _ ⟨nq,rfl⟩
    have HB5:=Lib.hid (HB.out.trans ((HC.out.back nq).mono HB.out.size))
    cases bb with
    | false=>
       go_wp2_with fail
       go_roundw
       case rel=>exact⟨i+1,by go_num,by omega,Lib.hid (by rw[hTK.out,hTL.out,HT.out,show x=y by simpa using HBB.out]),HB5⟩
       case measure=>simp[intOf];omega
    | true=>
       go_wp2_with fail
       go_ret
       refine⟨?_,HB5.out⟩
       have hne:¬l=k:=fun e=>by
        subst e
        have h9:=hTK.out
        rw[hTL.out]at h9
        have h10:=List.append_cancel_left h9
        simp at h10
        have h11:=HBB.out
        rw[h10]at h11
        simp at h11
       rw[decide_eq_false hne];rfl
   ·obtain rfl:i=n:=by omega
    have hlk:l=k:=by
     have h9:=HT.out
     rw[List.take_of_length_le (by rw[<-HN1.out];exact Nat.le_refl _),List.take_of_length_le (by rw[<-HN2.out];exact Nat.le_refl _)]at h9
     exact h9
    have HLK:=Lib.hid hlk
    clear hlk
    go_wp2_with fail
    go_ret
    exact⟨by rw[decide_eq_true HLK.out];rfl,HB.out⟩
 ·have hne:¬l=k:=fun e=>by subst e;exact hnm (HN1.out.trans HN2.out.symm)
  have HNE:=Lib.hid hne
  have e1:((n:Int) != (m:Int))=true:=by rw[bne_iff_ne];omega
  clear hne
  go_enter Tryz.func68,Tryz.ntmps68
  go_wp2_with fail
  go_ret
  exact⟨by rw[decide_eq_false HNE.out];rfl,Below.refl _ _⟩
end
section
open Go.RowKit Sha Fct
attribute [local go_sem ↓] execOp_boxSte
theorem ste_ext (s t:Ste):decide (s=t)=(((((((s.born == t.born) && (s.boot == t.boot)) && decide (s.blobs=t.blobs)) && decide (s.keeps=t.keeps)) && decide (s.hints=t.hints)) && decide (s.votes=t.votes)) && decide (s.decs=t.decs)):=by
 obtain⟨a1,a2,a3,a4,a5,a6,a7⟩:=s
 obtain⟨b1,b2,b3,b4,b5,b6,b7⟩:=t
 rw[Bool.eq_iff_iff]
 simp
 constructor
 ·rintro⟨rfl,rfl,rfl,rfl,rfl,rfl,rfl⟩;simp
 ·rintro⟨⟨⟨⟨⟨⟨rfl,rfl⟩,rfl⟩,rfl⟩,rfl⟩,rfl⟩,rfl⟩;simp
theorem pSame_any (s t:Ste)(h k:Hds)(w:World)(hl:(facts s).length<=100000000)(hl2:(facts t).length<=100000000)(hs:SGood w s h)(ht:SGood w t k):
 Calls Tryz.prog 28 #[.agg (scells s h).toArray,.agg (scells t k).toArray] w fun e w'=>e= .returned (.bool (decide (s=t)))/\Below w.heap.size w w':=by
 have bx:=run_boxOp (P:=Tryz.prog) (t:=47) (cs:=(scells s h).toArray) w
 have by_:=run_boxOp (P:=Tryz.prog) (t:=47) (cs:=(scells t k).toArray) (w.alloc (.cells (scells s h).toArray 47))
 have hz:(w.alloc (Obj.cells (scells s h).toArray 47)).heap.size=w.heap.size+1:=World.size_alloc ..
 have k1:Blk ((w.alloc (.cells (scells s h).toArray 47)).alloc (.cells (scells t k).toArray 47)) w.heap.size (scells s h) 47:=(show Blk (w.alloc (.cells (scells s h).toArray 47)) w.heap.size (scells s h) 47 from Blk.new w _ _).old _
 have k2:Blk ((w.alloc (.cells (scells s h).toArray 47)).alloc (.cells (scells t k).toArray 47)) (w.alloc (Obj.cells (scells s h).toArray 47)).heap.size (scells t k) 47:=Blk.new _ _ _
 have b2:Below w.heap.size w ((w.alloc (.cells (scells s h).toArray 47)).alloc (.cells (scells t k).toArray 47)):=((Below.refl _ w).alloc (Nat.le_refl _) _).alloc (by simp) _
 rw[hz]at by_ k2
 obtain⟨w2,hw2⟩:∃v,v=(w.alloc (.cells (scells s h).toArray 47)).alloc (.cells (scells t k).toArray 47):=⟨_,rfl⟩
 rw[<-hw2]at by_ k1 k2 b2
 obtain⟨I,W,hC⟩:=cls_of w2
 obtain⟨n0,hn0⟩:=hC.all w2 (Below.refl _ _)
 rw[hn0]at by_
 have a0:=hC.cell (show w2.cell? ⟨w.heap.size,0,none⟩=some (.bool s.born)from(k1.cell 0).trans (by rw[scells_eq];rfl))
 have e0:=hC.cell (show w2.cell? ⟨w.heap.size+1,0,none⟩=some (.bool t.born)from(k2.cell 0).trans (by rw[scells_eq];rfl))
 have a1:=hC.cell (show w2.cell? ⟨w.heap.size,1,none⟩=some (.int .i64 s.boot)from(k1.cell 1).trans (by rw[scells_eq];rfl))
 have e1:=hC.cell (show w2.cell? ⟨w.heap.size+1,1,none⟩=some (.int .i64 t.boot)from(k2.cell 1).trans (by rw[scells_eq];rfl))
 have a2:=hC.cell (show w2.cell? ⟨w.heap.size,2,none⟩=some (.slice h.b.1 h.b.2.1 h.b.2.2)from(k1.cell 2).trans (by rw[scells_eq];rfl))
 have e2:=hC.cell (show w2.cell? ⟨w.heap.size+1,2,none⟩=some (.slice k.b.1 k.b.2.1 k.b.2.2)from(k2.cell 2).trans (by rw[scells_eq];rfl))
 have s2:h.b.2.1<=1000000000:=by have h1:=hs.b.len;have h2:=few_blobs s;omega
 have t2:k.b.2.1<=1000000000:=by have h1:=ht.b.len;have h2:=few_blobs t;omega
 obtain⟨c2,hc2⟩:∃b,b=decide (s.blobs=t.blobs):=⟨_,rfl⟩
 have Q2:=Lib.hid (fun n=>(show Calls Tryz.prog 64 #[.slice h.b.1 h.b.2.1 h.b.2.2,.slice k.b.1 k.b.2.1 k.b.2.2,.func (.func 65) #[] #[]] (W n) (fun e w''=>e= .returned (.bool c2)/\∃m,w''=W m)from by
  have hbn:=b2.trans ((hC.back n).mono b2.size)
  have h1:=eqfB_any h.b.1 k.b.1 h.b.2.1 k.b.2.1 h.b.2.2 k.b.2.2 s.blobs t.blobs (W n) (hs.b.below hbn) (ht.b.below hbn) s2 t2
  rw[<-hc2]at h1
  exact h1.mono fun e w'' ⟨he,hb⟩=>⟨he,hC.all _ ((hC.back n).trans (hb.mono (hC.back n).size))⟩))
 have a3:=hC.cell (show w2.cell? ⟨w.heap.size,3,none⟩=some (.slice h.k.1 h.k.2.1 h.k.2.2)from(k1.cell 3).trans (by rw[scells_eq];rfl))
 have e3:=hC.cell (show w2.cell? ⟨w.heap.size+1,3,none⟩=some (.slice k.k.1 k.k.2.1 k.k.2.2)from(k2.cell 3).trans (by rw[scells_eq];rfl))
 have s3:h.k.2.1<=1000000000:=by have h1:=hs.k.len;have h2:=few_keeps s;omega
 have t3:k.k.2.1<=1000000000:=by have h1:=ht.k.len;have h2:=few_keeps t;omega
 obtain⟨b3,hb3⟩:∃b,b=decide (s.keeps=t.keeps):=⟨_,rfl⟩
 have Q3:=Lib.hid (fun n=>(show Calls Tryz.prog 67 #[.slice h.k.1 h.k.2.1 h.k.2.2,.slice k.k.1 k.k.2.1 k.k.2.2] (W n) (fun e w''=>e= .returned (.bool b3)/\∃m,w''=W m)from by
  have hbn:=b2.trans ((hC.back n).mono b2.size)
  have h1:=eqsK_any h.k.1 k.k.1 h.k.2.1 k.k.2.1 h.k.2.2 k.k.2.2 s.keeps t.keeps (W n) (hs.k.below hbn) (ht.k.below hbn) s3 t3
  rw[<-hb3]at h1
  exact h1.mono fun e w'' ⟨he,hb⟩=>⟨he,hC.all _ ((hC.back n).trans (hb.mono (hC.back n).size))⟩))
 have a4:=hC.cell (show w2.cell? ⟨w.heap.size,4,none⟩=some (.slice h.h.1 h.h.2.1 h.h.2.2)from(k1.cell 4).trans (by rw[scells_eq];rfl))
 have e4:=hC.cell (show w2.cell? ⟨w.heap.size+1,4,none⟩=some (.slice k.h.1 k.h.2.1 k.h.2.2)from(k2.cell 4).trans (by rw[scells_eq];rfl))
 have s4:h.h.2.1<=1000000000:=by have h1:=hs.h.len;have h2:=few_hints s;omega
 have t4:k.h.2.1<=1000000000:=by have h1:=ht.h.len;have h2:=few_hints t;omega
 obtain⟨b4,hb4⟩:∃b,b=decide (s.hints=t.hints):=⟨_,rfl⟩
 have Q4:=Lib.hid (fun n=>(show Calls Tryz.prog 68 #[.slice h.h.1 h.h.2.1 h.h.2.2,.slice k.h.1 k.h.2.1 k.h.2.2] (W n) (fun e w''=>e= .returned (.bool b4)/\∃m,w''=W m)from by
  have hbn:=b2.trans ((hC.back n).mono b2.size)
  have h1:=eqsH_any h.h.1 k.h.1 h.h.2.1 k.h.2.1 h.h.2.2 k.h.2.2 s.hints t.hints (W n) (hs.h.below hbn) (ht.h.below hbn) s4 t4
  rw[<-hb4]at h1
  exact h1.mono fun e w'' ⟨he,hb⟩=>⟨he,hC.all _ ((hC.back n).trans (hb.mono (hC.back n).size))⟩))
 have a5:=hC.cell (show w2.cell? ⟨w.heap.size,5,none⟩=some (.slice h.v.1 h.v.2.1 h.v.2.2)from(k1.cell 5).trans (by rw[scells_eq];rfl))
 have e5:=hC.cell (show w2.cell? ⟨w.heap.size+1,5,none⟩=some (.slice k.v.1 k.v.2.1 k.v.2.2)from(k2.cell 5).trans (by rw[scells_eq];rfl))
 have s5:h.v.2.1<=1000000000:=by have h1:=hs.v.len;have h2:=few_votes s;omega
 have t5:k.v.2.1<=1000000000:=by have h1:=ht.v.len;have h2:=few_votes t;omega
 obtain⟨b5,hb5⟩:∃b,b=decide (s.votes=t.votes):=⟨_,rfl⟩
 have Q5:=Lib.hid (fun n=>(show Calls Tryz.prog 69 #[.slice h.v.1 h.v.2.1 h.v.2.2,.slice k.v.1 k.v.2.1 k.v.2.2,.func (.func 70) #[] #[]] (W n) (fun e w''=>e= .returned (.bool b5)/\∃m,w''=W m)from by
  have hbn:=b2.trans ((hC.back n).mono b2.size)
  have h1:=eqfV_any h.v.1 k.v.1 h.v.2.1 k.v.2.1 h.v.2.2 k.v.2.2 s.votes t.votes (W n) (hs.v.below hbn) (ht.v.below hbn) s5 t5
  rw[<-hb5]at h1
  exact h1.mono fun e w'' ⟨he,hb⟩=>⟨he,hC.all _ ((hC.back n).trans (hb.mono (hC.back n).size))⟩))
 have a6:=hC.cell (show w2.cell? ⟨w.heap.size,6,none⟩=some (.slice h.d.1 h.d.2.1 h.d.2.2)from(k1.cell 6).trans (by rw[scells_eq];rfl))
 have e6:=hC.cell (show w2.cell? ⟨w.heap.size+1,6,none⟩=some (.slice k.d.1 k.d.2.1 k.d.2.2)from(k2.cell 6).trans (by rw[scells_eq];rfl))
 have s6:h.d.2.1<=1000000000:=by have h1:=hs.d.len;have h2:=few_decs s;omega
 have t6:k.d.2.1<=1000000000:=by have h1:=ht.d.len;have h2:=few_decs t;omega
 obtain⟨b6,hb6⟩:∃b,b=decide (s.decs=t.decs):=⟨_,rfl⟩
 have Q6:=Lib.hid (fun n=>(show Calls Tryz.prog 71 #[.slice h.d.1 h.d.2.1 h.d.2.2,.slice k.d.1 k.d.2.1 k.d.2.2,.func (.func 72) #[] #[]] (W n) (fun e w''=>e= .returned (.bool b6)/\∃m,w''=W m)from by
  have hbn:=b2.trans ((hC.back n).mono b2.size)
  have h1:=eqfD_any h.d.1 k.d.1 h.d.2.1 k.d.2.1 h.d.2.2 k.d.2.2 s.decs t.decs (W n) (hs.d.below hbn) (ht.d.below hbn) s6 t6
  rw[<-hb6]at h1
  exact h1.mono fun e w'' ⟨he,hb⟩=>⟨he,hC.all _ ((hC.back n).trans (hb.mono (hC.back n).size))⟩))
 have HR:=Lib.hid (show decide (s=t)=(((((((s.born == t.born) && (s.boot == t.boot)) && c2) && b3) && b4) && b5) && b6) by rw[hc2,hb3,hb4,hb5,hb6];exact ste_ext s t)
 have HB:=Lib.hid (fun n=>b2.trans ((hC.back n).mono b2.size))
 clear hs ht k1 k2 b2 hC hn0 hw2 hz hc2 hb3 hb4 hb5 hb6 hl hl2 s2 s3 s4 s5 s6 t2 t3 t4 t5 t6
 obtain⟨bo,E0⟩:∃b,(s.born == t.born)=b:=⟨_,rfl⟩
 obtain⟨bt,E1⟩:∃b,(s.boot == t.boot)=b:=⟨_,rfl⟩
 cases bo with
 | false=>
    go_enter Tryz.func28,Tryz.ntmps28
    go_wp2_with (first
     | (go_at_call 64;refine(Q2.out _).mono ?_;rintro e x2 ⟨rfl,n2,rfl⟩)
     | (go_at_call 67;refine(Q3.out _).mono ?_;rintro e x3 ⟨rfl,n3,rfl⟩)
     | (go_at_call 68;refine(Q4.out _).mono ?_;rintro e x4 ⟨rfl,n4,rfl⟩)
     | (go_at_call 69;refine(Q5.out _).mono ?_;rintro e x5 ⟨rfl,n5,rfl⟩)
     | (go_at_call 71;refine(Q6.out _).mono ?_;rintro e x6 ⟨rfl,n6,rfl⟩))
    go_ret
    exact⟨by rw[HR.out];simp[E0,E1],HB.out _⟩
 | true=>
    cases bt with
    | false=>
       go_enter Tryz.func28,Tryz.ntmps28
       go_wp2_with (first
        | (go_at_call 64;refine(Q2.out _).mono ?_;rintro e x2 ⟨rfl,n2,rfl⟩)
        | (go_at_call 67;refine(Q3.out _).mono ?_;rintro e x3 ⟨rfl,n3,rfl⟩)
        | (go_at_call 68;refine(Q4.out _).mono ?_;rintro e x4 ⟨rfl,n4,rfl⟩)
        | (go_at_call 69;refine(Q5.out _).mono ?_;rintro e x5 ⟨rfl,n5,rfl⟩)
        | (go_at_call 71;refine(Q6.out _).mono ?_;rintro e x6 ⟨rfl,n6,rfl⟩))
       go_ret
       exact⟨by rw[HR.out];simp[E0,E1],HB.out _⟩
    | true=>
       cases c2 with
       | false=>
          go_enter Tryz.func28,Tryz.ntmps28
          go_wp2_with (first
           | (go_at_call 64;refine(Q2.out _).mono ?_;rintro e x2 ⟨rfl,n2,rfl⟩)
           | (go_at_call 67;refine(Q3.out _).mono ?_;rintro e x3 ⟨rfl,n3,rfl⟩)
           | (go_at_call 68;refine(Q4.out _).mono ?_;rintro e x4 ⟨rfl,n4,rfl⟩)
           | (go_at_call 69;refine(Q5.out _).mono ?_;rintro e x5 ⟨rfl,n5,rfl⟩)
           | (go_at_call 71;refine(Q6.out _).mono ?_;rintro e x6 ⟨rfl,n6,rfl⟩))
          go_ret
          exact⟨by rw[HR.out];simp[E0,E1],HB.out _⟩
       | true=>
          cases b3 with
          | false=>
             go_enter Tryz.func28,Tryz.ntmps28
             go_wp2_with (first
              | (go_at_call 64;refine(Q2.out _).mono ?_;rintro e x2 ⟨rfl,n2,rfl⟩)
              | (go_at_call 67;refine(Q3.out _).mono ?_;rintro e x3 ⟨rfl,n3,rfl⟩)
              | (go_at_call 68;refine(Q4.out _).mono ?_;rintro e x4 ⟨rfl,n4,rfl⟩)
              | (go_at_call 69;refine(Q5.out _).mono ?_;rintro e x5 ⟨rfl,n5,rfl⟩)
              | (go_at_call 71;refine(Q6.out _).mono ?_;rintro e x6 ⟨rfl,n6,rfl⟩))
             go_ret
             exact⟨by rw[HR.out];simp[E0,E1],HB.out _⟩
          | true=>
             cases b4 with
             | false=>
                go_enter Tryz.func28,Tryz.ntmps28
                go_wp2_with (first
                 | (go_at_call 64;refine(Q2.out _).mono ?_;rintro e x2 ⟨rfl,n2,rfl⟩)
                 | (go_at_call 67;refine(Q3.out _).mono ?_;rintro e x3 ⟨rfl,n3,rfl⟩)
                 | (go_at_call 68;refine(Q4.out _).mono ?_;rintro e x4 ⟨rfl,n4,rfl⟩)
                 | (go_at_call 69;refine(Q5.out _).mono ?_;rintro e x5 ⟨rfl,n5,rfl⟩)
                 | (go_at_call 71;refine(Q6.out _).mono ?_;rintro e x6 ⟨rfl,n6,rfl⟩))
                go_ret
                exact⟨by rw[HR.out];simp[E0,E1],HB.out _⟩
             | true=>
                cases b5 with
                | false=>
                   go_enter Tryz.func28,Tryz.ntmps28
                   go_wp2_with (first
                    | (go_at_call 64;refine(Q2.out _).mono ?_;rintro e x2 ⟨rfl,n2,rfl⟩)
                    | (go_at_call 67;refine(Q3.out _).mono ?_;rintro e x3 ⟨rfl,n3,rfl⟩)
                    | (go_at_call 68;refine(Q4.out _).mono ?_;rintro e x4 ⟨rfl,n4,rfl⟩)
                    | (go_at_call 69;refine(Q5.out _).mono ?_;rintro e x5 ⟨rfl,n5,rfl⟩)
                    | (go_at_call 71;refine(Q6.out _).mono ?_;rintro e x6 ⟨rfl,n6,rfl⟩))
                   go_ret
                   exact⟨by rw[HR.out];simp[E0,E1],HB.out _⟩
                | true=>
                   go_enter Tryz.func28,Tryz.ntmps28
                   go_wp2_with (first
                    | (go_at_call 64;refine(Q2.out _).mono ?_;rintro e x2 ⟨rfl,n2,rfl⟩)
                    | (go_at_call 67;refine(Q3.out _).mono ?_;rintro e x3 ⟨rfl,n3,rfl⟩)
                    | (go_at_call 68;refine(Q4.out _).mono ?_;rintro e x4 ⟨rfl,n4,rfl⟩)
                    | (go_at_call 69;refine(Q5.out _).mono ?_;rintro e x5 ⟨rfl,n5,rfl⟩)
                    | (go_at_call 71;refine(Q6.out _).mono ?_;rintro e x6 ⟨rfl,n6,rfl⟩))
                   go_ret
                   exact⟨by rw[HR.out];simp[E0,E1],HB.out _⟩
end
section
open Go.RowKit Sha Fct
structure FactsSame:Prop extends FactsStep where
 same:∀(s t:Ste) h k w,Sound s->Sound t->(Fct.facts s).length<=4*listMost->(Fct.facts t).length<=4*listMost->SGood w s h->SGood w t k->Calls Tryz.prog 28 #[.agg (scells s h).toArray,.agg (scells t k).toArray] w fun e w'=>e= .returned (.bool (decide (s=t)))/\Below w.heap.size w w'
def FTel (w:World)(l:List Fac)(e:Ending)(w':World):Prop:=∃q c,e= .returned (.slice q l.length c)/\sF.Told w' q l.length c l/\Below w.heap.size w w'
structure FactsTold:Prop extends FactsSame where
 facts:∀(s:Ste) h w,Sound s->(Fct.facts s).length<=4*listMost->SGood w s h->Calls Tryz.prog 26 #[.agg (scells s h).toArray] w (FTel w (Fct.facts s))
end
section
open Go.RowKit Sha Fct
theorem factSame:FactsSame where
 toFactsStep:=factStep
 same s t h k w _ _ hl hl2 hs ht:=pSame_any s t h k w (Nat.le_trans hl (by decide)) (Nat.le_trans hl2 (by decide)) hs ht
end
section
open Go.RowKit Sha Fct
attribute [local go_sem ↓] execOp_boxOV execOp_loadBal execOp_makeFact execOp_allocFact execOp_storeFact execOp_loadFact execOp_buildFacts
theorem built_prom9 (s p o:Int):Tryz.prog.built 28 [(0,.int .i64 7),(1,.int .i64 s),(3,.agg #[.int .i64 p,.int .i64 o])] = some (fcells ⟨7,s,0,p,o,Fld.zero32,[]⟩ none 0).toArray:=by unfold fcells;kernel_rfl
theorem make_prom9 (s p o:Int)(w:World):(makeOp 28 #[(0,.int .i64 7),(1,.int .i64 s),(3,.agg #[.int .i64 p,.int .i64 o])]).run Tryz.prog w= .ok (.value (.agg (fcells ⟨7,s,0,p,o,Fld.zero32,[]⟩ none 0).toArray)) w:=run_makeOp w (built_prom9 s p o)
theorem built_acc9 (s p o:Int)(B:List Int)(q:Option Addr)(m c:Nat)(hm:m=B.length):Tryz.prog.built 28 [(0,.int .i64 8),(1,.int .i64 s),(3,.agg #[.int .i64 p,.int .i64 o]),(5,.slice q m c)] = some (fcells ⟨8,s,0,p,o,Fld.zero32,B⟩ q c).toArray:=by subst hm;unfold fcells;kernel_rfl
theorem make_acc9 (s p o:Int)(B:List Int)(q:Option Addr)(m c:Nat)(hm:m=B.length)(w:World):(makeOp 28 #[(0,.int .i64 8),(1,.int .i64 s),(3,.agg #[.int .i64 p,.int .i64 o]),(5,.slice q m c)]).run Tryz.prog w= .ok (.value (.agg (fcells ⟨8,s,0,p,o,Fld.zero32,B⟩ q c).toArray)) w:=run_makeOp w (built_acc9 s p o B q m c hm)
theorem ordL_le (a b c d:Int):ordL a b c d<=0↔more a b c d=false:=by
 unfold ordL orC orC orC cmpI more
 simp only[decide_eq_false_iff_not]
 (repeat' split)<;>omega
def VTel (w:World)(v:Vot)(q:Option Addr)(c:Nat)(e:Ending)(w':World):Prop:=
 ∃p cc ys,e= .returned (.slice p (List.length ys) cc)/\ys.map (·.1)=fVote v/\(∀y∈ys,y=(fProm v,none,0)\/(v.AN≠0/\y=(fAcc v,q,c)))/\At w' p (ys.flatMap sF.row)/\ys.length<=cc/\(p=none->cc=0)/\Below w.heap.size w w'
theorem pvoteFacts_any (v:Vot)(q:Option Addr)(c:Nat)(w:World)(hv:sV.Good w v q c)(hok:VoteOk v):
 Calls Tryz.prog 62 #[.agg (vcells v q c).toArray] w (VTel w v q c):=by
 have bx:=run_boxOp (P:=Tryz.prog) (t:=62) (cs:=(vcells v q c).toArray) w
 have k1:Blk (w.alloc (.cells (vcells v q c).toArray 62)) w.heap.size (vcells v q c) 62:=Blk.new w _ 62
 have b1:=(Below.refl w.heap.size w).alloc (Nat.le_refl _) (.cells (vcells v q c).toArray 62)
 obtain⟨w1,hw1⟩:∃x,x=w.alloc (.cells (vcells v q c).toArray 62):=⟨_,rfl⟩
 rw[<-hw1]at bx k1 b1
 have hpo:(fProm v).ok:=(good_prom hok).1
 have al1:=alloc_fact w1
 have st1:=store_fact1 w1 (x:=fProm v) (q:=none) (c:=0) hpo.len
 have kp:Blk (w1.alloc (.cells (fcells (fProm v) none 0).toArray 28)) w1.heap.size (fcells (fProm v) none 0) 28:=Blk.new w1 _ 28
 have k2:=k1.old (.cells (fcells (fProm v) none 0).toArray 28)
 have b2:=b1.alloc b1.size (.cells (fcells (fProm v) none 0).toArray 28)
 obtain⟨w2,hw2⟩:∃x,x=w1.alloc (.cells (fcells (fProm v) none 0).toArray 28):=⟨_,rfl⟩
 obtain⟨y1,hy1⟩:∃x,x=w1.alloc (.cells (fcells fz none 0).toArray 28):=⟨_,rfl⟩
 rw[<-hw2]at st1 kp k2 b2
 rw[<-hy1]at al1 st1
 have gP:∀W,sF.Good W (fProm v) none 0:=fun W=>⟨hpo,Or.inl rfl,Nat.zero_le _,by decide,fun _=>rfl⟩
 obtain⟨g,hg⟩:∃x,x=w.heap.size:=⟨_,rfl⟩
 obtain⟨g1,hg1⟩:∃x,x=w1.heap.size:=⟨_,rfl⟩
 rw[<-hg]at bx k1 k2
 rw[<-hg1]at al1 st1 kp
 have c10:w1.cell? ⟨g,0,none⟩=some (.int .i64 v.S):=k1.cell 0
 have c11:w1.cell? ⟨g,1,none⟩=some (.int .i64 v.PN):=k1.cell 1
 have e1:∀z u (i:Nat),vcells z u i= [i64c z.S]++[i64c z.PN,i64c z.PO]++[i64c z.AN,i64c z.AO,.slice u z.B.length i]:=fun _ _ _=>rfl
 have e2:∀z u (i:Nat),vcells z u i= [i64c z.S,i64c z.PN,i64c z.PO]++[i64c z.AN,i64c z.AO]++[.slice u z.B.length i]:=fun _ _ _=>rfl
 have p1:(loadOp 23 (.pointer (some ⟨g,1,none⟩))).run Tryz.prog w1= .ok (.value (.agg #[.int .i64 v.PN,.int .i64 v.PO])) w1:=load_vbal (range_mid (by rw[<-e1];exact k1) rfl)
 have p2:(loadOp 23 (.pointer (some ⟨g,1,none⟩))).run Tryz.prog w2= .ok (.value (.agg #[.int .i64 v.PN,.int .i64 v.PO])) w2:=load_vbal (range_mid (by rw[<-e1];exact k2) rfl)
 have mp:=make_prom9 v.S v.PN v.PO w1
 have c20:w2.cell? ⟨g,0,none⟩=some (.int .i64 v.S):=k2.cell 0
 have c23:w2.cell? ⟨g,3,none⟩=some (.int .i64 v.AN):=k2.cell 3
 have n1:(v.PN == 0)=false:=by rw[beq_eq_false_iff_ne];have:=hok.prom.1;unfold setOk at this;omega
 rw[show(⟨7,v.S,0,v.PN,v.PO,Fld.zero32,[]⟩:Fac)=fProm v from rfl]at mp
 by_cases ha:v.AN=0
 ·have n2:(v.AN == 0)=true:=by rw[beq_iff_eq];exact ha
  have l2:=load_factB kp hpo.len
  have bf:(buildOp 30 1 #[(0,Value.agg (fcells (fProm v) none 0).toArray)]).run Tryz.prog w2= .ok (.value (.slice (some ⟨w2.heap.size,0,none⟩) 1 1)) (w2.alloc (.cells (([(fProm v,none,0)]:List (Hd Fac)).map sF.row).flatten.toArray 28)):=build_facts w2 [(fProm v,none,0)] (by intro y hy;rw[List.mem_singleton.1 hy];exact hpo.len) (by simp)
  have HT:=Lib.hid (at_made w2 (([(fProm v,none,0)]:List (Hd Fac)).map sF.row).flatten 28)
  have HBL:=Lib.hid (b2.alloc b2.size (.cells (([(fProm v,none,0)]:List (Hd Fac)).map sF.row).flatten.toArray 28))
  have HV:=Lib.hid (show fVote v= [fProm v] by unfold fVote;rw[if_pos ha])
  clear hv hok k1 k2 b1 b2 hw1 hw2 hy1 hpo kp gP hg hg1 e1 e2 ha
  generalize w2.alloc (.cells (([(fProm v,none,0)]:List (Hd Fac)).map sF.row).flatten.toArray 28)=w5 at *
  go_enter Tryz.func62,Tryz.ntmps62
  go_wp2_with fail
  go_ret
  exact⟨_,_,[(fProm v,none,0)],rfl,by rw[HV.out];rfl,(by intro y hy;rw[List.mem_singleton.1 hy];exact Or.inl rfl),by rw[List.flatMap_def];exact HT.out,Nat.le_refl _,(fun h=>by cases h),HBL.out⟩
 ·have n2:(v.AN == 0)=false:=by rw[beq_eq_false_iff_ne];exact ha
  have hao:(fAcc v).ok:=(good_acc hok ha).1
  obtain⟨m,hm⟩:∃m,m=v.B.length:=⟨_,rfl⟩
  have c25:w2.cell? ⟨g,5,none⟩=some (.slice q m c):=by rw[hm];exact k2.cell 5
  have p3:(loadOp 23 (.pointer (some ⟨g,3,none⟩))).run Tryz.prog w2= .ok (.value (.agg #[.int .i64 v.AN,.int .i64 v.AO])) w2:=load_vbal (range_mid (by rw[<-e2];exact k2) rfl)
  have ma:=make_acc9 v.S v.AN v.AO v.B q m c hm w2
  rw[show(⟨8,v.S,0,v.AN,v.AO,Fld.zero32,v.B⟩:Fac)=fAcc v from rfl]at ma
  have al2:=alloc_fact w2
  have st2:=store_fact1 w2 (x:=fAcc v) (q:=q) (c:=c) hao.len
  have ka:Blk (w2.alloc (.cells (fcells (fAcc v) q c).toArray 28)) w2.heap.size (fcells (fAcc v) q c) 28:=Blk.new w2 _ 28
  have k3:=k2.old (.cells (fcells (fAcc v) q c).toArray 28)
  have kp3:=kp.old (.cells (fcells (fAcc v) q c).toArray 28)
  have b3:=b2.alloc b2.size (.cells (fcells (fAcc v) q c).toArray 28)
  obtain⟨w3,hw3⟩:∃x,x=w2.alloc (.cells (fcells (fAcc v) q c).toArray 28):=⟨_,rfl⟩
  obtain⟨y2,hy2⟩:∃x,x=w2.alloc (.cells (fcells fz none 0).toArray 28):=⟨_,rfl⟩
  rw[<-hw3]at st2 ka k3 kp3 b3
  rw[<-hy2]at al2 st2
  obtain⟨g2,hg2⟩:∃x,x=w2.heap.size:=⟨_,rfl⟩
  rw[<-hg2]at al2 st2 ka
  have p4:(loadOp 23 (.pointer (some ⟨g,1,none⟩))).run Tryz.prog w3= .ok (.value (.agg #[.int .i64 v.PN,.int .i64 v.PO])) w3:=load_vbal (range_mid (by rw[<-e1];exact k3) rfl)
  have p5:(loadOp 23 (.pointer (some ⟨g,3,none⟩))).run Tryz.prog w3= .ok (.value (.agg #[.int .i64 v.AN,.int .i64 v.AO])) w3:=load_vbal (range_mid (by rw[<-e2];exact k3) rfl)
  have QB:=Lib.hid (ballots_any v.PN v.PO v.AN v.AO w3)
  obtain⟨od,hod⟩:∃n,n=ordL v.PN v.PO v.AN v.AO:=⟨_,rfl⟩
  rw[<-hod]at QB
  have HOD:=Lib.hid (show od<=0↔more v.PN v.PO v.AN v.AO=false by rw[hod];exact ordL_le ..)
  have HKP:=Lib.hid kp3
  have HKA:=Lib.hid ka
  have HB3:=Lib.hid b3
  have HPO:=Lib.hid hpo
  have HAO:=Lib.hid hao
  have HNA:=Lib.hid ha
  have HGP:=Lib.hid gP
  have HGA:=Lib.hid (show sF.Good w3 (fAcc v) q c from by
   have h9:=hv.below b3
   exact⟨hao,h9.at_,h9.le,h9.max,h9.nil⟩)
  have HV1:=Lib.hid (show more v.PN v.PO v.AN v.AO=true->fVote v= [fAcc v,fProm v]from fun h=>by unfold fVote;rw[if_neg ha,if_pos h])
  have HV2:=Lib.hid (show more v.PN v.PO v.AN v.AO=false->fVote v= [fProm v,fAcc v]from fun h=>by unfold fVote;rw[if_neg ha,if_neg (by simp[h])])
  clear hv hok k1 k2 k3 b1 b2 b3 hw1 hw2 hw3 hy1 hy2 hpo hao kp kp3 ka gP hg hg1 hg2 e1 e2 ha hod hm
  go_enter Tryz.func62,Tryz.ntmps62
  go_wp2_with fail
  refine QB.out.mono ?_
  rintro e w4 ⟨rfl,hb4⟩
  have l1:=load_factB (HKP.out.below hb4 HKP.out.lt) HPO.out.len
  have l2:=load_factB (HKA.out.below hb4 HKA.out.lt) HAO.out.len
  have b4:=HB3.out.trans (hb4.mono HB3.out.size)
  have hga:=HGA.out.below hb4
  cases hm:more v.PN v.PO v.AN v.AO with
  | true=>
     have t1:decide (od<=0)=false:=decide_eq_false fun h=>by rw[HOD.out.1 h]at hm;cases hm
     have bf:(buildOp 30 2 #[(0,Value.agg (fcells (fAcc v) q c).toArray),(1,Value.agg (fcells (fProm v) none 0).toArray)]).run Tryz.prog w4= .ok (.value (.slice (some ⟨w4.heap.size,0,none⟩) 2 2)) (w4.alloc (.cells (([(fAcc v,q,c),(fProm v,none,0)]:List (Hd Fac)).map sF.row).flatten.toArray 28)):=
      build_facts w4 [(fAcc v,q,c),(fProm v,none,0)] (by intro y hy;simp at hy;rcases hy with rfl | rfl;exact HAO.out.len;exact HPO.out.len) (by simp)
     have HT:=Lib.hid (at_made w4 (([(fAcc v,q,c),(fProm v,none,0)]:List (Hd Fac)).map sF.row).flatten 28)
     have HBL:=Lib.hid (b4.alloc b4.size (.cells (([(fAcc v,q,c),(fProm v,none,0)]:List (Hd Fac)).map sF.row).flatten.toArray 28))
     have HV:=Lib.hid (HV1.out hm)
     clear hb4 b4 hga hm
     generalize w4.alloc (.cells (([(fAcc v,q,c),(fProm v,none,0)]:List (Hd Fac)).map sF.row).flatten.toArray 28)=w5 at *
     go_wp2_with fail
     go_ret
     exact⟨_,_,[(fAcc v,q,c),(fProm v,none,0)],rfl,by rw[HV.out];rfl,(by intro y hy;simp at hy;rcases hy with rfl | rfl;exact Or.inr ⟨HNA.out,rfl⟩;exact Or.inl rfl),by rw[List.flatMap_def];exact HT.out,Nat.le_refl _,(fun h=>by cases h),HBL.out⟩
  | false=>
     have t1:decide (od<=0)=true:=decide_eq_true (HOD.out.2 hm)
     have bf:(buildOp 30 2 #[(0,Value.agg (fcells (fProm v) none 0).toArray),(1,Value.agg (fcells (fAcc v) q c).toArray)]).run Tryz.prog w4= .ok (.value (.slice (some ⟨w4.heap.size,0,none⟩) 2 2)) (w4.alloc (.cells (([(fProm v,none,0),(fAcc v,q,c)]:List (Hd Fac)).map sF.row).flatten.toArray 28)):=
      build_facts w4 [(fProm v,none,0),(fAcc v,q,c)] (by intro y hy;simp at hy;rcases hy with rfl | rfl;exact HPO.out.len;exact HAO.out.len) (by simp)
     have HT:=Lib.hid (at_made w4 (([(fProm v,none,0),(fAcc v,q,c)]:List (Hd Fac)).map sF.row).flatten 28)
     have HBL:=Lib.hid (b4.alloc b4.size (.cells (([(fProm v,none,0),(fAcc v,q,c)]:List (Hd Fac)).map sF.row).flatten.toArray 28))
     have HV:=Lib.hid (HV2.out hm)
     clear hb4 b4 hga hm
     generalize w4.alloc (.cells (([(fProm v,none,0),(fAcc v,q,c)]:List (Hd Fac)).map sF.row).flatten.toArray 28)=w5 at *
     go_wp2_with fail
     go_ret
     exact⟨_,_,[(fProm v,none,0),(fAcc v,q,c)],rfl,by rw[HV.out];rfl,(by intro y hy;simp at hy;rcases hy with rfl | rfl;exact Or.inl rfl;exact Or.inr ⟨HNA.out,rfl⟩),by rw[List.flatMap_def];exact HT.out,Nat.le_refl _,(fun h=>by cases h),HBL.out⟩
end
end Go.Proofs.YtokpabkcaofahaaGreat
