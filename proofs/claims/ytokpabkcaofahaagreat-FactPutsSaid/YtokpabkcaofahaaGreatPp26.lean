/-
  What stands under factPuts_holds: part 26.
-/
import Derived.Test.YtokpabkcaofahaaGreatPp19
import Derived.Test.YtokpabkcaofahaaGreatPp25
import Derived.Test.YtokpabkcaofahaaGreatPp16
import Derived.Test.YtokpabkcaofahaaGreatPp15
namespace Go.Proofs.YtokpabkcaofahaaGreat
set_option linter.unusedSimpArgs false
set_option linter.unusedVariables false
set_option maxRecDepth 100000
set_option maxHeartbeats 20000000
section
open Go.RowKit Sha Fct
open Fld (Itm)
theorem YX (x:Fac)(hk:1<=x.K/\x.K < 11):facL (hasL x.K) (items x) (kindF x.K)=of x.K (items x):=by
 rcases kinds hk with e | e | e | e | e | e | e | e | e | e<;>simp[hasL,items,e,facL,layF,kindF,of,iN,iD,iB]
theorem YY (x:Fac)(hk:1<=x.K/\x.K < 11):(bndL (hasL x.K) (items x) && decide (of x.K (items x)=x))=can x:=by
 by_cases h:of x.K (items x)=x
 ·rw[decide_eq_true h,Bool.and_true,Bool.eq_iff_iff,can_iff]
  have hB:x.K≠3->x.K≠8->x.K≠9->x.B= []:=by
   intro h3 h8 h9
   rcases kinds hk with e | e | e | e | e | e | e | e | e | e<;>rw[<-h]<;>simp[of,items,e]at*<;>omega
  constructor
  ·intro hb
   rcases kinds hk with e | e | e | e | e | e | e | e | e | e<;>simp[hasL,items,e,bndL,inB,iN,iD,iB]at hb hB
   ·exact⟨hk,h,by omega,by omega,by omega,by rw[hB];simp⟩
   ·exact⟨hk,h,fun _ _=>by unfold setOk;omega,by omega,by omega,by rw[hB];simp⟩
   ·exact⟨hk,h,by omega,by omega,by omega,by rw[if_pos e];omega⟩
   ·exact⟨hk,h,fun _ _=>by unfold setOk;omega,by omega,by omega,by rw[hB];simp⟩
   ·exact⟨hk,h,fun _ _=>by unfold setOk;omega,fun _=>by unfold nodeOk;omega,by omega,by rw[hB];simp⟩
   ·exact⟨hk,h,fun _ _=>by unfold setOk;omega,fun _=>by unfold nodeOk;omega,by omega,by rw[hB];simp⟩
   ·exact⟨hk,h,fun _ _=>by unfold setOk;omega,by omega,fun _=>by unfold setOk nodeOk;omega,by rw[hB];simp⟩
   ·exact⟨hk,h,fun _ _=>by unfold setOk;omega,by omega,fun _=>by unfold setOk nodeOk;omega,by rw[if_neg (by omega)];omega⟩
   ·exact⟨hk,h,fun _ _=>by unfold setOk;omega,by omega,by omega,by rw[if_neg (by omega)];omega⟩
   ·exact⟨hk,h,fun _ _=>by unfold setOk;omega,by omega,by omega,by rw[hB];simp⟩
  ·intro hc
   obtain⟨_,_,h1,h2,h3,h4⟩:=hc
   unfold setOk at h1
   unfold nodeOk at h2
   unfold setOk nodeOk at h3
   rcases kinds hk with e | e | e | e | e | e | e | e | e | e<;>simp[e]at h1 h2 h3 h4<;>simp[hasL,items,e,bndL,inB,iN,iD,iB]<;>omega
 ·rw[decide_eq_false h,Bool.and_false]
  symm
  rw[Bool.eq_false_iff]
  exact fun hc=>h ((can_iff x).1 hc).pure_
section
variable (ρ:Operand->Value) (dst:Option Tmp) (x y:Operand) (ty:TypeId) (pos:String) (after:Array Edge) (guard:Option (Nat×Bool))
theorem zr:execOp ρ {dst:=dst,op:=.alloc 79,type:=ty,pos:=pos,after:=after,guard:=guard}= allocOp 79:=by unfold allocOp;rfl
theorem zt:execOp ρ {dst:=dst,op:=.store 79 x y,type:=ty,pos:=pos,after:=after,guard:=guard}= storeOp 79 (ρ x) (ρ y):=by unfold storeOp;rfl
theorem zv:execOp ρ {dst:=dst,op:=.load 79 x,type:=ty,pos:=pos,after:=after,guard:=guard}= loadOp 79 (ρ x):=by unfold loadOp;rfl
end
abbrev emp:ByteArray:=⟨#[]⟩
theorem Z6:(Tryz.prog.info? 79).map (fun i=>i.zero)=some (some (.agg #[.string emp,.string emp])):=by kernel_rfl
theorem Zf (s t:ByteArray):(Tryz.prog.info? 79).map (fun i=>i.size)=some (#[Value.string s,Value.string t]:Array Value).size:=by kernel_rfl
theorem zo (w:World):(allocOp 79).run Tryz.prog w= .ok (.value (.pointer (some ⟨w.heap.size,0,none⟩))) (w.alloc (.cells #[.string emp,.string emp] 79)):=run_allocOp w Z6
theorem zj (w:World)(s t:ByteArray):(storeOp 79 (.pointer (some ⟨w.heap.size,0,none⟩)) (.agg #[.string s,.string t])).run Tryz.prog (w.alloc (.cells #[.string emp,.string emp] 79))= .ok .skip (w.alloc (.cells #[.string s,.string t] 79)):=
 run_storeNew w (Zf s t) rfl (by simp[Value.oneCell'])
theorem zp {w:World} {g:Nat} {s t:ByteArray}(h:Blk w g [.string s,.string t] 79):(loadOp 79 (.pointer (some ⟨g,0,none⟩))).run Tryz.prog w= .ok (.value (.agg #[.string s,.string t])) w:=
 run_loadRow h Tryz.underlying79 rfl (Zf s t)
attribute [local go_sem ↓] execOp_boxFact zr zt zv execOp_loadFact
theorem yw (x:Fac)(q:Option Addr)(c:Nat)(m:Value)(w:World)(hm:Tab w m)(hx:sF.Good w x q c)(hk:¬(1<=x.K/\x.K < 11)):
 Calls Tryz.prog 42 #[m,.agg (fcells x q c).toArray] w fun e w'=>e= .returned (.int .i64 (Fct.check x))/\Below w.heap.size w w':=by
 have HQ:=xF (show Fct.check x=2 from check_no fun h=>hk h.kind)
 have bx:=run_boxOp (P:=Tryz.prog) (t:=28) (cs:=(fcells x q c).toArray) w
 have hb1:=(qB w.heap.size w).alloc (qD _) (.cells (fcells x q c).toArray 28)
 have hk1:Blk (w.alloc (.cells (fcells x q c).toArray 28)) w.heap.size (fcells x q c) 28:=Blk.new w (fcells x q c).toArray 28
 obtain⟨w1,hw1⟩:∃v,v=w.alloc (.cells (fcells x q c).toArray 28):=⟨_,rfl⟩
 rw[<-hw1]at bx hb1 hk1
 have lk:=look_no (hm.below hb1) x.K hk true
 have c0:w1.cell? ⟨w.heap.size,0,none⟩=some (.int .i64 x.K):=(hk1.cell 0).trans (fcells_K x q c)
 have al:=zo w1
 have st:=zj w1 emp emp
 have HB2:=xF (hb1.alloc hb1.size (.cells #[.string emp,.string emp] 79))
 clear hw1 hb1 hk1 hm hx hk
 generalize w1.alloc (.cells #[.string emp,.string emp] 79)=w2 at *
 go_enter Tryz.func42,Tryz.ntmps42
 go_wp2_with fail
 go_ret
 exact⟨by rw[HQ.out];rfl,HB2.out⟩
theorem Z7 (x:Fac)(q:Option Addr)(c:Nat)(m:Value)(w:World)(hm:Tab w m)(hx:sF.Good w x q c)(hk:1<=x.K/\x.K < 11):
 Calls Tryz.prog 42 #[m,.agg (fcells x q c).toArray] w fun e w'=>e= .returned (.int .i64 (Fct.check x))/\Below w.heap.size w w':=by
 have bx:=run_boxOp (P:=Tryz.prog) (t:=28) (cs:=(fcells x q c).toArray) w
 have hb1:=(qB w.heap.size w).alloc (qD _) (.cells (fcells x q c).toArray 28)
 have hk1:Blk (w.alloc (.cells (fcells x q c).toArray 28)) w.heap.size (fcells x q c) 28:=Blk.new w (fcells x q c).toArray 28
 obtain⟨w1,hw1⟩:∃v,v=w.alloc (.cells (fcells x q c).toArray 28):=⟨_,rfl⟩
 rw[<-hw1]at bx hb1 hk1
 have lk:=look_yes (hm.below hb1) x.K hk true
 have c0:w1.cell? ⟨w.heap.size,0,none⟩=some (.int .i64 x.K):=(hk1.cell 0).trans (fcells_K x q c)
 have al:=zo w1
 have st:=zj w1 (kSh x.K) (kHas x.K)
 have HB3:=xF (hb1.alloc hb1.size (.cells #[.string (kSh x.K),.string (kHas x.K)] 79))
 have HK:=xF (hk1.old (.cells #[.string (kSh x.K),.string (kHas x.K)] 79))
 have HF:=xF (show Blk (w1.alloc (.cells #[.string (kSh x.K),.string (kHas x.K)] 79)) w1.heap.size [.string (kSh x.K),.string (kHas x.K)] 79 from Blk.new w1 _ 79)
 obtain⟨g0,hg0⟩:∃g0,g0=w.heap.size:=⟨_,rfl⟩
 obtain⟨g1,hg1⟩:∃g1,g1=w1.heap.size:=⟨_,rfl⟩
 rw[<-hg0]at bx c0 HK
 rw[<-hg1]at al st HF
 clear hw1 hb1 hk1 hm hg0 hg1
 generalize w1.alloc (.cells #[.string emp,.string emp] 79)=w2 at *
 generalize w1.alloc (.cells #[.string (kSh x.K),.string (kHas x.K)] 79)=w3 at *
 have HX:=xF hx
 have lf:=zp HF.out
 have lq:=load_factB HK.out HX.out.ok.len
 have HIT:=xF (show Calls Tryz.prog 44 #[.agg #[.string (kSh x.K),.string (kHas x.K)],.agg (fcells x q c).toArray] w3 (PItems ((hasL x.K).map (hdrOf x q c)) w3)from pitems_any x.K x q c w3 (HX.out.below HB3.out))
 have HM:=xF (show((hasL x.K).map (hdrOf x q c)).map (·.1)=items x from by rw[hdrOf_map,itemsH_map])
 have HCN:=xF (YY x hk)
 have HDE:=xF (show decide (facL (hasL x.K) (items x) (kindF x.K)=x)=decide (of x.K (items x)=x)from by rw[YX x hk])
 clear hx hk
 cases hbn:bndL (hasL x.K) (items x)with
 | false=>
    have HBN:=xF hbn
    have HQ:=xF (show Fct.check x=2 from by
     have h1:=HCN.out
     rw[hbn,Bool.false_and]at h1
     exact check_no fun h=>by rw[(can_iff x).2 h]at h1;cases h1)
    clear hbn
    go_enter Tryz.func42,Tryz.ntmps42
    go_wp2_with fail
    refine HIT.out.mono ?_
    rintro e w4 ⟨p,n,cp,rfl,hn,hA,hT,hb4⟩
    rw[HM.out]at hT
    have HN:=xF (show n=(hasL x.K).length from by rw[hn,List.length_map])
    have HT:=xF hT
    have HB4:=xF (HB3.out.trans (hb4.mono HB3.out.size))
    have HX4:=xF (HX.out.below HB4.out)
    have E0:=xF (fun W (hb:Below w4.heap.size w4 W)=>zp ((HF.out.below hb4 HF.out.lt).below hb (HF.out.below hb4 HF.out.lt).lt))
    have E1:=xF (fun W (hb:Below w4.heap.size w4 W)=>(show W.cell? ⟨g0,0,none⟩=some (.int .i64 x.K)from(((HK.out.below hb4 HK.out.lt).below hb (HK.out.below hb4 HK.out.lt).lt).cell 0).trans (fcells_K x q c)))
    have E2:=xF (fun W (hb:Below w4.heap.size w4 W)=>load_factB ((HK.out.below hb4 HK.out.lt).below hb (HK.out.below hb4 HK.out.lt).lt) HX4.out.ok.len)
    have H1:=xF (fun W (hb:Below w4.heap.size w4 W)=>(show Calls Tryz.prog 77 #[form x.K,.slice p n cp] W (fun e w'=>e= .returned (.bool false)/\Below W.heap.size W w')from by have h1:=pbounded_any x.K (items x) p n cp W (HT.out.below hb) HN.out;rw[HBN.out]at h1;exact h1))
    clear hn hA hT hb4
    go_wp2_with fail
    obtain⟨I,W,hC⟩:=cls_of w4
    have hne:Nonempty I:=hC.ne
    have e0:=fun n=>E0.out _ (hC.back n)
    have QS:=xF (hC.call (P:=Tryz.prog) (f:=77) (args:=#[form x.K,.slice p n cp]) (v:=.bool false) (fun w' hb=>H1.out w' hb))
    have HC:=xF hC
    clear hC
    refine wp_region_cls W (by kernel_rfl) (by kernel_rfl) HC.out.one ?_
    repeat go_big_quiet_step ((go_at_call 77;exact QS.out _))
    refine wpQuiet_nil ?_
    rintro _ ⟨nr,rfl⟩
    go_wp2_with fail
    go_ret
    exact⟨by rw[HQ.out];rfl,HB4.out.trans ((HC.out.back nr).mono HB4.out.size)⟩
 | true=>
    have HBN:=xF hbn
    cases hde:decide (of x.K (items x)=x)with
    | true=>
       have HQ:=xF (show Fct.check x=0 from by
        have h1:=HCN.out
        rw[hbn,hde]at h1
        exact check_ok ((can_iff x).1 h1.symm))
       rw[hde]at HDE
       clear hbn hde
       go_enter Tryz.func42,Tryz.ntmps42
       go_wp2_with fail
       refine HIT.out.mono ?_
       rintro e w4 ⟨p,n,cp,rfl,hn,hA,hT,hb4⟩
       rw[HM.out]at hT
       have HN:=xF (show n=(hasL x.K).length from by rw[hn,List.length_map])
       have HT:=xF hT
       have HB4:=xF (HB3.out.trans (hb4.mono HB3.out.size))
       have HX4:=xF (HX.out.below HB4.out)
       have E0:=xF (fun W (hb:Below w4.heap.size w4 W)=>zp ((HF.out.below hb4 HF.out.lt).below hb (HF.out.below hb4 HF.out.lt).lt))
       have E1:=xF (fun W (hb:Below w4.heap.size w4 W)=>(show W.cell? ⟨g0,0,none⟩=some (.int .i64 x.K)from(((HK.out.below hb4 HK.out.lt).below hb (HK.out.below hb4 HK.out.lt).lt).cell 0).trans (fcells_K x q c)))
       have E2:=xF (fun W (hb:Below w4.heap.size w4 W)=>load_factB ((HK.out.below hb4 HK.out.lt).below hb (HK.out.below hb4 HK.out.lt).lt) HX4.out.ok.len)
       have H1:=xF (fun W (hb:Below w4.heap.size w4 W)=>(show Calls Tryz.prog 77 #[form x.K,.slice p n cp] W (fun e w'=>e= .returned (.bool true)/\Below W.heap.size W w')from by have h1:=pbounded_any x.K (items x) p n cp W (HT.out.below hb) HN.out;rw[HBN.out]at h1;exact h1))
       have H2:=xF (fun W (hb:Below w4.heap.size w4 W)=>pfact_any x.K HX4.out.ok.K (items x) p n cp W (HT.out.below hb) HN.out)
       clear hn hA hT hb4
       go_wp2_with fail
       go_region_held3 (fun w'=>Below w4.heap.size w4 w'/\(loadOp 79 (.pointer (some ⟨g1,0,none⟩))).run Tryz.prog w'= .ok (.value (form x.K)) w'/\w'.cell? ⟨g0,0,none⟩=some (.int .i64 x.K)/\(loadOp 28 (.pointer (some ⟨g0,0,none⟩))).run Tryz.prog w'= .ok (.value (.agg (fcells x q c).toArray)) w')
        (exact⟨(by(repeat(first | exact qB _ _ | assumption | refine Below.drew ?_))),E0.out _ (by(repeat(first | exact qB _ _ | assumption | refine Below.drew ?_))),E1.out _ (by(repeat(first | exact qB _ _ | assumption | refine Below.drew ?_))),E2.out _ (by(repeat(first | exact qB _ _ | assumption | refine Below.drew ?_)))⟩)
        ((first
          | (go_at_call 77;refine(H1.out _ (by(repeat(first | exact qB _ _ | assumption | refine Below.drew ?_)))).mono ?_;rintro e w5 ⟨rfl,hb5⟩;(have hbw5:Below w4.heap.size w4 w5:=below_next9 (by(repeat(first | exact qB _ _ | assumption | refine Below.drew ?_))) hb5);(have a5:=E0.out _ hbw5);(have b5:=E1.out _ hbw5);(have c5:=E2.out _ hbw5);clear hb5)
          | (go_at_call 78;refine(H2.out _ (by(repeat(first | exact qB _ _ | assumption | refine Below.drew ?_)))).mono ?_;rintro e w6 ⟨q6,c6,rfl,hg6,hb6⟩;(have hbw6:Below w4.heap.size w4 w6:=below_next9 (by(repeat(first | exact qB _ _ | assumption | refine Below.drew ?_))) hb6);(have a6:=E0.out _ hbw6);(have b6:=E1.out _ hbw6);(have c6':=E2.out _ hbw6);(have HG6:=xF hg6);clear hb6 hg6)
          | (go_at_call 81;refine(Zu _ x q6 q c6 c w6 HG6.out (HX4.out.below hbw6)).mono ?_;rintro e w7 ⟨rfl,hb7⟩;(have hbw7:Below w4.heap.size w4 w7:=below_next9 hbw6 hb7);(have a7:=E0.out _ hbw7);(have b7:=E1.out _ hbw7);(have c7:=E2.out _ hbw7);rw[HDE.out];clear hb7)))
       all_goals(go_wp2_with fail;go_ret)
       all_goals exact⟨by rw[HQ.out];rfl,HB4.out.trans (hbw7.mono HB4.out.size)⟩
    | false=>
       have HQ:=xF (show Fct.check x=2 from by
        have h1:=HCN.out
        rw[hbn,hde]at h1
        exact check_no fun h=>by rw[(can_iff x).2 h]at h1;cases h1)
       rw[hde]at HDE
       clear hbn hde
       go_enter Tryz.func42,Tryz.ntmps42
       go_wp2_with fail
       refine HIT.out.mono ?_
       rintro e w4 ⟨p,n,cp,rfl,hn,hA,hT,hb4⟩
       rw[HM.out]at hT
       have HN:=xF (show n=(hasL x.K).length from by rw[hn,List.length_map])
       have HT:=xF hT
       have HB4:=xF (HB3.out.trans (hb4.mono HB3.out.size))
       have HX4:=xF (HX.out.below HB4.out)
       have E0:=xF (fun W (hb:Below w4.heap.size w4 W)=>zp ((HF.out.below hb4 HF.out.lt).below hb (HF.out.below hb4 HF.out.lt).lt))
       have E1:=xF (fun W (hb:Below w4.heap.size w4 W)=>(show W.cell? ⟨g0,0,none⟩=some (.int .i64 x.K)from(((HK.out.below hb4 HK.out.lt).below hb (HK.out.below hb4 HK.out.lt).lt).cell 0).trans (fcells_K x q c)))
       have E2:=xF (fun W (hb:Below w4.heap.size w4 W)=>load_factB ((HK.out.below hb4 HK.out.lt).below hb (HK.out.below hb4 HK.out.lt).lt) HX4.out.ok.len)
       have H1:=xF (fun W (hb:Below w4.heap.size w4 W)=>(show Calls Tryz.prog 77 #[form x.K,.slice p n cp] W (fun e w'=>e= .returned (.bool true)/\Below W.heap.size W w')from by have h1:=pbounded_any x.K (items x) p n cp W (HT.out.below hb) HN.out;rw[HBN.out]at h1;exact h1))
       have H2:=xF (fun W (hb:Below w4.heap.size w4 W)=>pfact_any x.K HX4.out.ok.K (items x) p n cp W (HT.out.below hb) HN.out)
       clear hn hA hT hb4
       go_wp2_with fail
       go_region_held3 (fun w'=>Below w4.heap.size w4 w'/\(loadOp 79 (.pointer (some ⟨g1,0,none⟩))).run Tryz.prog w'= .ok (.value (form x.K)) w'/\w'.cell? ⟨g0,0,none⟩=some (.int .i64 x.K)/\(loadOp 28 (.pointer (some ⟨g0,0,none⟩))).run Tryz.prog w'= .ok (.value (.agg (fcells x q c).toArray)) w')
        (exact⟨(by(repeat(first | exact qB _ _ | assumption | refine Below.drew ?_))),E0.out _ (by(repeat(first | exact qB _ _ | assumption | refine Below.drew ?_))),E1.out _ (by(repeat(first | exact qB _ _ | assumption | refine Below.drew ?_))),E2.out _ (by(repeat(first | exact qB _ _ | assumption | refine Below.drew ?_)))⟩)
        ((first
          | (go_at_call 77;refine(H1.out _ (by(repeat(first | exact qB _ _ | assumption | refine Below.drew ?_)))).mono ?_;rintro e w5 ⟨rfl,hb5⟩;(have hbw5:Below w4.heap.size w4 w5:=below_next9 (by(repeat(first | exact qB _ _ | assumption | refine Below.drew ?_))) hb5);(have a5:=E0.out _ hbw5);(have b5:=E1.out _ hbw5);(have c5:=E2.out _ hbw5);clear hb5)
          | (go_at_call 78;refine(H2.out _ (by(repeat(first | exact qB _ _ | assumption | refine Below.drew ?_)))).mono ?_;rintro e w6 ⟨q6,c6,rfl,hg6,hb6⟩;(have hbw6:Below w4.heap.size w4 w6:=below_next9 (by(repeat(first | exact qB _ _ | assumption | refine Below.drew ?_))) hb6);(have a6:=E0.out _ hbw6);(have b6:=E1.out _ hbw6);(have c6':=E2.out _ hbw6);(have HG6:=xF hg6);clear hb6 hg6)
          | (go_at_call 81;refine(Zu _ x q6 q c6 c w6 HG6.out (HX4.out.below hbw6)).mono ?_;rintro e w7 ⟨rfl,hb7⟩;(have hbw7:Below w4.heap.size w4 w7:=below_next9 hbw6 hb7);(have a7:=E0.out _ hbw7);(have b7:=E1.out _ hbw7);(have c7:=E2.out _ hbw7);rw[HDE.out];clear hb7)))
       all_goals(go_wp2_with fail;go_ret)
       all_goals exact⟨by rw[HQ.out];rfl,HB4.out.trans (hbw7.mono HB4.out.size)⟩
theorem zQ (x:Fac)(q:Option Addr)(c:Nat)(m:Value)(w:World)(hm:Tab w m)(hx:sF.Good w x q c):
 Calls Tryz.prog 42 #[m,.agg (fcells x q c).toArray] w fun e w'=>e= .returned (.int .i64 (Fct.check x))/\Below w.heap.size w w':=by
 by_cases hk:1<=x.K/\x.K < 11
 ·exact Z7 x q c m w hm hx hk
 ·exact yw x q c m w hm hx hk
end
section
open Go.RowKit Sha Fct
open Fld (Itm)
def kread (b:List Int):List Itm×Int×Nat:=if(Fld.rd 0 0 b).1=0 then([iN (Fld.rd 0 0 b).2.1],0,0)else([],(Fld.rd 0 0 b).1,if(Fld.rd 0 0 b).1=4 then b.length else 0)
theorem Zg (b:List Int):Fld.get [110] b=if(Fld.rd 0 0 b).1=0 then(if(Fld.rd 0 0 b).2.2 < b.length then([],4,(Fld.rd 0 0 b).2.2)else([iN (Fld.rd 0 0 b).2.1],0,0))else([],(Fld.rd 0 0 b).1,if(Fld.rd 0 0 b).1=4 then b.length else 0):=by
 have hc:Fld.chk [110] = true:=by decide
 unfold Fld.get
 rw[if_pos hc]
 by_cases h:(Fld.rd 0 0 b).1=0
 ·simp[Fld.walkL,Fld.getS,h,iN]
 ·simp[Fld.walkL,Fld.getS,h]
theorem YZ (b:List Int)(hb:∀n∈b,0<=n/\n<=255)(h:(Fld.rd 0 0 b).1=0):(Fld.rd 0 0 b).2.2<=b.length/\Fld.rd 0 0 (b.take (Fld.rd 0 0 b).2.2)=Fld.rd 0 0 b:=by
 obtain⟨m,h1,h2,h3,h4,h5⟩:=Fld.rd_back0 b (Fld.rd 0 0 b).2.1 (Fld.rd 0 0 b).2.2 hb (by rw[<-h])
 refine⟨by omega,?_⟩
 have h6:=Fld.rd_num m 0 0 [] (by simpa using h2) (fun h=>absurd h (Nat.lt_irrefl 0))
 simp only[Nat.pow_zero,Nat.mul_one,Nat.zero_add,List.append_nil]at h6
 rw[h3,h5,h6]
 rw[show Fld.rd 0 0 b=((Fld.rd 0 0 b).1,(Fld.rd 0 0 b).2.1,(Fld.rd 0 0 b).2.2)from rfl,h,h1,h3]
theorem yx (b:List Int)(hb:∀n∈b,0<=n/\n<=255):(Fld.get [110] b).2.2<=b.length/\((Fld.get [110] b).2.1=4->Fld.get [110] (b.take (Fld.get [110] b).2.2)=kread b)/\((Fld.get [110] b).2.1≠4->Fld.get [110] b=kread b):=by
 rw[Zg b]
 unfold kread
 by_cases h:(Fld.rd 0 0 b).1=0
 ·obtain⟨h1,h2⟩:=YZ b hb h
  rw[if_pos h,if_pos h]
  by_cases h3:(Fld.rd 0 0 b).2.2 < b.length
  ·rw[if_pos h3]
   refine⟨h1,fun _=>?_,fun e=>absurd rfl e⟩
   show Fld.get [110] (b.take (Fld.rd 0 0 b).2.2)=_
   rw[Zg,h2,if_pos h,if_neg (by rw[List.length_take];omega)]
  ·rw[if_neg h3]
   exact⟨Nat.zero_le _,fun e=>(by simp at e),fun _=>rfl⟩
 ·rw[if_neg h,if_neg h]
  refine⟨by simp only;split<;>omega,fun e=>?_,fun _=>rfl⟩
  have e':(Fld.rd 0 0 b).1=4:=e
  simp only[e',if_true,List.take_length]
  rw[Zg,if_neg h,e']
  simp
section
variable (ρ:Operand->Value) (dst:Option Tmp) (x y:Operand) (parts:Array (Nat×Operand)) (ty:TypeId) (pos:String) (after:Array Edge) (guard:Option (Nat×Bool))
theorem zG:execOp ρ {dst:=dst,op:=.alloc 64,type:=ty,pos:=pos,after:=after,guard:=guard}= allocOp 64:=by unfold allocOp;rfl
theorem zH:execOp ρ {dst:=dst,op:=.store 64 x y,type:=ty,pos:=pos,after:=after,guard:=guard}= storeOp 64 (ρ x) (ρ y):=by unfold storeOp;rfl
theorem zI:execOp ρ {dst:=dst,op:=.load 64 x,type:=ty,pos:=pos,after:=after,guard:=guard}= loadOp 64 (ρ x):=by unfold loadOp;rfl
theorem zJ:execOp ρ {dst:=dst,op:=.build 64 parts,type:=ty,pos:=pos,after:=after,guard:=guard}= makeOp 64 (parts.map fun(i,x)=>(i,ρ x)):=by unfold makeOp;rfl
end
abbrev flt (e a:Int):List Value:=[.int .i64 e,.int .i64 a]
theorem yy:(Tryz.prog.info? 64).map (fun i=>i.zero)=some (some (.agg (flt 0 0).toArray)):=by kernel_rfl
theorem ze (e a:Int):(Tryz.prog.info? 64).map (fun i=>i.size)=some (flt e a).toArray.size:=by kernel_rfl
theorem zf (w:World):(allocOp 64).run Tryz.prog w= .ok (.value (.pointer (some ⟨w.heap.size,0,none⟩))) (w.alloc (.cells (flt 0 0).toArray 64)):=run_allocOp w yy
theorem zl {w:World} {g:Nat} {e a e' a':Int}(h:Blk w g (flt e a) 64):(storeOp 64 (.pointer (some ⟨g,0,none⟩)) (.agg (flt e' a').toArray)).run Tryz.prog w= .ok .skip (w.setRow g (flt e' a').toArray):=
 run_storeOp h (ze e' a') rfl (by simp[Value.oneCell'])
theorem zy {w:World} {g:Nat} {e a:Int}(h:Blk w g (flt e a) 64):(loadOp 64 (.pointer (some ⟨g,0,none⟩))).run Tryz.prog w= .ok (.value (.agg (flt e a).toArray)) w:=
 run_loadRow h Tryz.underlying64 rfl (ze e a)
theorem zT (w:World):(makeOp 64 #[]).run Tryz.prog w= .ok (.value (.agg (flt 0 0).toArray)) w:=run_makeOp w (by kernel_rfl)
theorem Zv (e:Int)(w:World):(makeOp 64 #[(0,.int .i64 e)]).run Tryz.prog w= .ok (.value (.agg (flt e 0).toArray)) w:=run_makeOp w (by kernel_rfl)
theorem zm {P:Program} {fn:Func} {r p:Tmp} {ty:TypeId}(h:fn.results=#[.tmp r,.cell p ty])(tmps:Array Value)(w:World)(v:Value)(g:Nat)(t:TypeId)(cs:Array Value)(fr:Nat×Nat)(d:TypeDesc)
 (hr:tmps.getD r undef=v) (hp:tmps.getD p undef= .pointer (some ⟨g,0,none⟩)) (hg:w.heap[g]? = some (.cells cs t fr))
 (hu:P.underlying ty=some d) (hd:(match d with | .struct _ | .array _ _=>true | _=>false)=true) (hi:(P.info? ty).map (·.size)=some cs.size):
 (results fn tmps).run P w= .ok (.tuple #[v,.agg cs]) w:=by
 have hp':tmps[p]?.getD undef= .pointer (some ⟨g,0,none⟩):=by simpa using hp
 have hr':tmps[r]?.getD undef=v:=by simpa using hr
 simp[results,h,hp',hr',asAddr,run_loadVar_row w g t ty cs fr d hg hu hd hi]
theorem zi {P:Program} {fn:Func} {r p:Tmp} {tr ty:TypeId}(h:fn.results=#[.cell r tr,.cell p ty])(tmps:Array Value)(w:World)(g1:Nat)(t1:TypeId)(cs1:Array Value)(fr1:Nat×Nat)(d1:TypeDesc)
 (hp1:tmps.getD r undef= .pointer (some ⟨g1,0,none⟩)) (hg1:w.heap[g1]? = some (.cells cs1 t1 fr1))
 (hu1:P.underlying tr=some d1) (hd1:(match d1 with | .struct _ | .array _ _=>true | _=>false)=true) (hi1:(P.info? tr).map (·.size)=some cs1.size)
 (g:Nat) (t:TypeId) (cs:Array Value) (fr:Nat×Nat) (d:TypeDesc)
 (hp:tmps.getD p undef= .pointer (some ⟨g,0,none⟩)) (hg:w.heap[g]? = some (.cells cs t fr))
 (hu:P.underlying ty=some d) (hd:(match d with | .struct _ | .array _ _=>true | _=>false)=true) (hi:(P.info? ty).map (·.size)=some cs.size):
 (results fn tmps).run P w= .ok (.tuple #[.agg cs1,.agg cs]) w:=by
 have hp':tmps[p]?.getD undef= .pointer (some ⟨g,0,none⟩):=by simpa using hp
 have hp1':tmps[r]?.getD undef= .pointer (some ⟨g1,0,none⟩):=by simpa using hp1
 simp[results,h,hp',hp1',asAddr,run_loadVar_row w g t ty cs fr d hg hu hd hi,run_loadVar_row w g1 t1 tr cs1 fr1 d1 hg1 hu1 hd1 hi1]
end
section
open Go.RowKit Sha Fct
open Fld (Itm)
def kind_ (b:List Int):Ending:=.returned (.tuple #[.int .i64 (if(Fld.rd 0 0 b).1=0 then(Fld.rd 0 0 b).2.1 else 0),.agg (flt (kread b).2.1 ((kread b).2.2:Int)).toArray])
theorem Y0 {w:World} {p:Option Addr} {b:List Int}(h:At w p (b.map v8))(k:Nat):At w p ((b.take k).map v8):=by
 rw[List.map_take]
 rw[<-List.take_append_drop k (b.map v8)]at h
 exact h.front
theorem n110:nums ⟨#[110]⟩= [110]:=by decide +kernel
theorem Zw {w:World} {p:Option Addr} {g:Nat} {ys:List Hdr} {e a:Int}(h2:At w p (ys.flatMap cellsI))(h3:∀y∈ys,GoodI w y.1 y.2.1 y.2.2)(hk:Blk w g (flt e a) 64)(cs:List Value):At (w.setRow g cs.toArray) p (ys.flatMap cellsI)/\∀y∈ys,GoodI (w.setRow g cs.toArray) y.1 y.2.1 y.2.2:=by
 have hkeep:∀(b o:Nat) (v:Value),b≠g->w.cell? ⟨b,o,none⟩=some v->(w.setRow g cs.toArray).cell? ⟨b,o,none⟩=some v:=fun b o v hb hv=>
  (World.cell?_of_block (w:=w) (a:=⟨b,o,none⟩) (setRow_other w g b cs.toArray hb)).trans hv
 have hg:∀(o:Nat) (v:Value),w.cell? ⟨g,o,none⟩=some v->∃z,v= .int .i64 z:=fun o v hv=>by
  rw[hk.cell]at hv
  rcases o with _ | _ | o
  ·exact⟨e,by simpa using hv.symm⟩
  ·exact⟨a,by simpa using hv.symm⟩
  ·simp at hv
 refine⟨?_,fun y hy=>?_⟩
 ·rcases h2 with h0 | ⟨b,off,rfl,hc⟩
  ·exact Or.inl h0
  ·by_cases hy:ys= []
   ·left;rw[hy];rfl
   ·refine Or.inr ⟨b,off,rfl,fun i v hi=>hkeep b _ v (fun hbg=>?_) (hc i v hi)⟩
    obtain⟨y,ys',rfl⟩:=List.exists_cons_of_ne_nil hy
    have h1:=hc 1 (.slice y.2.1 y.1.B.length y.2.2) (by rw[List.flatMap_cons];unfold cellsI icells;simp)
    rw[hbg]at h1
    obtain⟨z,hz⟩:=hg _ _ h1
    cases hz
 ·have h4:=h3 y hy
  refine⟨h4.ok,?_,h4.le,h4.max,h4.nil⟩
  rcases h4.at_ with h0 | ⟨b,off,hq,hc⟩
  ·exact Or.inl h0
  ·refine Or.inr ⟨b,off,hq,fun i v hi=>hkeep b _ v (fun hbg=>?_) (hc i v hi)⟩
   have h1:=hc i v hi
   rw[hbg]at h1
   obtain⟨z,hz⟩:=hg _ _ h1
   subst hz
   obtain⟨m,_,hm⟩:=List.mem_map.1 (List.mem_of_getElem? hi)
   simp at hm
theorem Zx {w:World} {p:Option Addr} {n c g:Nat} {l:List Itm} {e a:Int}(h:Told w p n c l)(hk:Blk w g (flt e a) 64)(cs:List Value):Told (w.setRow g cs.toArray) p n c l:=by
 obtain⟨ys,hys,h2,h3⟩:=h.items
 obtain⟨h4,h5⟩:=Zw h2 h3 hk cs
 exact⟨h.len,h.le,h.max,h.nil,ys,hys,h4,h5⟩
attribute [local go_sem ↓] zG zH zI zJ
theorem zA (b:List Int)(p:Option Addr)(n c:Nat)(w:World)(hn:b.length=n)(hb:∀x∈b,0<=x/\x<=255)(hA:At w p (b.map v8))(hle:n<=c)(hm:c<=9223372036854775807)(hp:p=none->c=0)(hsm:n<=1000000):
 Calls Tryz.prog 75 #[.slice p n c] w fun e w'=>e=kind_ b/\Below w.heap.size w w':=by
 have al1:=zf w
 have hb1:=(qB w.heap.size w).alloc (qD _) (.cells (flt 0 0).toArray 64)
 have hr1:Blk (w.alloc (.cells (flt 0 0).toArray 64)) w.heap.size (flt 0 0) 64:=Blk.new w (flt 0 0).toArray 64
 obtain⟨w1,hw1⟩:∃v,v=w.alloc (.cells (flt 0 0).toArray 64):=⟨_,rfl⟩
 rw[<-hw1]at al1 hb1 hr1
 obtain⟨r,hr⟩:∃r,r=w.heap.size:=⟨_,rfl⟩
 rw[<-hr]at al1 hr1
 have G1:=xF (show Calls Tryz.prog 76 #[.string ⟨#[110]⟩,.slice p n c] w1 (GetDone w1 (Fld.get [110] b))from by
  have h1:=getF_any ⟨#[110]⟩ (by unfold maxLen;decide) b p n c w1 hn hb (hA.below hb1) hle hm hp hsm
  rw[n110]at h1;exact h1)
 have HTW:=xF (yx b hb)
 have HB1:=xF hb1
 have HR1:=xF hr1
 have HRW:=xF hr
 have HA:=xF hA
 have HN:=xF hn
 have HBB:=xF hb
 have HP:=xF hp
 clear hw1 hb1 hr1 hr hA hn hb hp
 go_enter Tryz.func75,Tryz.ntmps75
 go_wp2_with fail
 refine G1.out.mono ?_
 rintro e w2 ⟨q1,n1,c1,rfl,ht2,hb2⟩
 obtain⟨⟨l1,e1,a1⟩,hg⟩:∃G,G=Fld.get [110] b:=⟨_,rfl⟩
 rw[<-hg]at HTW ht2 ⊢
 have HGE:=xF hg
 have HB2:=xF (HB1.out.trans (hb2.mono HB1.out.size))
 have HR2:=xF (HR1.out.below hb2 HR1.out.lt)
 have al2:=zf w2
 have st2:=(run_storeNew w2 (P:=Tryz.prog) (t:=64) (old:=(flt 0 0).toArray) (cs:=(flt e1 a1).toArray) (ze e1 a1) rfl (by simp[Value.oneCell']))
 have hb3:=HB2.out.alloc HB2.out.size (.cells (flt e1 a1).toArray 64)
 have hk3:Blk (w2.alloc (.cells (flt e1 a1).toArray 64)) w2.heap.size (flt e1 a1) 64:=Blk.new w2 (flt e1 a1).toArray 64
 have hr3:=HR2.out.old (.cells (flt e1 a1).toArray 64)
 have ht3:=ht2.below ((qB w2.heap.size w2).alloc (qD _) (.cells (flt e1 a1).toArray 64))
 obtain⟨g,hg'⟩:∃g,g=w2.heap.size:=⟨_,rfl⟩
 rw[<-hg']at al2 st2 hk3
 have HRG:=xF (show w.heap.size<=r/\r < g from⟨by rw[HRW.out];exact qD _,by rw[hg'];exact HR2.out.lt⟩)
 clear hg hb2 ht2 hg' G1 al1 HR1 HB1
 generalize w2.alloc (.cells (flt 0 0).toArray 64)=wq at *
 generalize w2.alloc (.cells (flt e1 a1).toArray 64)=w3 at *
 have HB3:=xF hb3
 have HK3:=xF hk3
 have HR3:=xF hr3
 have HT3:=xF ht3
 have k0:w3.cell? ⟨g,0,none⟩=some (.int .i64 e1):=hk3.cell 0
 have k1:w3.cell? ⟨g,1,none⟩=some (.int .i64 (a1:Int)):=hk3.cell 1
 clear hb3 hk3 hr3 ht3 HB2 HR2
 by_cases h4:e1=4
 ·subst h4
  have hal:a1<=n:=by have:=HTW.out.1;rw[HN.out]at this;exact this
  have HK:=xF (show Fld.get [110] (b.take a1)=kread b from HTW.out.2.1 rfl)
  have G2:=xF (show Calls Tryz.prog 76 #[.string ⟨#[110]⟩,.slice p a1 c] w3 (GetDone w3 (kread b))from by
   have h1:=getF_any ⟨#[110]⟩ (by unfold maxLen;decide) (b.take a1) p a1 c w3 (by rw[List.length_take,HN.out];omega) (fun x hx=>HBB.out x (List.mem_of_mem_take hx)) (Y0 (HA.out.below HB3.out) a1) (by omega) hm HP.out (by omega)
   rw[n110,HK.out]at h1;exact h1)
  have hac:(0:Int)<=(a1:Int)/\(a1:Int)<=(c:Int):=by omega
  go_wp2_with fail
  refine G2.out.mono ?_
  rintro e w4 ⟨qz,nz,cz,rfl,ht4,hb4⟩
  obtain⟨⟨lz,ez,az⟩,hz⟩:∃G,G=kread b:=⟨_,rfl⟩
  rw[<-hz]at ht4 ⊢
  obtain⟨ai,hai⟩:∃ai,ai=(az:Int):=⟨_,rfl⟩
  have HAI:=xF hai
  simp only[<-hai]
  have hk4:=HK3.out.below hb4 HK3.out.lt
  have hr4:=HR3.out.below hb4 HR3.out.lt
  have st4:=zl (e':=ez) (a':=ai) hk4
  have hrg:=HRG.out
  have KZ:=xF (hk4.row (flt ez ai))
  have RZ:=xF (hr4.rowOther (flt ez ai).toArray (show r≠g by omega))
  have BZ:=xF (Below.setRow (HB3.out.trans (hb4.mono HB3.out.size)) (show w.heap.size<=g by omega) (flt ez ai).toArray)
  have HTZ:=xF (Zx ht4 hk4 (flt ez ai))
  have HZ:=xF hz
  clear hai ht4 hb4 hk4 hr4 hz hrg k0 k1 HK3 HR3 HB3 HT3 G2 al2 st2
  generalize w4.setRow g (flt ez ai).toArray=wz at *
  have HZ0:=xF (show(lz,ez,az)=kread b from HZ.out)
  by_cases h0:(Fld.rd 0 0 b).1=0
  ·have hk:kread b=([iN (Fld.rd 0 0 b).2.1],0,0):=by unfold kread;rw[if_pos h0]
   have HKR:=xF hk
   have hz:=HZ0.out
   rw[hk]at hz
   simp only[Prod.mk.injEq]at hz
   obtain⟨rfl,rfl,haz⟩:=hz
   obtain rfl:ai=0:=by rw[HAI.out,haz];rfl
   obtain rfl:nz=1:=HTZ.out.len
   obtain⟨b',off,rfl,hit⟩:=items_at HTZ.out (by simp)
   obtain⟨q0,d0,hI⟩:=hit 0 (by simp)
   have hI0:ItmAt wz b' off (iN (Fld.rd 0 0 b).2.1) q0 d0:=by simpa using hI
   have v0:wz.cell? ⟨b',off,none⟩=some (.int .i64 (Fld.rd 0 0 b).2.1):=hI0.n
   have z0:wz.cell? ⟨g,0,none⟩=some (.int .i64 0):=KZ.out.cell 0
   have hle:=HTZ.out.le
   have mk:=zT
   have sf:=zl (e':=0) (a':=0) RZ.out
   have HI0:=xF h0
   clear hit hI hI0 hk h0
   go_wp2_with fail
   have hR:=(RZ.out.row (flt 0 0))
   have hB:=Below.setRow BZ.out HRG.out.1 (flt 0 0).toArray
   refine bodyPost_ret (v:=.tuple #[.int .i64 (Fld.rd 0 0 b).2.1,.agg (flt 0 0).toArray]) (zm rfl _ _ _ _ _ _ _ _ rfl rfl hR (Tryz.underlying64) rfl (ze 0 0)) rfl ⟨?_,hB⟩
   unfold kind_
   rw[if_pos HI0.out,HKR.out];rfl
  ·have hk:kread b=([],(Fld.rd 0 0 b).1,if(Fld.rd 0 0 b).1=4 then b.length else 0):=by unfold kread;rw[if_neg h0]
   have hez:ez=(Fld.rd 0 0 b).1:=by have:=HZ0.out;rw[hk]at this;simp only[Prod.mk.injEq]at this;exact this.2.1
   have haz:ai=((kread b).2.2:Int):=by rw[HAI.out,<-HZ0.out]
   have HEZ:=xF hez
   have HAZ:=xF haz
   have t1:(ez != 0)=true:=by rw[hez];simpa using h0
   have z0:wz.cell? ⟨g,0,none⟩=some (.int .i64 ez):=KZ.out.cell 0
   have HI0:=xF h0
   have HKR:=xF (show(kread b).2.1=ez by rw[<-HZ0.out])
   clear h0 hk hez haz
   go_wp2_with fail
   have kz:=KZ.out.below ((qB _ wz).drew) KZ.out.lt
   have rz:=RZ.out.below ((qB _ wz).drew) RZ.out.lt
   have l1:=zy kz
   have s1:=zl (e':=ez) (a':=ai) rz
   have l2:=zy (kz.rowOther (k:=r) (flt ez ai).toArray (show g≠r by have:=HRG.out;omega))
   have HR1:=xF (rz.row (flt ez ai))
   have HB1:=xF (Below.setRow ((BZ.out).drew) HRG.out.1 (flt ez ai).toArray)
   clear kz rz
   go_region_held3 (fun w'=>(loadOp 64 (.pointer (some ⟨g,0,none⟩))).run Tryz.prog w'= .ok (.value (.agg (flt ez ai).toArray)) w') (first | exact l1 | exact l2) ((first | fail))
   all_goals go_wp2_with fail
   all_goals refine bodyPost_ret (v:=.tuple #[.int .i64 0,.agg (flt ez ai).toArray]) (zm rfl _ _ _ _ _ _ _ _ rfl rfl HR1.out (Tryz.underlying64) rfl (ze ez ai)) rfl ⟨?_,HB1.out⟩
   all_goals(unfold kind_;rw[if_neg HI0.out,HKR.out,<-HAZ.out])
 ·have HZ:=xF (show(l1,e1,a1)=kread b from HTW.out.2.2 h4)
  have t4:(e1 == 4)=false:=by simpa using h4
  clear h4
  obtain⟨wz,hwz⟩:∃wz,wz=w3:=⟨_,rfl⟩
  obtain⟨ez,hez⟩:∃ez,ez=e1:=⟨_,rfl⟩
  obtain⟨az,haz⟩:∃az,az=a1:=⟨_,rfl⟩
  obtain⟨ai,hai⟩:∃ai,ai=(a1:Int):=⟨_,rfl⟩
  rw[<-hai]at st2 HK3
  simp only[<-hai]
  rw[<-haz]at hai
  have HAI:=xF hai
  obtain⟨lz,hlz⟩:∃lz,lz=l1:=⟨_,rfl⟩
  obtain⟨qz,hqz⟩:∃qz,qz=q1:=⟨_,rfl⟩
  obtain⟨nz,hnz⟩:∃nz,nz=n1:=⟨_,rfl⟩
  obtain⟨cz,hcz⟩:∃cz,cz=c1:=⟨_,rfl⟩
  subst hwz hez haz hlz hqz hnz hcz
  have KZ:=HK3
  have RZ:=HR3
  have BZ:=HB3
  have HTZ:=HT3
  clear hai HK3 HR3 HB3 HT3 k1
  have HZ0:=xF (show(lz,ez,az)=kread b from HZ.out)
  by_cases h0:(Fld.rd 0 0 b).1=0
  ·have hk:kread b=([iN (Fld.rd 0 0 b).2.1],0,0):=by unfold kread;rw[if_pos h0]
   have HKR:=xF hk
   have hz:=HZ0.out
   rw[hk]at hz
   simp only[Prod.mk.injEq]at hz
   obtain⟨rfl,rfl,haz⟩:=hz
   obtain rfl:ai=0:=by rw[HAI.out,haz];rfl
   obtain rfl:nz=1:=HTZ.out.len
   obtain⟨b',off,rfl,hit⟩:=items_at HTZ.out (by simp)
   obtain⟨q0,d0,hI⟩:=hit 0 (by simp)
   have hI0:ItmAt wz b' off (iN (Fld.rd 0 0 b).2.1) q0 d0:=by simpa using hI
   have v0:wz.cell? ⟨b',off,none⟩=some (.int .i64 (Fld.rd 0 0 b).2.1):=hI0.n
   have z0:wz.cell? ⟨g,0,none⟩=some (.int .i64 0):=KZ.out.cell 0
   have hle:=HTZ.out.le
   have mk:=zT
   have sf:=zl (e':=0) (a':=0) RZ.out
   have HI0:=xF h0
   clear hit hI hI0 hk h0
   go_wp2_with fail
   have hR:=(RZ.out.row (flt 0 0))
   have hB:=Below.setRow BZ.out HRG.out.1 (flt 0 0).toArray
   refine bodyPost_ret (v:=.tuple #[.int .i64 (Fld.rd 0 0 b).2.1,.agg (flt 0 0).toArray]) (zm rfl _ _ _ _ _ _ _ _ rfl rfl hR (Tryz.underlying64) rfl (ze 0 0)) rfl ⟨?_,hB⟩
   unfold kind_
   rw[if_pos HI0.out,HKR.out];rfl
  ·have hk:kread b=([],(Fld.rd 0 0 b).1,if(Fld.rd 0 0 b).1=4 then b.length else 0):=by unfold kread;rw[if_neg h0]
   have hez:ez=(Fld.rd 0 0 b).1:=by have:=HZ0.out;rw[hk]at this;simp only[Prod.mk.injEq]at this;exact this.2.1
   have haz:ai=((kread b).2.2:Int):=by rw[HAI.out,<-HZ0.out]
   have HEZ:=xF hez
   have HAZ:=xF haz
   have t1:(ez != 0)=true:=by rw[hez];simpa using h0
   have z0:wz.cell? ⟨g,0,none⟩=some (.int .i64 ez):=KZ.out.cell 0
   have HI0:=xF h0
   have HKR:=xF (show(kread b).2.1=ez by rw[<-HZ0.out])
   clear h0 hk hez haz
   go_wp2_with fail
   have kz:=KZ.out.below ((qB _ wz).drew) KZ.out.lt
   have rz:=RZ.out.below ((qB _ wz).drew) RZ.out.lt
   have l1:=zy kz
   have s1:=zl (e':=ez) (a':=ai) rz
   have l2:=zy (kz.rowOther (k:=r) (flt ez ai).toArray (show g≠r by have:=HRG.out;omega))
   have HR1:=xF (rz.row (flt ez ai))
   have HB1:=xF (Below.setRow ((BZ.out).drew) HRG.out.1 (flt ez ai).toArray)
   clear kz rz
   go_region_held3 (fun w'=>(loadOp 64 (.pointer (some ⟨g,0,none⟩))).run Tryz.prog w'= .ok (.value (.agg (flt ez ai).toArray)) w') (first | exact l1 | exact l2) ((first | fail))
   all_goals go_wp2_with fail
   all_goals refine bodyPost_ret (v:=.tuple #[.int .i64 0,.agg (flt ez ai).toArray]) (zm rfl _ _ _ _ _ _ _ _ rfl rfl HR1.out (Tryz.underlying64) rfl (ze ez ai)) rfl ⟨?_,HB1.out⟩
   all_goals(unfold kind_;rw[if_neg HI0.out,HKR.out,<-HAZ.out])
end
section
open Go.RowKit Sha Fct
open Fld (Itm)
theorem zR (k:Int)(x y:Operand):∃sn:ByteArray,(∀w,(catOp x y (.string ⟨#[110]⟩) (.string (kSh k))).run Tryz.prog w= .ok (.value (.string sn)) w)/\nums sn=letters k/\sn.size<=maxLen:=by
 have h1:(ByteArray.mk #[110]).size=1:=rfl
 have h2:=kSh_size k
 refine⟨⟨#[110]⟩++kSh k,fun w=>run_cat9 _ _ _ _ (by omega) w,?_,?_⟩
 ·rw[nums_cat,kSh_nums,show nums ⟨#[110]⟩= [110] by decide +kernel];rfl
 ·rw[ByteArray.size_append];unfold maxLen;omega
attribute [local go_sem ↓] execOp_cat execOp_boxFact zr zt zv execOp_loadFact execOp_makeItem execOp_buildItems
theorem Ya (x:Fac)(q:Option Addr)(c:Nat)(w:World)(hx:sF.Good w x q c):
 Calls Tryz.prog 12 #[.agg (fcells x q c).toArray] w (FPut w (Fct.put x)):=by
 have bx:=run_boxOp (P:=Tryz.prog) (t:=28) (cs:=(fcells x q c).toArray) w
 have hb1:=(qB w.heap.size w).alloc (qD _) (.cells (fcells x q c).toArray 28)
 have hk1:Blk (w.alloc (.cells (fcells x q c).toArray 28)) w.heap.size (fcells x q c) 28:=Blk.new w (fcells x q c).toArray 28
 obtain⟨w1,hw1⟩:∃v,v=w.alloc (.cells (fcells x q c).toArray 28):=⟨_,rfl⟩
 rw[<-hw1]at bx hb1 hk1
 obtain⟨g0,hg0⟩:∃g0,g0=w.heap.size:=⟨_,rfl⟩
 rw[<-hg0]at bx hk1
 have HFM:=xF (forms_any w1)
 have HB1:=xF hb1
 have HK1:=xF hk1
 have HX:=xF hx
 clear hw1 hg0 hb1 hk1 hx
 go_enter Tryz.func12,Tryz.ntmps12
 go_wp2_with fail
 refine HFM.out.mono ?_
 rintro e w2 ⟨m,rfl,hm,hb2⟩
 have HB2:=xF (HB1.out.trans (hb2.mono HB1.out.size))
 have HK2:=xF (HK1.out.below hb2 HK1.out.lt)
 have HM2:=xF hm
 have HX2:=xF (HX.out.below HB2.out)
 have l2:=load_factB HK2.out HX2.out.ok.len
 have HCK:=xF (zQ x q c m w2 hm HX2.out)
 clear hm hb2 bx HFM HB1 HK1 HX
 by_cases hc:Fct.Can x
 ·rw[show Fct.check x=0 from check_ok hc]at HCK
  have hk:1<=x.K/\x.K < 11:=hc.kind
  have HKK:=xF hk
  have HPUT:=xF (show Fct.put x=Fld.put (letters x.K) (iN x.K::items x) by unfold Fct.put;rw[if_pos ((can_iff x).2 hc)])
  clear hc hk
  go_wp2_with fail
  refine HCK.out.mono ?_
  rintro e w3 ⟨rfl,hb3⟩
  have HB3:=xF (HB2.out.trans (hb3.mono HB2.out.size))
  have HK3:=xF (HK2.out.below hb3 HK2.out.lt)
  have HX3:=xF (HX2.out.below hb3)
  have c0:w3.cell? ⟨g0,0,none⟩=some (.int .i64 x.K):=(HK3.out.cell 0).trans (fcells_K x q c)
  have lk:=look_yes (HM2.out.below hb3) x.K HKK.out false
  have al:=zo w3
  have st:=zj w3 (kSh x.K) (kHas x.K)
  have hb4:=HB3.out.alloc HB3.out.size (.cells #[.string (kSh x.K),.string (kHas x.K)] 79)
  have hk4:=HK3.out.old (.cells #[.string (kSh x.K),.string (kHas x.K)] 79)
  have hf4:Blk (w3.alloc (.cells #[.string (kSh x.K),.string (kHas x.K)] 79)) w3.heap.size [.string (kSh x.K),.string (kHas x.K)] 79:=Blk.new w3 _ 79
  have hb34:=(qB w3.heap.size w3).alloc (qD _) (.cells #[.string (kSh x.K),.string (kHas x.K)] 79)
  have hX4:=HX3.out.below hb34
  obtain⟨g1,hg1⟩:∃g1,g1=w3.heap.size:=⟨_,rfl⟩
  rw[<-hg1]at al st hf4
  clear hb34 hb3 HCK l2 HM2 HB2 HK2 HX2 hg1
  generalize w3.alloc (.cells #[.string emp,.string emp] 79)=wq at *
  generalize w3.alloc (.cells #[.string (kSh x.K),.string (kHas x.K)] 79)=w4 at *
  have HB4:=xF hb4
  have HK4:=xF hk4
  have HF4:=xF hf4
  have HX4:=xF hX4
  obtain⟨sn,hcat,hsn,hsz⟩:=zR x.K (.const (.string ⟨#[110]⟩)) (.tmp 19)
  have HSN:=xF hsn
  have HSZ:=xF hsz
  have E0:=xF (fun W (hb:Below w4.heap.size w4 W)=>(show W.cell? ⟨g0,0,none⟩=some (.int .i64 x.K)from((HK4.out.below hb HK4.out.lt).cell 0).trans (fcells_K x q c)))
  have E1:=xF (fun W (hb:Below w4.heap.size w4 W)=>load_factB (HK4.out.below hb HK4.out.lt) HX4.out.ok.len)
  have E2:=xF (fun W (hb:Below w4.heap.size w4 W)=>zp (HF4.out.below hb HF4.out.lt))
  have E3:=xF (fun W (hb:Below w4.heap.size w4 W)=>(show W.cell? ⟨g1,0,none⟩=some (.string (kSh x.K))from(HF4.out.below hb HF4.out.lt).cell 0))
  have H2:=xF (fun W (hb:Below w4.heap.size w4 W)=>(show Calls Tryz.prog 44 #[.agg #[.string (kSh x.K),.string (kHas x.K)],.agg (fcells x q c).toArray] W (PItems (itemsH x q c) W)from by have h1:=pitems_any x.K x q c W (HX4.out.below hb);rw[hdrOf_map]at h1;exact h1))
  have mk:=make_iN x.K
  have bi:=fun w=>build_item w (q:=none) (c:=0) (iN_good w HX4.out.ok.K).ok
  clear hb4 hk4 hf4 hX4 hsn hsz
  go_wp2_with fail
  clear c0 lk al st
  go_region_held3 (fun w'=>Below w4.heap.size w4 w'/\w'.cell? ⟨g0,0,none⟩=some (.int .i64 x.K)/\(loadOp 28 (.pointer (some ⟨g0,0,none⟩))).run Tryz.prog w'= .ok (.value (.agg (fcells x q c).toArray)) w'/\(loadOp 79 (.pointer (some ⟨g1,0,none⟩))).run Tryz.prog w'= .ok (.value (.agg #[.string (kSh x.K),.string (kHas x.K)])) w'/\w'.cell? ⟨g1,0,none⟩=some (.string (kSh x.K)))
   (exact⟨(by(repeat(first | exact qB _ _ | assumption | refine Below.drew ?_ | refine below_alloc9 ?_ _))),E0.out _ (by(repeat(first | exact qB _ _ | assumption | refine Below.drew ?_ | refine below_alloc9 ?_ _))),E1.out _ (by(repeat(first | exact qB _ _ | assumption | refine Below.drew ?_ | refine below_alloc9 ?_ _))),E2.out _ (by(repeat(first | exact qB _ _ | assumption | refine Below.drew ?_ | refine below_alloc9 ?_ _))),E3.out _ (by(repeat(first | exact qB _ _ | assumption | refine Below.drew ?_ | refine below_alloc9 ?_ _)))⟩)
   ((first
     | (go_at_call 44;refine(H2.out _ (by(repeat(first | exact qB _ _ | assumption | refine Below.drew ?_ | refine below_alloc9 ?_ _)))).mono ?_;rintro e w5 ⟨p5,n5,cp5,rfl,hn5,hA5,hT5,hb⟩;(have hbw5:Below w4.heap.size w4 w5:=below_next9 (by(repeat(first | exact qB _ _ | assumption | refine Below.drew ?_ | refine below_alloc9 ?_ _))) hb);(have c05:=E0.out _ hbw5);(have ld5:=E1.out _ hbw5);(have lg5:=E2.out _ hbw5);(have c15:=E3.out _ hbw5);(have HY5:=xF hA5);(have HT5:=xF hT5);(have HB5:=xF hb);(have N5:=xF (show n5=(itemsH x q c).length/\n5<=4 from⟨hn5,by rw[hn5];exact itemsH_few x q c⟩));clear hn5 hA5 hT5 hb)
     | (go_at_call 43;refine(putF_any sn HSZ.out _ p7 _ c7 w7 HT7.out.len HT7.out.items HT7.out.le HT7.out.max HT7.out.nil (by have:=N5.out.2;omega)).mono ?_;rintro e w8 ⟨v8',rfl,ho8,hb8⟩;(have hbw8:Below w4.heap.size w4 w8:=below_next9 hbw7 hb8);(have c08:=E0.out _ hbw8);(have ld8:=E1.out _ hbw8);(have lg8:=E2.out _ hbw8);(have c18:=E3.out _ hbw8);(have HO8:=xF ho8);(have HB8:=xF hb8);clear ho8 hb8)
     | (refine step_app_s rfl (.tmp 24) (.tmp 27) 81 rfl w4.heap.size 83 (size:=34) (by omega) Tryz.underlying81 item_all3 item_zsize _ 1 (icells (iN x.K) none 0) rfl
         (by first | exact own_full_s _ _ _ 34 _ (by first | exact qD _ | exact hbw5.size | (have h:=hbw5.size;simp;omega)) (by simp[icells_length (iN_good w4 HX4.out.ok.K).ok]) | exact row_below_s (own_full_s _ _ _ 34 _ (by first | exact qD _ | exact hbw5.size | (have h:=hbw5.size;simp;omega)) (by simp[icells_length (iN_good w4 HX4.out.ok.K).ok])) HB5.out | exact row_below_s (row_below_s (w:=(w4.alloc (Obj.cells (icells (iN x.K) none 0).toArray 83)).drew) (own_full_s w4 _ _ 34 _ (by first | exact qD _ | exact hbw5.size | (have h:=hbw5.size;simp;omega)) (by simp[icells_length (iN_good w4 HX4.out.ok.K).ok])) (by(repeat(first | exact qB _ _ | assumption | refine Below.drew ?_ | refine below_alloc9 ?_ _)))) HB5.out)
         p5 n5 cp5 ((itemsH x q c).flatMap cellsI) rfl (by first | exact HY5.out | exact HY5.out.alloc _) (by rw[flat_length _ (fun y hy=>(itemsH_good HX4.out y hy).ok),N5.out.1]) HT5.out.nil HT5.out.le (by intro u hu;obtain⟨y,hy,hu⟩:=List.mem_flatMap.1 hu;exact icells_one _ _ _ u hu) (by have:=N5.out.2;omega) (by unfold maxLen;have:=N5.out.2;omega) (by first | exact qD _ | exact hbw5.size | (have h:=hbw5.size;simp;omega)) ?_
        intro v7 w7 hown7 hg7 hat7
        have hbw7:Below w4.heap.size w4 w7:=Below.grown (by(repeat(first | exact qB _ _ | assumption | refine Below.drew ?_ | refine below_alloc9 ?_ _))) hg7 (by first | exact qD _ | exact hbw5.size | (have h:=hbw5.size;simp;omega)) (fun k hk=>by cases hk;first | exact qD _ | exact hbw5.size)
        have c07:=E0.out _ hbw7
        have ld7:=E1.out _ hbw7
        have lg7:=E2.out _ hbw7
        have c17:=E3.out _ hbw7
        obtain⟨p7,c7,rfl,ht7⟩:=told_cons (y:=iNh x.K) hown7 N5.out.1 (fun z hz=>by
         rcases List.mem_cons.1 hz with rfl | hz
         ·exact iN_good w7 HX4.out.ok.K
         ·exact itemsH_good (HX4.out.below hbw7) z hz)
        rw[itemsH_map]at ht7
        have HT7:=xF ht7
        clear hown7 hg7 hat7 ht7)))
  all_goals(go_wp2_with fail;go_ret2)
  all_goals(
   have hbase:w.heap.size<=w7.heap.size:=Nat.le_trans HB4.out.size hbw7.size
   unfold FPut
   rw[HPUT.out,<-HSN.out]
   exact⟨v8',rfl,⟨row_weak9 HO8.out.row hbase,HO8.out.ints⟩,HB4.out.trans (hbw8.mono HB4.out.size)⟩)
 ·rw[show Fct.check x=2 from check_no hc]at HCK
  have HPUT:=xF (put_not hc)
  clear hc
  go_wp2_with fail
  refine HCK.out.mono ?_
  rintro e w3 ⟨rfl,hb3⟩
  have HB3:=xF (HB2.out.trans (hb3.mono HB2.out.size))
  clear hb3
  go_wp2_with fail
  go_ret2
  unfold FPut
  rw[HPUT.out]
  exact⟨_,rfl,Own8.nil _ _ _,HB3.out⟩
end
section
open Go.RowKit Sha Fct
open Fld (Itm)
theorem len_1 {α:Type} {l:List α}(h:l.length=1):∃a,l= [a]:=List.length_eq_one_iff.1 h
theorem len_2 {α:Type} {l:List α}(h:l.length=2):∃a b,l= [a,b]:=by
 match l,h with
 | [a,b],_=>exact⟨a,b,rfl⟩
theorem len_3 {α:Type} {l:List α}(h:l.length=3):∃a b c,l= [a,b,c]:=by
 match l,h with
 | [a,b,c],_=>exact⟨a,b,c,rfl⟩
theorem len_4 {α:Type} {l:List α}(h:l.length=4):∃a b c d,l= [a,b,c,d]:=by
 match l,h with
 | [a,b,c,d],_=>exact⟨a,b,c,d,rfl⟩
theorem ZO (k:Int)(hk:1<=k/\k < 11)(t:List Itm)(ht:t.length=(hasL k).length):facL (hasL k) t (kindF k)=of k t:=by
 rcases kinds hk with rfl | rfl | rfl | rfl | rfl | rfl | rfl | rfl | rfl | rfl
 ·simp[hasL,facL,kindF,of]
 ·obtain⟨a,rfl⟩:=len_1 (by simpa[hasL]using ht);simp[hasL,facL,layF,kindF,of]
 ·obtain⟨a,rfl⟩:=len_1 (by simpa[hasL]using ht);simp[hasL,facL,layF,kindF,of]
 ·obtain⟨a,b,rfl⟩:=len_2 (by simpa[hasL]using ht);simp[hasL,facL,layF,kindF,of]
 ·obtain⟨a,b,c,rfl⟩:=len_3 (by simpa[hasL]using ht);simp[hasL,facL,layF,kindF,of]
 ·obtain⟨a,b,c,rfl⟩:=len_3 (by simpa[hasL]using ht);simp[hasL,facL,layF,kindF,of]
 ·obtain⟨a,b,c,rfl⟩:=len_3 (by simpa[hasL]using ht);simp[hasL,facL,layF,kindF,of]
 ·obtain⟨a,b,c,d,rfl⟩:=len_4 (by simpa[hasL]using ht);simp[hasL,facL,layF,kindF,of]
 ·obtain⟨a,b,rfl⟩:=len_2 (by simpa[hasL]using ht);simp[hasL,facL,layF,kindF,of]
 ·obtain⟨a,rfl⟩:=len_1 (by simpa[hasL]using ht);simp[hasL,facL,layF,kindF,of]
theorem ZP (k:Int)(hk:1<=k/\k < 11)(t:List Itm)(ht:t.length=(hasL k).length):bndL (hasL k) t=can (of k t):=by
 have hp:of (of k t).K (items (of k t))=of k t:=by
  rcases kinds hk with rfl | rfl | rfl | rfl | rfl | rfl | rfl | rfl | rfl | rfl<;>simp[of,items,iN,iD,iB]
 have hK:(of k t).K=k:=by
  rcases kinds hk with rfl | rfl | rfl | rfl | rfl | rfl | rfl | rfl | rfl | rfl<;>simp[of]
 rw[Bool.eq_iff_iff,can_iff]
 rcases kinds hk with rfl | rfl | rfl | rfl | rfl | rfl | rfl | rfl | rfl | rfl
 ·constructor
  ·intro _;exact⟨by rw[hK];omega,hp,by rw[hK];omega,by rw[hK];omega,by rw[hK];omega,by simp[of]⟩
  ·intro _;simp[hasL,bndL]
 ·obtain⟨a,rfl⟩:=len_1 (by simpa[hasL]using ht)
  constructor
  ·intro h;simp[hasL,bndL,inB]at h
   exact⟨by rw[hK];omega,hp,fun _ _=>by simp[of,setOk];omega,by rw[hK];omega,by rw[hK];omega,by simp[of]⟩
  ·intro h;have h1:=h.set_ (by rw[hK];omega) (by rw[hK];omega);simp[of,setOk]at h1;simp[hasL,bndL,inB];omega
 ·obtain⟨a,rfl⟩:=len_1 (by simpa[hasL]using ht)
  constructor
  ·intro h;simp[hasL,bndL,inB]at h
   exact⟨by rw[hK];omega,hp,by rw[hK];omega,by rw[hK];omega,by rw[hK];omega,by simp[of];omega⟩
  ·intro h;have h1:=h.most;simp[of]at h1;simp[hasL,bndL,inB];omega
 ·obtain⟨a,b,rfl⟩:=len_2 (by simpa[hasL]using ht)
  constructor
  ·intro h;simp[hasL,bndL,inB]at h
   exact⟨by rw[hK];omega,hp,fun _ _=>by simp[of,setOk];omega,by rw[hK];omega,by rw[hK];omega,by simp[of]⟩
  ·intro h;have h1:=h.set_ (by rw[hK];omega) (by rw[hK];omega);simp[of,setOk]at h1;simp[hasL,bndL,inB];omega
 ·obtain⟨a,b,c,rfl⟩:=len_3 (by simpa[hasL]using ht)
  constructor
  ·intro h;simp[hasL,bndL,inB]at h
   exact⟨by rw[hK];omega,hp,fun _ _=>by simp[of,setOk];omega,fun _=>by simp[of,nodeOk];omega,by rw[hK];omega,by simp[of]⟩
  ·intro h;have h1:=h.set_ (by rw[hK];omega) (by rw[hK];omega);have h2:=h.home (by rw[hK];omega);simp[of,setOk]at h1;simp[of,nodeOk]at h2;simp[hasL,bndL,inB];omega
 ·obtain⟨a,b,c,rfl⟩:=len_3 (by simpa[hasL]using ht)
  constructor
  ·intro h;simp[hasL,bndL,inB]at h
   exact⟨by rw[hK];omega,hp,fun _ _=>by simp[of,setOk];omega,fun _=>by simp[of,nodeOk];omega,by rw[hK];omega,by simp[of]⟩
  ·intro h;have h1:=h.set_ (by rw[hK];omega) (by rw[hK];omega);have h2:=h.home (by rw[hK];omega);simp[of,setOk]at h1;simp[of,nodeOk]at h2;simp[hasL,bndL,inB];omega
 ·obtain⟨a,b,c,rfl⟩:=len_3 (by simpa[hasL]using ht)
  constructor
  ·intro h;simp[hasL,bndL,inB]at h
   exact⟨by rw[hK];omega,hp,fun _ _=>by simp[of,setOk];omega,by rw[hK];omega,fun _=>by simp[of,setOk,nodeOk];omega,by simp[of]⟩
  ·intro h;have h1:=h.set_ (by rw[hK];omega) (by rw[hK];omega);have h2:=h.ballot (by rw[hK];omega);simp[of,setOk]at h1;simp[of,setOk,nodeOk]at h2;simp[hasL,bndL,inB];omega
 ·obtain⟨a,b,c,d,rfl⟩:=len_4 (by simpa[hasL]using ht)
  constructor
  ·intro h;simp[hasL,bndL,inB]at h
   exact⟨by rw[hK];omega,hp,fun _ _=>by simp[of,setOk];omega,by rw[hK];omega,fun _=>by simp[of,setOk,nodeOk];omega,by simp[of];omega⟩
  ·intro h;have h1:=h.set_ (by rw[hK];omega) (by rw[hK];omega);have h2:=h.ballot (by rw[hK];omega);have h3:=h.most;simp[of,setOk]at h1;simp[of,setOk,nodeOk]at h2;simp[of]at h3;simp[hasL,bndL,inB];omega
 ·obtain⟨a,b,rfl⟩:=len_2 (by simpa[hasL]using ht)
  constructor
  ·intro h;simp[hasL,bndL,inB]at h
   exact⟨by rw[hK];omega,hp,fun _ _=>by simp[of,setOk];omega,by rw[hK];omega,by rw[hK];omega,by simp[of];omega⟩
  ·intro h;have h1:=h.set_ (by rw[hK];omega) (by rw[hK];omega);have h3:=h.most;simp[of,setOk]at h1;simp[of]at h3;simp[hasL,bndL,inB];omega
 ·obtain⟨a,rfl⟩:=len_1 (by simpa[hasL]using ht)
  constructor
  ·intro h;simp[hasL,bndL,inB]at h
   exact⟨by rw[hK];omega,hp,fun _ _=>by simp[of,setOk];omega,by rw[hK];omega,by rw[hK];omega,by simp[of]⟩
  ·intro h;have h1:=h.set_ (by rw[hK];omega) (by rw[hK];omega);simp[of,setOk]at h1;simp[hasL,bndL,inB];omega
theorem ZQ:∀(s:List Int)(l:List Itm),Fld.fits s l=true->l.length=s.length
 | [],[],_=>rfl
 | [],_::_,h=>by simp[Fld.fits]at h
 | _::_,[],h=>by simp[Fld.fits]at h
 | c::s,x::l,h=>by
    simp only[Fld.fits,Bool.and_eq_true]at h
    simp[ZQ s l h.2]
theorem yz (k:Int):(Fct.shape k).length=(hasL k).length:=by unfold Fct.shape hasL;(repeat' split)<;>rfl
theorem zY {k:Int} {b:List Int} {l:List Itm} {j:Nat}(hb:∀n∈b,0<=n/\n<=255)(h:Fld.get (letters k) b=(l,0,j)):l.length=1+(hasL k).length/\j=0:=by
 obtain⟨h1,_,h2,_⟩:=Fld.get_ok hb h
 refine⟨?_,h2⟩
 rw[ZQ _ _ (Fld.fits_put (letters_flat k).1 h1),letters,List.length_cons,yz];omega
theorem yA {w:World} {p:Option Addr} {n c:Nat} {x:Itm} {l:List Itm}(h:Told w p n c (x::l)):Told w (if c=1 then p else p.map (·.add (1*34))) (n - 1) (c - 1) l:=by
 have h1:=h.len
 have h2:=h.le
 have h3:=h.max
 have h4:=h.nil
 rw[List.length_cons]at h1
 obtain⟨ys,hy,h5,h6⟩:=h.items
 obtain⟨y,ys',rfl⟩:∃y ys',ys=y::ys':=by
  cases ys with
  | nil=>simp at hy
  | cons y ys'=>exact⟨y,ys',rfl⟩
 simp only[List.map_cons,List.cons.injEq]at hy
 refine⟨by omega,by omega,by omega,fun e=>?_,ys',hy.2,?_,fun z hz=>h6 z (List.mem_cons_of_mem _ hz)⟩
 ·split at e
  ·omega
  ·cases p with
   | none=>have:=h4 rfl;omega
   | some a=>simp at e
 ·by_cases e:c=1
  ·have hl:ys'= []:=by
    have:ys'.length=l.length:=by rw[<-hy.2,List.length_map]
    exact List.eq_nil_of_length_eq_zero (by omega)
   rw[hl];exact At.nil _ _
  ·rw[if_neg e]
   cases p with
   | none=>have:=h4 rfl;omega
   | some a=>
      have hl:(cellsI y).length=34:=icells_length (h6 y (List.mem_cons_self ..)).ok _ _
      rw[List.flatMap_cons]at h5
      rcases h5 with h0 | ⟨b,off,ha,hc⟩
      ·have:=congrArg List.length h0;simp[hl]at this
      ·cases ha
       have h7:At w (some ⟨b,off,none⟩) (cellsI y++ys'.flatMap cellsI):=Or.inr ⟨b,off,rfl,hc⟩
       have h8:=h7.back
       rw[hl]at h8
       simpa[Addr.add_mid]using h8
theorem Zh {u:Prop} {w:World} {p:Option Addr} {n c:Nat} {x:Itm} {l:List Itm}(h:ToldC u w p n c (x::l)):ToldC u w (if c=1 then p else p.map (·.add (1*34))) (n - 1) (c - 1) l:=by
 refine⟨yA h.told,?_⟩
 have h1:=h.told.len
 have h2:=h.told.le
 have h4:=h.told.nil
 rw[List.length_cons]at h1
 obtain⟨ys,hy,h5,h6⟩:=h.rows
 obtain⟨y,ys',rfl⟩:∃y ys',ys=y::ys':=by
  cases ys with
  | nil=>simp at hy
  | cons y ys'=>exact⟨y,ys',rfl⟩
 simp only[List.map_cons,List.cons.injEq]at hy
 refine⟨ys',hy.2,?_,fun z hz=>h6 z (List.mem_cons_of_mem _ hz)⟩
 by_cases e:c=1
 ·have hl:ys'= []:=by
   have:ys'.length=l.length:=by rw[<-hy.2,List.length_map]
   exact List.eq_nil_of_length_eq_zero (by omega)
  rw[hl];exact At.nil _ _
 ·rw[if_neg e]
  cases p with
  | none=>have:=h4 rfl;omega
  | some a=>
     have hl:(cellsI y).length=34:=icells_length (h6 y (List.mem_cons_self ..)).1.ok _ _
     rw[List.flatMap_cons]at h5
     rcases h5 with h0 | ⟨b,off,ha,hc⟩
     ·have:=congrArg List.length h0;simp[hl]at this
     ·cases ha
      have h7:At w (some ⟨b,off,none⟩) (cellsI y++ys'.flatMap cellsI):=Or.inr ⟨b,off,rfl,hc⟩
      have h8:=h7.back
      rw[hl]at h8
      simpa[Addr.add_mid]using h8
theorem ToldR.c {u:Prop} {w:World} {p:Option Addr} {n c:Nat} {l:List Itm}(h:ToldR w p n c l):ToldC u w p n c l:=by
 obtain⟨ys,h1,h2,h3⟩:=h.rows
 refine⟨h.told,ys,h1,h2,fun y hy=>⟨(h3 y hy).good,fun _=>?_⟩⟩
 rcases(h3 y hy).at_ with h4 | ⟨g,h4,h5⟩
 ·exact Or.inl h4.1
 ·exact Or.inr ⟨g,_,h4,h5⟩
theorem Yb:(5:TypeId)≠64:=by decide
theorem Zi {u:Prop} {w:World} {p:Option Addr} {n c g:Nat} {l:List Itm} {e a:Int}(h:ToldC u w p n c l)(hk:Blk w g (flt e a) 64)(cs:List Value):ToldC u (w.setRow g cs.toArray) p n c l:=by
 refine⟨Zx h.told hk cs,?_⟩
 obtain⟨ys,h1,h2,h3⟩:=h.rows
 obtain⟨hA,hG⟩:=Zw h2 (fun y hy=>(h3 y hy).1) hk cs
 exact⟨ys,h1,hA,fun y hy=>⟨hG y hy,fun hu=>((h3 y hy).2 hu).on fun k ds hb=>hb.rowOther _ (blk_ne hb hk Yb)⟩⟩
@[irreducible] def cutI (v lo:Value):Sem Next:=do pure (.value (<-Instr.sliceAt 81 v (some lo) none none))
theorem ZR (ρ:Operand->Value)(dst:Option Tmp)(x lo:Operand)(ty:TypeId)(pos:String)(after:Array Edge)(guard:Option (Nat×Bool)):
 execOp ρ {dst:=dst,op:=.slice 81 x (some lo) none none,type:=ty,pos:=pos,after:=after,guard:=guard}= cutI (ρ x) (ρ lo):=by unfold cutI;rfl
theorem ZS (p:Option Addr)(n c:Nat)(h1:1<=n)(hc:n<=c)(hm:c<=9223372036854775807)(w:World):
 (cutI (.slice p n c) (.int .i64 1)).run Tryz.prog w= .ok (.value (.slice (if c=1 then p else p.map (·.add (1*34))) (n - 1) (c - 1))) w:=by
 have hu:=Tryz.underlying81
 have hu':Tryz.prog.underlying 81=some (.slice (Tryz.prog.elem 81)):=by rw[elem_of hu];exact hu
 have h2:=run_slice_l w 81 p n c hu' .i64 ((1:Nat):Int) (by omega) (by omega)
 unfold cutI
 rw[Sem.run_bind,run_sliceAt_slice w 81 _ _ _ _ hu',show(1:Int)=((1:Nat):Int)from rfl,h2,elem_of hu,size_of item_size]
 simp[Result.andThen,sliced]
theorem zZ (w:World):(makeOp 28 #[]).run Tryz.prog w= .ok (.value (.agg (fcells fz none 0).toArray)) w:=run_makeOp w (by unfold fcells;kernel_rfl)
end
end Go.Proofs.YtokpabkcaofahaaGreat
