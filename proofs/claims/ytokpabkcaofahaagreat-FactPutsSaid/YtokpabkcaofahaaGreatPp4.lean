/-
  What stands under factPuts_holds: part 4.
-/
import Derived.Test.YtokpabkcaofahaaGreatPp3
import Derived.Test.YtokpabkcaofahaaGreatPp1
import Derived.WalkSpells
import Derived.IntWalk
import Derived.WalkLawsBesides
import Derived.Laws.StructEq
import Derived.Deep.RegionLaw
import Derived.Test.YtokpabkcaofahaaGreatPp2
import Derived.Laws.IdiomStrings
import Derived.Laws.BytesArg
namespace Go.Proofs.YtokpabkcaofahaaGreat
set_option linter.unusedSimpArgs false
set_option linter.unusedVariables false
set_option maxRecDepth 100000
set_option maxHeartbeats 20000000
section
open Go.RowKit Sha Fct
theorem execOp_loadBal (ρ:Operand->Value)(dst:Option Tmp)(x:Operand)(ty:TypeId)(pos:String)(after:Array Edge)(guard:Option (Nat×Bool)):
 execOp ρ {dst:=dst,op:=.load 23 x,type:=ty,pos:=pos,after:=after,guard:=guard}= loadOp 23 (ρ x):=by unfold loadOp;rfl
theorem execOp_loadFact (ρ:Operand->Value)(dst:Option Tmp)(x:Operand)(ty:TypeId)(pos:String)(after:Array Edge)(guard:Option (Nat×Bool)):
 execOp ρ {dst:=dst,op:=.load 28 x,type:=ty,pos:=pos,after:=after,guard:=guard}= loadOp 28 (ρ x):=by unfold loadOp;rfl
theorem fact_size:(Tryz.prog.info? 28).map (fun i=>i.size)=some 38:=by kernel_rfl
theorem bal_size:(Tryz.prog.info? 23).map (fun i=>i.size)=some 2:=by kernel_rfl
theorem load_fact {w:World} {g o:Nat} {x:Fac} {q:Option Addr} {c:Nat}(hx:x.D.length=32)(h:w.rangeAt g o (fcells x q c)):(loadOp 28 (.pointer (some ⟨g,o,none⟩))).run Tryz.prog w= .ok (.value (.agg (fcells x q c).toArray)) w:=
 run_loadOp (run_loadAt_mid w g o 28 _ _ h Tryz.underlying28 rfl (by rw[fact_size,fcells_length hx]))
theorem rangeAt_sub {w:World} {g o:Nat} {cs:List Value}(h:w.rangeAt g o cs)(k:Nat) {ds:List Value}(hd:∀j v,ds[j]? = some v->cs[k+j]? = some v):w.rangeAt g (o+k) ds:=fun j v hv=>by
 rw[Nat.add_assoc];exact h _ v (hd j v hv)
theorem load_fid {w:World} {g o:Nat} {x:Fac} {q:Option Addr} {c:Nat}(hx:x.D.length=32)(h:w.rangeAt g o (fcells x q c)):(loadOp 25 (.pointer (some ⟨g,o+5,none⟩))).run Tryz.prog w= .ok (.value (.agg (x.D.map v8).toArray)) w:=
 run_loadOp (run_loadAt_mid w g (o+5) 25 _ _ (rangeAt_sub h 5 (fcells_D x q c)) Tryz.underlying25 rfl (by rw[id_size,List.length_map,hx]))
theorem load_fbal {w:World} {g o:Nat} {x:Fac} {q:Option Addr} {c:Nat}(h:w.rangeAt g o (fcells x q c)):(loadOp 23 (.pointer (some ⟨g,o+3,none⟩))).run Tryz.prog w= .ok (.value (.agg #[.int .i64 x.N,.int .i64 x.O])) w:=
 run_loadOp (run_loadAt_mid w g (o+3) 23 [.int .i64 x.N,.int .i64 x.O] _ (rangeAt_sub h 3 (fun j v hv=>by
  match j with
  | 0=>exact hv
  | 1=>exact hv
  | j+2=>simp at hv)) Tryz.underlying23 rfl (by rw[bal_size];rfl))
attribute [local go_sem ↓] execOp_loadBal execOp_loadId execOp_loadFact
theorem fac_ext (x y:Fac):decide (x=y)=(decide (x.K=y.K) && decide (x.S=y.S) && decide (x.H=y.H) && (decide (x.N=y.N) && decide (x.O=y.O)) && decide (x.D=y.D) && decide (x.B=y.B)):=by
 cases x;cases y
 rw[Bool.eq_iff_iff]
 simp[and_assoc]
theorem sameFact_any (x y:Fac)(q r:Option Addr)(c d:Nat)(w:World)(hx:sF.Good w x q c)(hy:sF.Good w y r d):
 Calls Tryz.prog 18 #[.agg (fcells x q c).toArray,.agg (fcells y r d).toArray] w fun e w'=>e= .returned (.bool (decide (x=y)))/\Below w.heap.size w w':=by
 have HX:Hid (sF.Good w x q c):=Lib.hid hx
 have HY:Hid (sF.Good w y r d):=Lib.hid hy
 have HE:=Lib.hid (fac_ext x y)
 obtain⟨m,hm⟩:∃m,m=x.B.length:=⟨_,rfl⟩
 obtain⟨k,hk⟩:∃k,k=y.B.length:=⟨_,rfl⟩
 have HM:=Lib.hid hm
 have HK:=Lib.hid hk
 clear hx hy hm hk
 obtain⟨bb,hbb⟩:∃b,b=decide (x.B=y.B):=⟨_,rfl⟩
 obtain⟨bd,hbd⟩:∃b,b=decide (x.D=y.D):=⟨_,rfl⟩
 have HBB:=Lib.hid hbb
 have HBD:=Lib.hid hbd
 clear hbb hbd
 by_cases eK:x.K=y.K
 ·have tK:(x.K == y.K)=true:=by rw[beq_iff_eq];exact eK
  have EK:=Lib.hid eK
  clear eK
  by_cases eS:x.S=y.S
  ·have tS:(x.S == y.S)=true:=by rw[beq_iff_eq];exact eS
   have ES:=Lib.hid eS
   clear eS
   by_cases eH:x.H=y.H
   ·have tH:(x.H == y.H)=true:=by rw[beq_iff_eq];exact eH
    have EH:=Lib.hid eH
    clear eH
    by_cases eN:x.N=y.N
    ·have tN:(x.N == y.N)=true:=by rw[beq_iff_eq];exact eN
     have EN:=Lib.hid eN
     clear eN
     by_cases eO:x.O=y.O
     ·have tO:(x.O == y.O)=true:=by rw[beq_iff_eq];exact eO
      have EO:=Lib.hid eO
      clear eO
      go_enter Tryz.func18,Tryz.ntmps18
      go_wp2_with (first
       | ((refine wpList_box_new rfl 28 (.tmp 0) rfl _ rfl ?_);(intro w1 g K1 B1 G1);(have HK1:=Lib.hid K1);(have HB1:=Lib.hid B1);clear K1 B1)
       | ((refine wpList_box_new rfl 28 (.tmp 1) rfl _ rfl ?_);(intro w2 g2 K2 B2 G2);(have hk2:=HK1.out.below B2 HK1.out.lt);(have HB2:=Lib.hid (HB1.out.trans (B2.mono HB1.out.size)));(have a0:w2.cell? ⟨g,0,none⟩=some (.int .i64 x.K):=(hk2.cell 0).trans (fcells_K _ _ _));(have b0:w2.cell? ⟨g2,0,none⟩=some (.int .i64 y.K):=(K2.cell 0).trans (fcells_K _ _ _));(have a1:w2.cell? ⟨g,1,none⟩=some (.int .i64 x.S):=(hk2.cell 1).trans (fcells_S _ _ _));(have b1:w2.cell? ⟨g2,1,none⟩=some (.int .i64 y.S):=(K2.cell 1).trans (fcells_S _ _ _));(have a2:w2.cell? ⟨g,2,none⟩=some (.int .i64 x.H):=(hk2.cell 2).trans (fcells_H _ _ _));(have b2:w2.cell? ⟨g2,2,none⟩=some (.int .i64 y.H):=(K2.cell 2).trans (fcells_H _ _ _));(have a3:w2.cell? ⟨g,3,none⟩=some (.int .i64 x.N):=(hk2.cell 3).trans (fcells_N _ _ _));(have b3:w2.cell? ⟨g2,3,none⟩=some (.int .i64 y.N):=(K2.cell 3).trans (fcells_N _ _ _));(have a4:w2.cell? ⟨g,4,none⟩=some (.int .i64 x.O):=(hk2.cell 4).trans (fcells_O _ _ _));(have b4:w2.cell? ⟨g2,4,none⟩=some (.int .i64 y.O):=(K2.cell 4).trans (fcells_O _ _ _));(have a5:w2.cell? ⟨g,37,none⟩=some (.slice q m c):=(by rw[HM.out];exact(hk2.cell 37).trans (fcells_B HX.out.ok.len _ _)));(have b5:w2.cell? ⟨g2,37,none⟩=some (.slice r k d):=(by rw[HK.out];exact(K2.cell 37).trans (fcells_B HY.out.ok.len _ _)));(have la:(loadOp 25 (.pointer (some ⟨g,5,none⟩))).run Tryz.prog w2= .ok (.value (.agg (x.D.map v8).toArray)) w2:=load_fid (o:=0) HX.out.ok.len hk2.range);(have lb:(loadOp 25 (.pointer (some ⟨g2,5,none⟩))).run Tryz.prog w2= .ok (.value (.agg (y.D.map v8).toArray)) w2:=load_fid (o:=0) HY.out.ok.len K2.range);(have lc:(loadOp 23 (.pointer (some ⟨g,3,none⟩))).run Tryz.prog w2= .ok (.value (.agg #[.int .i64 x.N,.int .i64 x.O])) w2:=load_fbal (o:=0) hk2.range);(have ld:(loadOp 23 (.pointer (some ⟨g2,3,none⟩))).run Tryz.prog w2= .ok (.value (.agg #[.int .i64 y.N,.int .i64 y.O])) w2:=load_fbal (o:=0) K2.range);clear K2 B2 hk2)
       | (go_at_call 14;refine(same_any x.B y.B m k q r c d w2 HM.out.symm HK.out.symm (HX.out.at_.below HB2.out) (HY.out.at_.below HB2.out) HX.out.ok.B HY.out.ok.B).mono ?_;rw[<-HBB.out];rintro e w' ⟨rfl,rfl⟩)
       | (refine BigFrame.wpList_want rfl (fun K hK=>wp_eql_arr 25 (.tmp 33) (.tmp 35) _ rfl 5 32 .u8 Tryz.underlying25 Tryz.underlying5 kslice1 x.D y.D rfl rfl HX.out.ok.len HY.out.ok.len (hK _ _ ?_))))
      ·rename_i hD
       go_ret
       exact⟨congrArg (fun b=>Ending.returned (Value.bool b)) (by rw[HE.out];rw[<-HBB.out,EK.out,ES.out,EH.out,EN.out,EO.out,decide_eq_true hD];simp),HB2.out⟩
      ·rename_i hD
       go_ret
       exact⟨congrArg (fun b=>Ending.returned (Value.bool b)) (by rw[HE.out];rw[decide_eq_false hD];simp),HB2.out⟩
     ·have tO:(x.O == y.O)=false:=by rw[beq_eq_false_iff_ne];exact eO
      have EO:=Lib.hid (show decide (x.O=y.O)=false from decide_eq_false eO)
      clear eO
      go_enter Tryz.func18,Tryz.ntmps18
      go_wp2_with (first
       | ((refine wpList_box_new rfl 28 (.tmp 0) rfl _ rfl ?_);(intro w1 g K1 B1 G1);(have HK1:=Lib.hid K1);(have HB1:=Lib.hid B1);clear K1 B1)
       | ((refine wpList_box_new rfl 28 (.tmp 1) rfl _ rfl ?_);(intro w2 g2 K2 B2 G2);(have hk2:=HK1.out.below B2 HK1.out.lt);(have HB2:=Lib.hid (HB1.out.trans (B2.mono HB1.out.size)));(have a0:w2.cell? ⟨g,0,none⟩=some (.int .i64 x.K):=(hk2.cell 0).trans (fcells_K _ _ _));(have b0:w2.cell? ⟨g2,0,none⟩=some (.int .i64 y.K):=(K2.cell 0).trans (fcells_K _ _ _));(have a1:w2.cell? ⟨g,1,none⟩=some (.int .i64 x.S):=(hk2.cell 1).trans (fcells_S _ _ _));(have b1:w2.cell? ⟨g2,1,none⟩=some (.int .i64 y.S):=(K2.cell 1).trans (fcells_S _ _ _));(have a2:w2.cell? ⟨g,2,none⟩=some (.int .i64 x.H):=(hk2.cell 2).trans (fcells_H _ _ _));(have b2:w2.cell? ⟨g2,2,none⟩=some (.int .i64 y.H):=(K2.cell 2).trans (fcells_H _ _ _));(have a3:w2.cell? ⟨g,3,none⟩=some (.int .i64 x.N):=(hk2.cell 3).trans (fcells_N _ _ _));(have b3:w2.cell? ⟨g2,3,none⟩=some (.int .i64 y.N):=(K2.cell 3).trans (fcells_N _ _ _));(have a4:w2.cell? ⟨g,4,none⟩=some (.int .i64 x.O):=(hk2.cell 4).trans (fcells_O _ _ _));(have b4:w2.cell? ⟨g2,4,none⟩=some (.int .i64 y.O):=(K2.cell 4).trans (fcells_O _ _ _));(have a5:w2.cell? ⟨g,37,none⟩=some (.slice q m c):=(by rw[HM.out];exact(hk2.cell 37).trans (fcells_B HX.out.ok.len _ _)));(have b5:w2.cell? ⟨g2,37,none⟩=some (.slice r k d):=(by rw[HK.out];exact(K2.cell 37).trans (fcells_B HY.out.ok.len _ _)));(have la:(loadOp 25 (.pointer (some ⟨g,5,none⟩))).run Tryz.prog w2= .ok (.value (.agg (x.D.map v8).toArray)) w2:=load_fid (o:=0) HX.out.ok.len hk2.range);(have lb:(loadOp 25 (.pointer (some ⟨g2,5,none⟩))).run Tryz.prog w2= .ok (.value (.agg (y.D.map v8).toArray)) w2:=load_fid (o:=0) HY.out.ok.len K2.range);(have lc:(loadOp 23 (.pointer (some ⟨g,3,none⟩))).run Tryz.prog w2= .ok (.value (.agg #[.int .i64 x.N,.int .i64 x.O])) w2:=load_fbal (o:=0) hk2.range);(have ld:(loadOp 23 (.pointer (some ⟨g2,3,none⟩))).run Tryz.prog w2= .ok (.value (.agg #[.int .i64 y.N,.int .i64 y.O])) w2:=load_fbal (o:=0) K2.range);clear K2 B2 hk2)
       | (go_at_call 14;refine(same_any x.B y.B m k q r c d w2 HM.out.symm HK.out.symm (HX.out.at_.below HB2.out) (HY.out.at_.below HB2.out) HX.out.ok.B HY.out.ok.B).mono ?_;rw[<-HBB.out];rintro e w' ⟨rfl,rfl⟩)
       | (refine BigFrame.wpList_want rfl (fun K hK=>wp_eql_arr 25 (.tmp 33) (.tmp 35) _ rfl 5 32 .u8 Tryz.underlying25 Tryz.underlying5 kslice1 x.D y.D rfl rfl HX.out.ok.len HY.out.ok.len (hK _ _ ?_))))
      go_ret
      exact⟨congrArg (fun b=>Ending.returned (Value.bool b)) (by rw[HE.out];rw[EO.out];simp),HB2.out⟩
    ·have tN:(x.N == y.N)=false:=by rw[beq_eq_false_iff_ne];exact eN
     have EN:=Lib.hid (show decide (x.N=y.N)=false from decide_eq_false eN)
     clear eN
     go_enter Tryz.func18,Tryz.ntmps18
     go_wp2_with (first
      | ((refine wpList_box_new rfl 28 (.tmp 0) rfl _ rfl ?_);(intro w1 g K1 B1 G1);(have HK1:=Lib.hid K1);(have HB1:=Lib.hid B1);clear K1 B1)
      | ((refine wpList_box_new rfl 28 (.tmp 1) rfl _ rfl ?_);(intro w2 g2 K2 B2 G2);(have hk2:=HK1.out.below B2 HK1.out.lt);(have HB2:=Lib.hid (HB1.out.trans (B2.mono HB1.out.size)));(have a0:w2.cell? ⟨g,0,none⟩=some (.int .i64 x.K):=(hk2.cell 0).trans (fcells_K _ _ _));(have b0:w2.cell? ⟨g2,0,none⟩=some (.int .i64 y.K):=(K2.cell 0).trans (fcells_K _ _ _));(have a1:w2.cell? ⟨g,1,none⟩=some (.int .i64 x.S):=(hk2.cell 1).trans (fcells_S _ _ _));(have b1:w2.cell? ⟨g2,1,none⟩=some (.int .i64 y.S):=(K2.cell 1).trans (fcells_S _ _ _));(have a2:w2.cell? ⟨g,2,none⟩=some (.int .i64 x.H):=(hk2.cell 2).trans (fcells_H _ _ _));(have b2:w2.cell? ⟨g2,2,none⟩=some (.int .i64 y.H):=(K2.cell 2).trans (fcells_H _ _ _));(have a3:w2.cell? ⟨g,3,none⟩=some (.int .i64 x.N):=(hk2.cell 3).trans (fcells_N _ _ _));(have b3:w2.cell? ⟨g2,3,none⟩=some (.int .i64 y.N):=(K2.cell 3).trans (fcells_N _ _ _));(have a4:w2.cell? ⟨g,4,none⟩=some (.int .i64 x.O):=(hk2.cell 4).trans (fcells_O _ _ _));(have b4:w2.cell? ⟨g2,4,none⟩=some (.int .i64 y.O):=(K2.cell 4).trans (fcells_O _ _ _));(have a5:w2.cell? ⟨g,37,none⟩=some (.slice q m c):=(by rw[HM.out];exact(hk2.cell 37).trans (fcells_B HX.out.ok.len _ _)));(have b5:w2.cell? ⟨g2,37,none⟩=some (.slice r k d):=(by rw[HK.out];exact(K2.cell 37).trans (fcells_B HY.out.ok.len _ _)));(have la:(loadOp 25 (.pointer (some ⟨g,5,none⟩))).run Tryz.prog w2= .ok (.value (.agg (x.D.map v8).toArray)) w2:=load_fid (o:=0) HX.out.ok.len hk2.range);(have lb:(loadOp 25 (.pointer (some ⟨g2,5,none⟩))).run Tryz.prog w2= .ok (.value (.agg (y.D.map v8).toArray)) w2:=load_fid (o:=0) HY.out.ok.len K2.range);(have lc:(loadOp 23 (.pointer (some ⟨g,3,none⟩))).run Tryz.prog w2= .ok (.value (.agg #[.int .i64 x.N,.int .i64 x.O])) w2:=load_fbal (o:=0) hk2.range);(have ld:(loadOp 23 (.pointer (some ⟨g2,3,none⟩))).run Tryz.prog w2= .ok (.value (.agg #[.int .i64 y.N,.int .i64 y.O])) w2:=load_fbal (o:=0) K2.range);clear K2 B2 hk2)
      | (go_at_call 14;refine(same_any x.B y.B m k q r c d w2 HM.out.symm HK.out.symm (HX.out.at_.below HB2.out) (HY.out.at_.below HB2.out) HX.out.ok.B HY.out.ok.B).mono ?_;rw[<-HBB.out];rintro e w' ⟨rfl,rfl⟩)
      | (refine BigFrame.wpList_want rfl (fun K hK=>wp_eql_arr 25 (.tmp 33) (.tmp 35) _ rfl 5 32 .u8 Tryz.underlying25 Tryz.underlying5 kslice1 x.D y.D rfl rfl HX.out.ok.len HY.out.ok.len (hK _ _ ?_))))
     go_ret
     exact⟨congrArg (fun b=>Ending.returned (Value.bool b)) (by rw[HE.out];rw[EN.out];simp),HB2.out⟩
   ·have tH:(x.H == y.H)=false:=by rw[beq_eq_false_iff_ne];exact eH
    have EH:=Lib.hid (show decide (x.H=y.H)=false from decide_eq_false eH)
    clear eH
    go_enter Tryz.func18,Tryz.ntmps18
    go_wp2_with (first
     | ((refine wpList_box_new rfl 28 (.tmp 0) rfl _ rfl ?_);(intro w1 g K1 B1 G1);(have HK1:=Lib.hid K1);(have HB1:=Lib.hid B1);clear K1 B1)
     | ((refine wpList_box_new rfl 28 (.tmp 1) rfl _ rfl ?_);(intro w2 g2 K2 B2 G2);(have hk2:=HK1.out.below B2 HK1.out.lt);(have HB2:=Lib.hid (HB1.out.trans (B2.mono HB1.out.size)));(have a0:w2.cell? ⟨g,0,none⟩=some (.int .i64 x.K):=(hk2.cell 0).trans (fcells_K _ _ _));(have b0:w2.cell? ⟨g2,0,none⟩=some (.int .i64 y.K):=(K2.cell 0).trans (fcells_K _ _ _));(have a1:w2.cell? ⟨g,1,none⟩=some (.int .i64 x.S):=(hk2.cell 1).trans (fcells_S _ _ _));(have b1:w2.cell? ⟨g2,1,none⟩=some (.int .i64 y.S):=(K2.cell 1).trans (fcells_S _ _ _));(have a2:w2.cell? ⟨g,2,none⟩=some (.int .i64 x.H):=(hk2.cell 2).trans (fcells_H _ _ _));(have b2:w2.cell? ⟨g2,2,none⟩=some (.int .i64 y.H):=(K2.cell 2).trans (fcells_H _ _ _));(have a3:w2.cell? ⟨g,3,none⟩=some (.int .i64 x.N):=(hk2.cell 3).trans (fcells_N _ _ _));(have b3:w2.cell? ⟨g2,3,none⟩=some (.int .i64 y.N):=(K2.cell 3).trans (fcells_N _ _ _));(have a4:w2.cell? ⟨g,4,none⟩=some (.int .i64 x.O):=(hk2.cell 4).trans (fcells_O _ _ _));(have b4:w2.cell? ⟨g2,4,none⟩=some (.int .i64 y.O):=(K2.cell 4).trans (fcells_O _ _ _));(have a5:w2.cell? ⟨g,37,none⟩=some (.slice q m c):=(by rw[HM.out];exact(hk2.cell 37).trans (fcells_B HX.out.ok.len _ _)));(have b5:w2.cell? ⟨g2,37,none⟩=some (.slice r k d):=(by rw[HK.out];exact(K2.cell 37).trans (fcells_B HY.out.ok.len _ _)));(have la:(loadOp 25 (.pointer (some ⟨g,5,none⟩))).run Tryz.prog w2= .ok (.value (.agg (x.D.map v8).toArray)) w2:=load_fid (o:=0) HX.out.ok.len hk2.range);(have lb:(loadOp 25 (.pointer (some ⟨g2,5,none⟩))).run Tryz.prog w2= .ok (.value (.agg (y.D.map v8).toArray)) w2:=load_fid (o:=0) HY.out.ok.len K2.range);(have lc:(loadOp 23 (.pointer (some ⟨g,3,none⟩))).run Tryz.prog w2= .ok (.value (.agg #[.int .i64 x.N,.int .i64 x.O])) w2:=load_fbal (o:=0) hk2.range);(have ld:(loadOp 23 (.pointer (some ⟨g2,3,none⟩))).run Tryz.prog w2= .ok (.value (.agg #[.int .i64 y.N,.int .i64 y.O])) w2:=load_fbal (o:=0) K2.range);clear K2 B2 hk2)
     | (go_at_call 14;refine(same_any x.B y.B m k q r c d w2 HM.out.symm HK.out.symm (HX.out.at_.below HB2.out) (HY.out.at_.below HB2.out) HX.out.ok.B HY.out.ok.B).mono ?_;rw[<-HBB.out];rintro e w' ⟨rfl,rfl⟩)
     | (refine BigFrame.wpList_want rfl (fun K hK=>wp_eql_arr 25 (.tmp 33) (.tmp 35) _ rfl 5 32 .u8 Tryz.underlying25 Tryz.underlying5 kslice1 x.D y.D rfl rfl HX.out.ok.len HY.out.ok.len (hK _ _ ?_))))
    go_ret
    exact⟨congrArg (fun b=>Ending.returned (Value.bool b)) (by rw[HE.out];rw[EH.out];simp),HB2.out⟩
  ·have tS:(x.S == y.S)=false:=by rw[beq_eq_false_iff_ne];exact eS
   have ES:=Lib.hid (show decide (x.S=y.S)=false from decide_eq_false eS)
   clear eS
   go_enter Tryz.func18,Tryz.ntmps18
   go_wp2_with (first
    | ((refine wpList_box_new rfl 28 (.tmp 0) rfl _ rfl ?_);(intro w1 g K1 B1 G1);(have HK1:=Lib.hid K1);(have HB1:=Lib.hid B1);clear K1 B1)
    | ((refine wpList_box_new rfl 28 (.tmp 1) rfl _ rfl ?_);(intro w2 g2 K2 B2 G2);(have hk2:=HK1.out.below B2 HK1.out.lt);(have HB2:=Lib.hid (HB1.out.trans (B2.mono HB1.out.size)));(have a0:w2.cell? ⟨g,0,none⟩=some (.int .i64 x.K):=(hk2.cell 0).trans (fcells_K _ _ _));(have b0:w2.cell? ⟨g2,0,none⟩=some (.int .i64 y.K):=(K2.cell 0).trans (fcells_K _ _ _));(have a1:w2.cell? ⟨g,1,none⟩=some (.int .i64 x.S):=(hk2.cell 1).trans (fcells_S _ _ _));(have b1:w2.cell? ⟨g2,1,none⟩=some (.int .i64 y.S):=(K2.cell 1).trans (fcells_S _ _ _));(have a2:w2.cell? ⟨g,2,none⟩=some (.int .i64 x.H):=(hk2.cell 2).trans (fcells_H _ _ _));(have b2:w2.cell? ⟨g2,2,none⟩=some (.int .i64 y.H):=(K2.cell 2).trans (fcells_H _ _ _));(have a3:w2.cell? ⟨g,3,none⟩=some (.int .i64 x.N):=(hk2.cell 3).trans (fcells_N _ _ _));(have b3:w2.cell? ⟨g2,3,none⟩=some (.int .i64 y.N):=(K2.cell 3).trans (fcells_N _ _ _));(have a4:w2.cell? ⟨g,4,none⟩=some (.int .i64 x.O):=(hk2.cell 4).trans (fcells_O _ _ _));(have b4:w2.cell? ⟨g2,4,none⟩=some (.int .i64 y.O):=(K2.cell 4).trans (fcells_O _ _ _));(have a5:w2.cell? ⟨g,37,none⟩=some (.slice q m c):=(by rw[HM.out];exact(hk2.cell 37).trans (fcells_B HX.out.ok.len _ _)));(have b5:w2.cell? ⟨g2,37,none⟩=some (.slice r k d):=(by rw[HK.out];exact(K2.cell 37).trans (fcells_B HY.out.ok.len _ _)));(have la:(loadOp 25 (.pointer (some ⟨g,5,none⟩))).run Tryz.prog w2= .ok (.value (.agg (x.D.map v8).toArray)) w2:=load_fid (o:=0) HX.out.ok.len hk2.range);(have lb:(loadOp 25 (.pointer (some ⟨g2,5,none⟩))).run Tryz.prog w2= .ok (.value (.agg (y.D.map v8).toArray)) w2:=load_fid (o:=0) HY.out.ok.len K2.range);(have lc:(loadOp 23 (.pointer (some ⟨g,3,none⟩))).run Tryz.prog w2= .ok (.value (.agg #[.int .i64 x.N,.int .i64 x.O])) w2:=load_fbal (o:=0) hk2.range);(have ld:(loadOp 23 (.pointer (some ⟨g2,3,none⟩))).run Tryz.prog w2= .ok (.value (.agg #[.int .i64 y.N,.int .i64 y.O])) w2:=load_fbal (o:=0) K2.range);clear K2 B2 hk2)
    | (go_at_call 14;refine(same_any x.B y.B m k q r c d w2 HM.out.symm HK.out.symm (HX.out.at_.below HB2.out) (HY.out.at_.below HB2.out) HX.out.ok.B HY.out.ok.B).mono ?_;rw[<-HBB.out];rintro e w' ⟨rfl,rfl⟩)
    | (refine BigFrame.wpList_want rfl (fun K hK=>wp_eql_arr 25 (.tmp 33) (.tmp 35) _ rfl 5 32 .u8 Tryz.underlying25 Tryz.underlying5 kslice1 x.D y.D rfl rfl HX.out.ok.len HY.out.ok.len (hK _ _ ?_))))
   go_ret
   exact⟨congrArg (fun b=>Ending.returned (Value.bool b)) (by rw[HE.out];rw[ES.out];simp),HB2.out⟩
 ·have tK:(x.K == y.K)=false:=by rw[beq_eq_false_iff_ne];exact eK
  have EK:=Lib.hid (show decide (x.K=y.K)=false from decide_eq_false eK)
  clear eK
  go_enter Tryz.func18,Tryz.ntmps18
  go_wp2_with (first
   | ((refine wpList_box_new rfl 28 (.tmp 0) rfl _ rfl ?_);(intro w1 g K1 B1 G1);(have HK1:=Lib.hid K1);(have HB1:=Lib.hid B1);clear K1 B1)
   | ((refine wpList_box_new rfl 28 (.tmp 1) rfl _ rfl ?_);(intro w2 g2 K2 B2 G2);(have hk2:=HK1.out.below B2 HK1.out.lt);(have HB2:=Lib.hid (HB1.out.trans (B2.mono HB1.out.size)));(have a0:w2.cell? ⟨g,0,none⟩=some (.int .i64 x.K):=(hk2.cell 0).trans (fcells_K _ _ _));(have b0:w2.cell? ⟨g2,0,none⟩=some (.int .i64 y.K):=(K2.cell 0).trans (fcells_K _ _ _));(have a1:w2.cell? ⟨g,1,none⟩=some (.int .i64 x.S):=(hk2.cell 1).trans (fcells_S _ _ _));(have b1:w2.cell? ⟨g2,1,none⟩=some (.int .i64 y.S):=(K2.cell 1).trans (fcells_S _ _ _));(have a2:w2.cell? ⟨g,2,none⟩=some (.int .i64 x.H):=(hk2.cell 2).trans (fcells_H _ _ _));(have b2:w2.cell? ⟨g2,2,none⟩=some (.int .i64 y.H):=(K2.cell 2).trans (fcells_H _ _ _));(have a3:w2.cell? ⟨g,3,none⟩=some (.int .i64 x.N):=(hk2.cell 3).trans (fcells_N _ _ _));(have b3:w2.cell? ⟨g2,3,none⟩=some (.int .i64 y.N):=(K2.cell 3).trans (fcells_N _ _ _));(have a4:w2.cell? ⟨g,4,none⟩=some (.int .i64 x.O):=(hk2.cell 4).trans (fcells_O _ _ _));(have b4:w2.cell? ⟨g2,4,none⟩=some (.int .i64 y.O):=(K2.cell 4).trans (fcells_O _ _ _));(have a5:w2.cell? ⟨g,37,none⟩=some (.slice q m c):=(by rw[HM.out];exact(hk2.cell 37).trans (fcells_B HX.out.ok.len _ _)));(have b5:w2.cell? ⟨g2,37,none⟩=some (.slice r k d):=(by rw[HK.out];exact(K2.cell 37).trans (fcells_B HY.out.ok.len _ _)));(have la:(loadOp 25 (.pointer (some ⟨g,5,none⟩))).run Tryz.prog w2= .ok (.value (.agg (x.D.map v8).toArray)) w2:=load_fid (o:=0) HX.out.ok.len hk2.range);(have lb:(loadOp 25 (.pointer (some ⟨g2,5,none⟩))).run Tryz.prog w2= .ok (.value (.agg (y.D.map v8).toArray)) w2:=load_fid (o:=0) HY.out.ok.len K2.range);(have lc:(loadOp 23 (.pointer (some ⟨g,3,none⟩))).run Tryz.prog w2= .ok (.value (.agg #[.int .i64 x.N,.int .i64 x.O])) w2:=load_fbal (o:=0) hk2.range);(have ld:(loadOp 23 (.pointer (some ⟨g2,3,none⟩))).run Tryz.prog w2= .ok (.value (.agg #[.int .i64 y.N,.int .i64 y.O])) w2:=load_fbal (o:=0) K2.range);clear K2 B2 hk2)
   | (go_at_call 14;refine(same_any x.B y.B m k q r c d w2 HM.out.symm HK.out.symm (HX.out.at_.below HB2.out) (HY.out.at_.below HB2.out) HX.out.ok.B HY.out.ok.B).mono ?_;rw[<-HBB.out];rintro e w' ⟨rfl,rfl⟩)
   | (refine BigFrame.wpList_want rfl (fun K hK=>wp_eql_arr 25 (.tmp 33) (.tmp 35) _ rfl 5 32 .u8 Tryz.underlying25 Tryz.underlying5 kslice1 x.D y.D rfl rfl HX.out.ok.len HY.out.ok.len (hK _ _ ?_))))
  go_ret
  exact⟨congrArg (fun b=>Ending.returned (Value.bool b)) (by rw[HE.out];rw[EK.out];simp),HB2.out⟩
end
section
open Go.RowKit Sha
variable {P:Program} {V:Type} {S:Shp V}
theorem own_blk_s {w:World} {B n size:Nat} {e:TypeId} {v:Value} {xs:List Value}(h:w.ownsRow B e size v n xs)(hn:0 < n):∃g cap rest,v= .slice (some ⟨g,0,none⟩) n cap/\B<=g/\n<=cap/\cap<=maxLen/\Blk w g (xs++rest) e:=by
 obtain⟨_,h⟩:=h
 rcases h with⟨_,h0⟩ | ⟨g,cap,cur,hv,hg,hh,h1,h2,h3,h4⟩
 ·omega
 ·refine⟨g,cap,cur.toList.drop (n*size),hv,hg,h1,h2,?_⟩
  rw[<-h4,List.take_append_drop]
  unfold Blk;simpa using hh
theorem row_kind {w:World} {B n size:Nat} {e:TypeId} {v:Value} {xs:List Value}(h:w.ownsRow B e size v n xs):∀k,v.ownBlock=some k->∃c fz,w.heap[k]? = some (.cells c e fz):=by
 intro k hk
 rcases h.2 with⟨hv,_⟩ | ⟨g,cap,cur,hv,_,hh,_⟩
 ·rw[hv]at hk;cases hk
 ·rw[hv]at hk;cases hk;exact⟨_,_,hh⟩
theorem row_base {w:World} {B n size:Nat} {e:TypeId} {v:Value} {xs:List Value}(h:w.ownsRow B e size v n xs):∀k,v.ownBlock=some k->B<=k:=by
 intro k hk
 rcases h.2 with⟨hv,_⟩ | ⟨g,cap,cur,hv,hg,hh,_⟩
 ·rw[hv]at hk;cases hk
 ·rw[hv]at hk;cases hk;exact hg
theorem row_carry {w w':World} {B n size:Nat} {e:TypeId} {v:Value} {xs:List Value}(h:w.ownsRow B e size v n xs)(hc:∀k c fz,v.ownBlock=some k->w.heap[k]? = some (.cells c e fz)->w'.heap[k]? = some (.cells c e fz)):w'.ownsRow B e size v n xs:=by
 refine⟨h.1,?_⟩
 rcases h.2 with h | ⟨g,cap,cur,hv,hg,hh,h4⟩
 ·exact Or.inl h
 ·exact Or.inr ⟨g,cap,cur,hv,hg,hc g _ _ (by rw[hv];rfl) hh,h4⟩
theorem Shp.flat_set (ys:List (Hd V))(h:∀y∈ys,S.ok y.1)(k:Nat)(hk:k < ys.length)(j:Nat)(hj:j < S.n)(u:Value)(y':Hd V)(hy:(S.row ys[k]).set j u=S.row y')(rest:List Value):
 (ys.flatMap S.row++rest).set (k*S.n+j) u=(ys.set k y').flatMap S.row++rest:=by
 induction ys generalizing k with
 | nil=>simp at hk
 | cons y ys ih=>
    have hl:(S.row y).length=S.n:=S.len _ _ (h y (List.mem_cons_self ..))
    cases k with
    | zero=>
       simp only[Nat.zero_mul,Nat.zero_add,List.getElem_cons_zero,List.set_cons_zero,List.flatMap_cons,List.append_assoc]at hy ⊢
       rw[List.set_append_left _ _ (by omega),hy]
    | succ k=>
       simp only[List.getElem_cons_succ,List.set_cons_succ,List.flatMap_cons,List.append_assoc]at hy ⊢
       rw[List.set_append_right _ _ (by rw[hl,Nat.succ_mul];omega),show(k+1)*S.n+j - (S.row y).length=k*S.n+j by rw[hl,Nat.succ_mul];omega]
       rw[ih (fun y hy=>h y (List.mem_cons_of_mem _ hy)) k (by simpa using hk) hy]
def OutOf (g:Nat)(zs:List Int)(q:Option Addr):Prop:=zs≠[]->∀a,q=some a->a.block≠g
theorem At.setOut {w:World} {g i:Nat} {u:Value} {zs:List Int} {q:Option Addr}(h:At w q (zs.map v8))(ho:OutOf g zs q):At (w.setCell ⟨g,i,none⟩ u) q (zs.map v8):=by
 by_cases hz:zs= []
 ·left;rw[hz];rfl
 ·rcases h with h | ⟨b,off,rfl,hc⟩
  ·exact Or.inl h
  ·refine Or.inr ⟨b,off,rfl,fun j v hj=>?_⟩
   have h1:=hc j v hj
   have hb:b≠g:=ho hz _ rfl
   exact(World.cell?_of_block (w:=w) (a:=⟨b,off+j,none⟩) (Below.heap_setCell w ⟨g,i,none⟩ u b hb)).trans h1
theorem OutOf.old {w:World} {g:Nat} {zs:List Int} {q:Option Addr}(h:At w q (zs.map v8))(hg:w.heap.size<=g):OutOf g zs q:=by
 intro hz a ha e
 rcases h with h | ⟨b,off,rfl,hc⟩
 ·exact hz (by simpa using h)
 ·cases ha
  cases zs with
  | nil=>exact hz rfl
  | cons z zs=>
     have:=World.block_lt_of_cell? w _ (hc 0 (v8 z) rfl)
     simp only at e this
     omega
theorem Shp.Good.setOut {w:World} {g i:Nat} {u:Value} {x:V} {q:Option Addr} {c:Nat}(h:S.Good w x q c)(ho:OutOf g (S.byt x) q):S.Good (w.setCell ⟨g,i,none⟩ u) x q c:=⟨h.ok,h.at_.setOut ho,h.le,h.max,h.nil⟩
theorem flat_cell {w:World} {g:Nat} {ys:List (Hd V)} {rest:List Value} {t:TypeId}(h:Blk w g (ys.flatMap S.row++rest) t)(hok:∀y∈ys,S.ok y.1)(k:Nat)(hk:k < ys.length):w.rangeAt g (k*S.n) (S.row ys[k]):=fun j v hj=>by
 rw[h.cell]
 have hlt:=(List.getElem?_eq_some_iff.1 (Shp.flat_get ys hok k hk j v hj)).1
 rw[List.getElem?_append_left hlt]
 exact Shp.flat_get ys hok k hk j v hj
theorem At.ofBlk {w:World} {g:Nat} {xs rest:List Value} {t:TypeId}(h:Blk w g (xs++rest) t):At w (some ⟨g,0,none⟩) xs:=by
 refine Or.inr ⟨g,0,rfl,fun i v hi=>?_⟩
 rw[Nat.zero_add,h.cell,List.getElem?_append_left (List.getElem?_eq_some_iff.1 hi).1]
 exact hi
end
section
open Go.RowKit Sha Fct
theorem fact_all3:(Tryz.prog.info? 28).map (fun i=>(i.zero,i.size,i.bytes))=some (some (.agg (fcells ⟨0,0,0,0,0,Fld.zero32,[]⟩ none 0).toArray),38,96):=by unfold fcells;kernel_rfl
theorem fzero_size:(Value.agg (fcells ⟨0,0,0,0,0,Fld.zero32,[]⟩ none 0).toArray).cells.size=38:=by
 show(fcells ⟨0,0,0,0,0,Fld.zero32,[]⟩ none 0).toArray.size=38
 rw[List.size_toArray,fcells_length Fld.zero32_length]
theorem frow_set (x:Fac)(hx:x.D.length=32)(q q':Option Addr)(c c':Nat):(sF.row (x,q,c)).set 37 (.slice q' x.B.length c')=sF.row (x,q',c'):=by
 show(fcells x q c).set 37 _=fcells x q' c'
 unfold fcells
 simp only[List.set_cons_succ]
 rw[List.set_append_right _ _ (by simp[hx])]
 simp[hx]
structure CpF (w:World)(g:Nat)(xs:List Fac)(ys:List (Hd Fac))(rest:List Value)(wr:World):Prop where
 is:ys.map (·.1)=xs
 blk:Blk wr g (ys.flatMap sF.row++rest) 28
 good:∀y∈ys,sF.Good wr y.1 y.2.1 y.2.2/\OutOf g y.1.B y.2.1
 below:Below w.heap.size w wr
 le:w.heap.size<=g
theorem CpF.next {w wr w':World} {g:Nat} {xs:List Fac} {ys:List (Hd Fac)} {rest:List Value}(h:CpF w g xs ys rest wr)(k:Nat)(hk:k < ys.length)(hb:Below wr.heap.size wr w')(q':Option Addr)(c':Nat)
 (hA:At w' q' (ys[k].1.B.map v8)) (hle:ys[k].1.B.length<=c') (hm:c'<=9223372036854775807) (hn:q'=none->c'=0) (ho:OutOf g ys[k].1.B q'):CpF w g xs (ys.set k (ys[k].1,q',c')) rest (w'.setCell ⟨g,k*38+37,none⟩ (.slice q' ys[k].1.B.length c')):=by
 have hok:∀y∈ys,sF.ok y.1:=fun y hy=>(h.good y hy).1.ok
 have hko:=(h.good _ (List.getElem_mem hk)).1.ok
 have hg:g < wr.heap.size:=h.blk.lt
 refine⟨?_,?_,fun y hy=>?_,?_,h.le⟩
 ·rw[List.map_set,<-h.is]
  apply List.ext_getElem
  ·simp
  ·intro i h1 h2
   rw[List.getElem_set]
   split
   ·rename_i e;subst e;simp
   ·rfl
 ·have h1:=(h.blk.below hb hg).set (k*38+37) (.slice q' ys[k].1.B.length c')
  have h2:=Shp.flat_set (S:=sF) ys hok k hk 37 (by show 37 < 38;omega) (.slice q' ys[k].1.B.length c') (ys[k].1,q',c') (frow_set _ hko.len _ _ _ _) rest
  rw[show k*sF.n+37=k*38+37 from rfl]at h2
  rw[h2]at h1
  exact h1
 ·rcases List.mem_or_eq_of_mem_set hy with hy | rfl
  ·have h0:=h.good y hy
   exact⟨(h0.1.below hb).setOut h0.2,h0.2⟩
  ·refine⟨⟨hko,At.setOut hA ho,hle,hm,hn⟩,ho⟩
 ·exact(h.below.trans (hb.mono h.below.size)).setCell h.le _
theorem own_at_s {w:World} {B n size:Nat} {e:TypeId} {v:Value} {xs:List Value}(h:w.ownsRow B e size v n xs):∃p cap,v= .slice p n cap/\n<=cap/\cap<=maxLen/\At w p xs/\xs.length=n*size/\(p=none->cap=0):=by
 have hx:=h.1
 rcases h.2 with⟨hv,h0⟩ | ⟨g,cap,cur,hv,hg,hh,h1,h2,h3,h4⟩
 ·subst h0
  refine⟨none,0,hv,by omega,by decide,Or.inl (List.eq_nil_of_length_eq_zero (by simpa using hx)),hx,fun _=>rfl⟩
 ·refine⟨_,cap,hv,h1,h2,Or.inr ⟨g,0,rfl,fun i u hu=>?_⟩,hx,fun h=>by cases h⟩
  have:=h.cells (g:=g) (by rw[hv];rfl) i u hu
  rwa [Addr.add_mid]at this
theorem copyFacts_any (xs:List Fac)(p:Option Addr)(n c:Nat)(w:World)(h:sF.Told w p n c xs)(hn:n<=1000)(hB:∀x∈xs,x.B.length<=100000):
 Calls Tryz.prog 11 #[.slice p n c] w fun e w'=>∃q c',e= .returned (.slice q n c')/\sF.Told w' q n c' xs/\Below w.heap.size w w':=by
 have HX:=Lib.hid h
 have HBB:=Lib.hid hB
 have m1:=h.max
 have m2:=h.le
 obtain⟨ys0,hys,hyl,hA,hgd,hfl⟩:=h.rows'
 have HYS:=Lib.hid hys
 have HYL:=Lib.hid hyl
 have HA:=Lib.hid hA
 have HGD:=Lib.hid hgd
 have HFL:=Lib.hid hfl
 have hnil:=h.nil
 clear h hB hys hyl hA hgd hfl
 have HO:=Lib.hid (World.ownsRow_made (base:=w.heap.size) (size:=38) (e:=28) w #[] 0 (Nat.le_refl _) (by decide) rfl)
 go_enter Tryz.func11,Tryz.ntmps11
 go_wp2_with (at_builtin;refine wpList_app_s rfl (.tmp 5) (.tmp 6) 30 rfl w.heap.size 28 (size:=38) (by decide) Tryz.underlying30 fact_all3 fzero_size _ 0 [] rfl HO.out p n c (ys0.flatMap sF.row) rfl (HA.out.alloc _) HFL.out hnil m2 (Shp.flat_one ys0) (by omega) (by unfold maxLen;omega) (by simp) ?_;intro v2 w2 hown2 hgr2 _;rw[Nat.zero_add,List.nil_append]at hown2;have HB2:=Lib.hid (((Below.refl w.heap.size w).alloc (Nat.le_refl _) _).grown hgr2 (by simp) (fun k hk=>row_base HO.out k hk));have HW2:=Lib.hid hown2;clear hown2 hgr2)
 by_cases hn0:n=0
 ·subst hn0
  have hx0:xs= []:=by rw[<-HYS.out,List.eq_nil_of_length_eq_zero HYL.out];rfl
  obtain⟨q2,c2,rfl,hc2,hm2,_,_,hq2⟩:=own_at_s HW2.out
  go_wp2_with fail
  go_loopw [4] (fun i wr=>i= .int .i64 0/\w2=wr) (fun i _=>(intOf i).toNat)
  case atStart=>exact⟨rfl,rfl⟩
  case round=>
   obtain⟨rfl,rfl⟩:=hrel
   go_wp2_with fail
   go_ret
   exact⟨q2,c2,rfl,by rw[hx0];exact⟨rfl,hc2,by unfold maxLen at hm2;omega,hq2,Shp.At.none_ _ _⟩,HB2.out⟩
 ·obtain⟨g,cap,rest,rfl,hg,hnc,hcm,hbk⟩:=own_blk_s HW2.out (by omega)
  have hcm':cap<=9223372036854775807:=by unfold maxLen at hcm;omega
  have HC:=Lib.hid (show CpF w g xs ys0 rest w2 from⟨HYS.out,hbk,fun y hy=>⟨(HGD.out y hy).below HB2.out,OutOf.old (HGD.out y hy).at_ hg⟩,HB2.out,hg⟩)
  clear hbk HW2 HA HGD HYS HYL HFL HO hg hcm
  go_wp2_with fail
  go_loopw [4] (fun i wr=>∃(k:Nat) (ys:List (Hd Fac)),i= .int .i64 k/\k<=n/\Hid (ys.length=n)/\Hid (CpF w g xs ys rest wr)) (fun i _=>n - (intOf i).toNat)
  case atStart=>exact⟨0,ys0,rfl,by omega,Lib.hid (by have:=congrArg List.length HC.out.is;rw[List.length_map]at this;rw[this,HX.out.len]),HC⟩
  case round=>
   clear HC
   obtain⟨k,ys,rfl,hk,HYL,HC⟩:=hrel
   by_cases hlt:k < n
   ·have hky:k < ys.length:=by rw[HYL.out];exact hlt
    have hmem:=HC.out.good ys[k] (List.getElem_mem hky)
    have hr:=flat_cell HC.out.blk (fun y hy=>(HC.out.good y hy).1.ok) k hky
    obtain⟨x,q,qc,hy⟩:∃x q qc,ys[k] = (x,q,qc):=⟨_,_,_,rfl⟩
    have hx:x∈xs:=by rw[<-HC.out.is];exact List.mem_map.2 ⟨ys[k],List.getElem_mem hky,by rw[hy]⟩
    have hx2:=HBB.out x hx
    rw[hy]at hmem hr
    obtain⟨m,hm⟩:∃m,m=x.B.length:=⟨_,rfl⟩
    rw[<-hm]at hx2
    have a1:wr.cell? ⟨g,k*38+37,none⟩=some (.slice q m qc):=by
     have:=hr 37 (.slice q x.B.length qc) (fcells_B hmem.1.ok.len _ _)
     rw[hm];exact this
    have HM:=Lib.hid hm
    have HY:=Lib.hid hy
    have HG:=Lib.hid hmem
    have HKY:=Lib.hid hky
    have HU:=Lib.hid (World.ownsRow_made (base:=wr.heap.size) (size:=1) (e:=5) wr #[] 0 (Nat.le_refl _) (by decide) rfl)
    have HGW:=Lib.hid HC.out.blk.lt
    have a2:(wr.alloc (Obj.cells #[] 5)).cell? ⟨g,k*38+37,none⟩=some (.slice q m qc):=by
     rw[((Below.refl wr.heap.size wr).alloc (Nat.le_refl _) (Obj.cells #[] 5)).cell HGW.out];exact a1
    clear hm hy hmem hr hx
    go_wp2_with (at_builtin;refine wpList_app rfl (.tmp 16) (.tmp 21) 26 rfl wr.heap.size 5 Tryz.underlying26 kbyte_info rfl _ 0 [] rfl HU.out q m qc (x.B.map v8) rfl (HG.out.1.at_.alloc _) (by simp[HM.out]) HG.out.1.nil (by rw[HM.out];exact HG.out.1.le) (kone8 _) (by omega) (by unfold maxLen;omega) (by simp) ?_;intro v6 w6 hown6 _ hb6 hs6 _;simp only[Nat.zero_add,List.nil_append]at hown6;obtain⟨q6,c6,rfl,hle6,hcm6,hA6,_,hq6⟩:=own_at_s hown6;have hb6':Below wr.heap.size wr w6:=((Below.refl wr.heap.size wr).alloc (Nat.le_refl _) _).trans hb6;have hK6:=HC.out.blk.below hb6' HGW.out;have f1:w6.frozen? ⟨g,k*38+37,none⟩=false:=hK6.free _;have c1:w6.cell? ⟨g,k*38+37,none⟩=some (.slice q m qc):=(by rw[hb6'.cell HGW.out];exact a1);have HO6:=Lib.hid (show OutOf g x.B q6 from fun _ a ha e=>by have h1:=row_base hown6 a.block (by rw[ha];rfl);have h2:=HGW.out;omega);have HB6:=Lib.hid hb6';have HA6:=Lib.hid hA6;have HQ6:=Lib.hid hq6;clear hown6 hb6 hb6' hK6 hA6 hq6)
    go_roundw
    case rel=>exact⟨k+1,ys.set k (x,q6,c6),by go_num,by omega,Lib.hid (by rw[List.length_set];exact HYL.out),Lib.hid (by
     have:=HC.out.next k HKY.out HB6.out q6 c6 (by rw[HY.out];exact HA6.out) (by rw[HY.out];rw[<-HM.out];exact hle6) (by unfold maxLen at hcm6;omega) HQ6.out (by rw[HY.out];exact HO6.out)
     rw[HY.out]at this
     rw[HM.out];exact this)⟩
    case measure=>simp[intOf];omega
   ·obtain rfl:k=n:=by omega
    go_wp2_with fail
    go_ret
    have HT:=HC.out
    exact⟨_,cap,rfl,⟨HX.out.len,hnc,hcm',(fun h=>by cases h),⟨ys,HT.is,At.ofBlk HT.blk,fun y hy=>(HT.good y hy).1⟩⟩,HT.below⟩
end
section
open Go.RowKit Sha Fct
theorem info_K:(Tryz.prog.info? 95).map (fun i=>(i.zero,i.size,i.bytes))=some (some (.agg (kcells (0,Fld.zero32) none 0).toArray),33,40):=by unfold kcells;kernel_rfl
theorem isize_K:(Tryz.prog.info? 95).map (fun i=>i.size)=some 33:=by
 have h:=info_K
 cases hq:Tryz.prog.info? 95 with
 | none=>rw[hq]at h;cases h
 | some i=>rw[hq]at h;simp at h;simp[h.2.1]
theorem zlen_K:(kcells (0,Fld.zero32) none 0).length=33:=by unfold kcells;simp[Fld.zero32]
theorem zsize_K:(Value.agg (kcells (0,Fld.zero32) none 0).toArray).cells.size=33:=by simp only[Value.cells,List.size_toArray];exact zlen_K
theorem execOp_sliceK (ρ:Operand->Value)(dst:Option Tmp)(x:Operand)(lo hi:Option Operand)(ty:TypeId)(pos:String)(after:Array Edge)(guard:Option (Nat×Bool)):
 execOp ρ {dst:=dst,op:=.slice 42 x lo hi none,type:=ty,pos:=pos,after:=after,guard:=guard}= sliceOp 42 (ρ x) (lo.map ρ) (hi.map ρ):=by unfold sliceOp;rfl
def InsK (w:World)(B:Nat)(v:Value)(n:Nat)(xs:List Value)(e:Ending)(w':World):Prop:=
 ∃v',e= .returned v'/\w'.ownsRow B 95 33 v' n xs/\w.grownBy w' v.ownBlock/\(∀g,v'.ownBlock=some g->v.ownBlock=some g\/w.heap.size<=g)
attribute [local go_sem ↓] execOp_sliceK
theorem cut_lK (p:Option Addr)(len cap k:Nat)(hk:k<=len)(hc:len<=cap)(w:World):(sliceOp 42 (.slice p len cap) (some (.int .i64 k)) none).run Tryz.prog w= .ok (.value (.slice (if cap=k then p else p.map (·.add (k*33))) (len - k) (cap - k))) w:=
 run_sliceOp (run_cutS_l Tryz.underlying42 isize_K p len cap k hk hc w)
theorem cut_hK (p:Option Addr)(len cap k:Nat)(hk:k<=cap)(w:World):(sliceOp 42 (.slice p len cap) none (some (.int .i64 k))).run Tryz.prog w= .ok (.value (.slice p k cap)) w:=
 run_sliceOp (run_cutS_h Tryz.underlying42 isize_K p len cap k hk w)
theorem insEnd_K (w:World)(B:Nat)(v:Value)(n:Nat)(xs:List Value)(ho:w.ownsRow B 95 33 v n xs)(pb:Nat)(c:List Value)(hc:c.length=33)(h1:∀u∈c,u.oneCell'=true)(hb:Blk w pb c 95)(hn:n<=1000000000)(hB:B<=w.heap.size):
 Calls Tryz.prog 174 #[v,.int .i64 n,.slice (some ⟨pb,0,none⟩) 1 1] w (InsK w B v (n+1) (xs++c)):=by
 obtain⟨p,cap,rfl,hle,hmx,hA,hB2,hnil⟩:=own_at_s ho
 have k1:=cut_lK p n cap n (Nat.le_refl _) hle w
 generalize(if cap=n then p else p.map (·.add (n*33)))=p1 at *
 have HO:=Lib.hid ho
 have hA1:=Lib.hid (show At w (some ⟨pb,0,none⟩) c from At.ofBlk (rest:=[]) (by simpa using hb))
 have HC:=Lib.hid hc
 have H1:=Lib.hid h1
 clear ho hc h1 hb hA hB2 hnil
 unfold maxLen at hmx
 go_enter Tryz.func174,Tryz.ntmps174
 go_wp2_with (at_builtin;refine wpList_app_s rfl (.tmp 23) (.tmp 24) 42 rfl B 95 (size:=33) (by omega) Tryz.underlying42 info_K zsize_K _ n xs rfl HO.out (some ⟨pb,0,none⟩) 1 1 c rfl hA1.out (by rw[HC.out]) (fun h=>by cases h) (Nat.le_refl _) H1.out (by omega) (by unfold maxLen;omega) hB ?_;intro v7 w7 hown7 hg7 hat7;have O7:=Lib.hid hown7;have G7:=Lib.hid hg7;have A7:=Lib.hid hat7;clear hown7 hg7 hat7)
 go_ret
 exact⟨v7,rfl,O7.out,G7.out,A7.out⟩
theorem over_K (w:World)(pb g o lb cb:Nat) {c cs:List Value} {tp tg:TypeId}(hp:Blk w pb c tp)(hg:Blk w g cs tg)(hne:pb≠g)(hcs:cs≠[]):
 (callFunc 188 #[.slice (some ⟨pb,0,none⟩) 1 1,.slice (some ⟨g,o,none⟩) lb cb]).run Tryz.prog w= .ok (.value (.bool false)) w:=by
 have hsz:=isize_K
 rw[run_callFunc_extern Tryz.func188 (by kernel_rfl) (by kernel_rfl) (by kernel_rfl) (e:=Extern.SlicesOverlaps.overlaps #[42,42] #[4]) (by kernel_rfl),
  Lib.run_overlaps_apart w 42 4 95 Tryz.underlying42 33 (size_ofS isize_K) ⟨pb,0,none⟩ ⟨g,o,none⟩ 1 1 lb cb hne tp tg c.length cs.length (by unfold World.shape?;rw[hp];rfl) (by unfold World.shape?;rw[hg];rfl) (by simpa using hcs) (hp.free 0) (hp.free _)]
 rfl
theorem insIn_K (w:World)(B g n cap i:Nat)(A D R:List Value)(hA:A.length=i*33)(hD:D.length=(n - i)*33)(hR:R.length=(cap - n)*33)(hi:i < n)(hcap:n+1<=cap)(hm:cap<=maxLen)(hBg:B<=g)(hg:Blk w g (A++D++R) 95)
 (hAD1:∀u∈A++D,u.oneCell'=true) (pb:Nat) (c:List Value) (hc:c.length=33) (h1:∀u∈c,u.oneCell'=true) (hb:Blk w pb c 95) (hne:pb≠g):
 Calls Tryz.prog 174 #[.slice (some ⟨g,0,none⟩) n cap,.int .i64 i,.slice (some ⟨pb,0,none⟩) 1 1] w (InsK w B (.slice (some ⟨g,0,none⟩) n cap) (n+1) (A++c++D)):=by
 unfold maxLen at hm
 have hDR:(D++R).length=(cap - i)*33:=by rw[List.length_append,hD,hR,<-Nat.add_mul];congr 1;omega
 -- the room is parted
 have hL1:((D++R).take 33).length=33:=by rw[List.length_take,hDR];have:1*33<=(cap - i)*33:=Nat.mul_le_mul_right _ (by omega);omega
 have hL2:(((D++R).drop 33).take D.length).length=D.length:=by
  rw[List.length_take,List.length_drop,hDR,hD]
  have:(n - i)*33+1*33<=(cap - i)*33:=by rw[<-Nat.add_mul];exact Nat.mul_le_mul_right _ (by omega)
  omega
 have hparts:A++D++R=(A++(D++R).take 33)++((D++R).drop 33).take D.length++((D++R).drop 33).drop D.length:=by
  rw[List.append_assoc (A++_),List.take_append_drop,List.append_assoc A ((D++R).take _),List.take_append_drop,List.append_assoc]
 generalize(D++R).take 33=L1 at *
 generalize((D++R).drop 33).take D.length=L2 at *
 generalize((D++R).drop 33).drop D.length=L3 at *
 have hgd:Blk w.drew g (A++D++R) 95:=hg
 have hgp:=hgd
 rw[hparts]at hgp
 have hg2:Blk (w.drew.setCells g ((i+1)*33) D) g ((A++L1)++D++L3) 95:=Blk.setCells D _ _ _ _ _ hgp (by rw[List.length_append,hA,hL1,Nat.add_mul,Nat.one_mul]) hL2
 have hg2':Blk (w.drew.setCells g ((i+1)*33) D) g (A++L1++(D++L3)) 95:=by rw[<-List.append_assoc];exact hg2
 have hg3:Blk ((w.drew.setCells g ((i+1)*33) D).setCells g (i*33) c) g (A++c++(D++L3)) 95:=Blk.setCells c _ _ _ _ _ hg2' hA (by rw[hL1,hc])
 have hpb2:Blk (w.drew.setCells g ((i+1)*33) D) pb c 95:=by
  unfold Blk;rw[setCells_heap g D _ w.drew pb hne];exact hb
 have hlen2:((A++L1)++D++L3).length=(A++D++R).length:=by rw[hparts];simp[hL2]
 have hlenW:(A++D++R).length=cap*33:=by
  rw[List.append_assoc,List.length_append,hA,hDR,<-Nat.add_mul];congr 1;omega
 have cp1:=run_copyS (P:=Tryz.prog) w.drew Tryz.underlying42 isize_K g ((i+1)*33) (n+1 - (i+1)) (cap - (i+1)) ⟨g,i*33,none⟩ (n+1 - i) (cap - i) (n - i) D (by simp only[Nat.min_def];split<;>omega) hD (cells_in hgd hA)
  (hgd.there _ _ (by rw[hlenW,hD,<-Nat.add_mul];exact Nat.mul_le_mul_right _ (by omega))) (fun u hu=>hAD1 u (List.mem_append_right _ hu))
 have cp2:=run_copyS (P:=Tryz.prog) (w.drew.setCells g ((i+1)*33) D) Tryz.underlying42 isize_K g (i*33) (n+1 - i) (cap - i) ⟨pb,0,none⟩ 1 1 1 c (by simp only[Nat.min_def];split<;>omega) (by rw[hc,Nat.one_mul]) (cells_in (pre:=[]) (post:=[]) (by simpa using hpb2) rfl)
  (hg2.there _ _ (by rw[hlen2,hlenW,hc,<-Nat.succ_mul];exact Nat.mul_le_mul_right _ (by omega))) h1
 have k0:=cut_lK (some ⟨g,0,none⟩) n cap i (by omega) (by omega) w
 have k1:∀W,(sliceOp 42 (.slice (some ⟨g,0,none⟩) n cap) none (some (.int .i64 ((n:Int)+1)))).run Tryz.prog W= .ok (.value (.slice (some ⟨g,0,none⟩) (n+1) cap)) W:=fun W=>cut_hK (some ⟨g,0,none⟩) n cap (n+1) hcap W
 have k2:∀W,(sliceOp 42 (.slice (some ⟨g,0,none⟩) (n+1) cap) (some (.int .i64 ((i:Int)+1))) none).run Tryz.prog W= .ok (.value (.slice (some ⟨g,(i+1)*33,none⟩) (n+1 - (i+1)) (cap - (i+1)))) W:=fun W=>by
  have h:=cut_lK (some ⟨g,0,none⟩) (n+1) cap (i+1) (by omega) hcap W
  rw[if_neg (by omega)]at h
  simpa[Addr.add_mid]using h
 have k3:∀W,(sliceOp 42 (.slice (some ⟨g,0,none⟩) (n+1) cap) (some (.int .i64 (i:Int))) none).run Tryz.prog W= .ok (.value (.slice (some ⟨g,i*33,none⟩) (n+1 - i) (cap - i))) W:=fun W=>by
  have h:=cut_lK (some ⟨g,0,none⟩) (n+1) cap i (by omega) hcap W
  rw[if_neg (by omega)]at h
  simpa[Addr.add_mid]using h
 have hov:=over_K w pb g ((i+1)*33) (n+1 - (i+1)) (cap - (i+1)) hb hg hne (by
  intro h0;rw[h0]at hlenW
  have:1*33<=cap*33:=Nat.mul_le_mul_right _ (by omega)
  simp at hlenW;omega)
 generalize(if cap=i then(some (⟨g,0,none⟩:Addr))else(some (⟨g,0,none⟩:Addr)).map (·.add (i*33)))=p0 at *
 have hwr1:IntKind.i64.wrap ((i:Int)+1)=(i:Int)+1:=by rw[IntKind.wrap_i64];omega
 have hni:((i:Int) == (n:Int))=false:=by rw[beq_eq_false_iff_ne];omega
 have hroom:decide ((cap:Int) < (n:Int)+1)=false:=by rw[decide_eq_false_iff_not];omega
 have hgr:w.grownBy ((w.drew.setCells g ((i+1)*33) D).setCells g (i*33) c) (some g):=by
  have h2:=setCells_below (a:=w.drew) (B:=g) (Nat.le_refl _) D ((i+1)*33) w.drew (Below.refl _ _)
  have h3:=setCells_below (a:=w.drew) (B:=g) (Nat.le_refl _) c (i*33) _ h2
  exact⟨h3.os,h3.tape,h3.output,h3.size,fun k hk hn=>by
   have hkg:k≠g:=fun e=>hn (by rw[e])
   rw[setCells_heap g c _ _ k hkg,setCells_heap g D _ _ k hkg];rfl⟩
 have hown:=own_ofBlk (B:=B) (n:=n+1) (s:=33) (cap:=cap) (xs:=A++c++D) (rest:=L3) hBg (by rw[List.append_assoc (A++c)];exact hg3) hcap (by unfold maxLen;exact hm)
  (by rw[List.length_append,List.length_append,hA,hc,hD,<-Nat.succ_mul,<-Nat.add_mul];congr 1;omega)
  (by rw[<-hlenW,<-hlen2];simp[hL1,hc]<;>omega)
 have HG:=Lib.hid hgr
 have HO:=Lib.hid hown
 clear hgr hown hg3 hg2 hg2' hgp hgd hg hpb2 hb hparts hlen2 hlenW hL1 hL2 hDR hR hD hA hAD1 h1 hc hne
 generalize w.drew.setCells g ((i+1)*33) D=w1 at *
 generalize w1.setCells g (i*33) c=w2 at *
 generalize n+1 - (i+1)=l2 at *
 generalize cap - (i+1)=c2 at *
 generalize n+1 - i=l3 at *
 generalize cap - i=c3 at *
 go_enter Tryz.func174,Tryz.ntmps174
 go_wp2_with (simp only[hov])
 go_region_law (refine copy_step rfl (.tmp 73) (.tmp 76) 42 42 rfl _ _ (by simp[Act.eval,Act.put]) (by simp[Act.eval,Act.put]) (cp1 _) ?_)
 all_goals
  go_wp2_with (at_builtin;refine copy_law _ rfl (.tmp 80) (.tmp 81) 42 42 rfl _ _ rfl rfl (cp2 _) ?_)
  go_ret
  exact⟨_,rfl,HO.out,HG.out,fun k hk=>Or.inl hk⟩
theorem insGrow_K (w:World)(B g n cap i:Nat)(A D R:List Value)(hA:A.length=i*33)(hD:D.length=(n - i)*33)(hi:i < n)(hn:n<=1000000000)(hle:n<=cap)(hcap:cap < n+1)(hg:Blk w g (A++D++R) 95)
 (hAD1:∀u∈A++D,u.oneCell'=true) (pb:Nat) (c:List Value) (hc:c.length=33) (h1:∀u∈c,u.oneCell'=true) (hb:Blk w pb c 95) (hB:B<=w.heap.size):
 Calls Tryz.prog 174 #[.slice (some ⟨g,0,none⟩) n cap,.int .i64 i,.slice (some ⟨pb,0,none⟩) 1 1] w (InsK w B (.slice (some ⟨g,0,none⟩) n cap) (n+1) (A++c++D)):=by
 obtain⟨i0,hi0,hz0,hz1,hz2⟩:=info_parts info_K
 obtain⟨G,hG⟩:∃G,G=grownCap w (n+1) cap 95:=⟨_,rfl⟩
 obtain⟨N,hN⟩:∃N,N=w.heap.size:=⟨_,rfl⟩
 obtain⟨zz,hzz⟩:∃zz:Value,zz= .agg (kcells (0,Fld.zero32) none 0).toArray:=⟨_,rfl⟩
 rw[<-hzz]at hz0
 have hzs:zz.cells.size=33:=by rw[hzz];exact zsize_K
 have hGn:n+1<=G:=by rw[hG];exact grownCap_ge w _ _ _
 have hGm:G<=maxLen:=by rw[hG];exact grownCap_le_maxLen w (n+1) cap 95 (by unfold maxLen;omega)
 have hap:∀ty,(Builtin.append_ #[42,3] ty #[.slice (some ⟨g,0,none⟩) i cap,.int .i64 ((n:Int)+1 - (i:Int))]).run Tryz.prog w =
  .ok (.slice (some ⟨N,0,none⟩) (n+1) G) (w.drew.alloc (.cells (A.toArray++Builtin.zeroCells zz.cells (n+1 - i)++Builtin.zeroCells zz.cells (G - (n+1))) 95)):=fun ty=>by
  have h:=Lib.run_append_grow_zeros (P:=Tryz.prog) w 42 3 ty 95 i0 zz .i64 .i64 Tryz.underlying42 Tryz.underlying3 hi0 hz0 (some ⟨g,0,none⟩) i cap A
   (by rw[hz1];exact run_firstCells_some w.drew 33 i ⟨g,0,none⟩ i cap A hA (cells_in (w:=w.drew) (pre:=[]) (post:=D++R) (by have h9:Blk w.drew g (A++D++R) 95:=hg;simpa using h9) rfl))
   (n+1 - i) (by omega) (by rw[hz1];omega) (by omega) (by omega) (by rw[hz2];omega) (by rw[hz2];exact growslice_fits (by omega) (by omega))
  rw[show i+(n+1 - i)=n+1 by omega]at h
  rw[show(n:Int)+1 - (i:Int)=((n+1 - i:Nat):Int) by omega,hG,hN]
  exact h
 obtain⟨Z1,hZ1⟩:∃Z1,Z1=(Builtin.zeroCells zz.cells (n+1 - i)).toList:=⟨_,rfl⟩
 obtain⟨Z2,hZ2⟩:∃Z2,Z2=(Builtin.zeroCells zz.cells (G - (n+1))).toList:=⟨_,rfl⟩
 have lZ1:Z1.length=(n+1 - i)*33:=by rw[hZ1,Array.length_toList,size_zeroCells,hzs]
 have lZ2:Z2.length=(G - (n+1))*33:=by rw[hZ2,Array.length_toList,size_zeroCells,hzs]
 have hrow:A.toArray++Builtin.zeroCells zz.cells (n+1 - i)++Builtin.zeroCells zz.cells (G - (n+1))=(A++Z1++Z2).toArray:=by
  rw[hZ1,hZ2];simp
 rw[hrow]at hap
 have b1:Blk (w.drew.alloc (.cells (A++Z1++Z2).toArray 95)) N (A++Z1++Z2) 95:=by rw[hN];exact Blk.new w.drew _ 95
 have g1:Blk (w.drew.alloc (.cells (A++Z1++Z2).toArray 95)) g (A++D++R) 95:=Blk.old (w:=w.drew) hg _
 have p1:Blk (w.drew.alloc (.cells (A++Z1++Z2).toArray 95)) pb c 95:=Blk.old (w:=w.drew) hb _
 have hgN:g≠N:=by have:=hg.lt;omega
 have hpN:pb≠N:=by have:=hb.lt;omega
 have hbw1:Below w.heap.size w (w.drew.alloc (.cells (A++Z1++Z2).toArray 95)):=(Below.refl _ w).drew.alloc (Nat.le_refl _) _
 generalize w.drew.alloc (.cells (A++Z1++Z2).toArray 95)=w1 at *
 have l1:(Z1.take 33).length=33:=by rw[List.length_take,lZ1];have:1*33<=(n+1 - i)*33:=Nat.mul_le_mul_right _ (by omega);omega
 have l2:(Z1.drop 33).length=D.length:=by
  rw[List.length_drop,lZ1,hD,show n+1 - i=(n - i)+1 by omega,Nat.succ_mul,Nat.add_sub_cancel]
 have b1':Blk w1 N (A++Z1.take 33++(Z1.drop 33++Z2)) 95:=by
  rw[List.append_assoc A,<-List.append_assoc (Z1.take _),List.take_append_drop,<-List.append_assoc];exact b1
 have b2:Blk (w1.setCells N (i*33) c) N (A++c++(Z1.drop 33++Z2)) 95:=Blk.setCells c _ _ _ _ _ b1' hA (by rw[l1,hc])
 have g2:Blk (w1.setCells N (i*33) c) g (A++D++R) 95:=by unfold Blk;rw[setCells_heap N c _ w1 g hgN];exact g1
 have lN:(A++Z1++Z2).length=G*33:=by
  rw[List.length_append,List.length_append,hA,lZ1,lZ2,<-Nat.add_mul,<-Nat.add_mul];congr 1;omega
 have lN2:(A++c++(Z1.drop 33++Z2)).length=G*33:=by
  rw[List.length_append,List.length_append,List.length_append,hA,hc,l2,hD,lZ2,<-Nat.succ_mul,<-Nat.add_mul,<-Nat.add_mul];congr 1;omega
 have cp1:=run_copyS (P:=Tryz.prog) w1 Tryz.underlying42 isize_K N (i*33) (n+1 - i) (G - i) ⟨pb,0,none⟩ 1 1 1 c (by simp only[Nat.min_def];split<;>omega) (by rw[hc,Nat.one_mul]) (cells_in (pre:=[]) (post:=[]) (by simpa using p1) rfl)
  (b1.there _ _ (by rw[lN,hc,<-Nat.succ_mul];exact Nat.mul_le_mul_right _ (by omega))) h1
 have b2d:Blk (w1.setCells N (i*33) c).drew N (A++c++(Z1.drop 33++Z2)) 95:=b2
 have g2d:Blk (w1.setCells N (i*33) c).drew g (A++D++R) 95:=g2
 have cp2:=run_copyS (P:=Tryz.prog) (w1.setCells N (i*33) c).drew Tryz.underlying42 isize_K N ((i+1)*33) (n+1 - (i+1)) (G - (i+1)) ⟨g,i*33,none⟩ (n - i) (cap - i) (n - i) D (by simp only[Nat.min_def];split<;>omega) hD (cells_in g2d hA)
  (b2d.there _ _ (by rw[lN2,hD,<-Nat.add_mul];exact Nat.mul_le_mul_right _ (by omega))) (fun u hu=>hAD1 u (List.mem_append_right _ hu))
 have b3:Blk ((w1.setCells N (i*33) c).drew.setCells N ((i+1)*33) D) N ((A++c)++D++Z2) 95:=
  Blk.setCells D _ _ _ _ _ (by rw[<-List.append_assoc]at b2d;exact b2d) (by rw[List.length_append,hA,hc,Nat.succ_mul]) l2
 have hown:=own_ofBlk (B:=B) (n:=n+1) (s:=33) (cap:=G) (xs:=A++c++D) (rest:=Z2) (by omega) b3 hGn hGm
  (by rw[List.length_append,List.length_append,hA,hc,hD,<-Nat.succ_mul,<-Nat.add_mul];congr 1;omega)
  (by rw[List.length_append,List.length_append,List.length_append,hA,hc,hD,lZ2,<-Nat.succ_mul,<-Nat.add_mul,<-Nat.add_mul];congr 1;omega)
 have hgr:w.grownBy ((w1.setCells N (i*33) c).drew.setCells N ((i+1)*33) D) (some g):=by
  have h2:=setCells_below (a:=w) (B:=w.heap.size) (b:=N) (by omega) c (i*33) w1 hbw1
  have h3:=setCells_below (a:=w) (B:=w.heap.size) (b:=N) (by omega) D ((i+1)*33) _ h2.drew
  exact⟨h3.os,h3.tape,h3.output,h3.size,fun k hk _=>h3.block k hk⟩
 have k0:=cut_lK (some ⟨g,0,none⟩) n cap i (by omega) (by omega)
 have hci:¬(cap=i):=by omega
 simp only[if_neg hci,Option.map_some,Addr.add_mid,Nat.zero_add]at k0
 have k1:=cut_hK (some ⟨g,0,none⟩) n cap i (by omega)
 have k2:=cut_lK (some ⟨N,0,none⟩) (n+1) G i (by omega) hGn
 simp only[if_neg (show¬(G=i) by omega),Option.map_some,Addr.add_mid,Nat.zero_add]at k2
 have k3:∀W,(sliceOp 42 (.slice (some ⟨N,0,none⟩) (n+1) G) (some (.int .i64 ((i:Int)+1))) none).run Tryz.prog W= .ok (.value (.slice (some ⟨N,(i+1)*33,none⟩) (n+1 - (i+1)) (G - (i+1)))) W:=fun W=>by
  have h:=cut_lK (some ⟨N,0,none⟩) (n+1) G (i+1) (by omega) hGn W
  rw[if_neg (by omega)]at h
  simpa[Addr.add_mid]using h
 have hwr1:IntKind.i64.wrap ((i:Int)+1)=(i:Int)+1:=by rw[IntKind.wrap_i64];omega
 have hni:((i:Int) == (n:Int))=false:=by rw[beq_eq_false_iff_ne];omega
 have hroom:decide ((cap:Int) < (n:Int)+1)=true:=by rw[decide_eq_true_iff];omega
 have HG:=Lib.hid hgr
 have HO:=Lib.hid hown
 have HNW:=Lib.hid hN
 have HNS:=Lib.hid (show w.heap.size<=N by omega)
 clear hgr hown b3 b2 b2d g2 g2d b1 b1' g1 p1 l1 l2 lZ1 lZ2 lN lN2 hgN hpN hrow hZ1 hZ2 hN hG hGm hzz hz0 hz1 hz2 hzs hi0 hbw1 hg hb hA hD hAD1 hc h1
 generalize w1.setCells N (i*33) c=w2 at *
 generalize w2.drew.setCells N ((i+1)*33) D=w3 at *
 generalize n+1 - (i+1)=l2 at *
 generalize G - (i+1)=c2 at *
 generalize n+1 - i=l3 at *
 generalize G - i=c3 at *
 generalize n - i=l4 at *
 generalize cap - i=c4 at *
 go_enter Tryz.func174,Tryz.ntmps174
 go_wp2_with (first | (at_builtin;refine Lib.wpList_append_run _ rfl (.tmp 34) (.tmp 39) _ _ rfl _ _ rfl rfl _ _ (hap _) ?_) | (refine copy_law _ rfl (.tmp 43) (.tmp 44) 42 42 rfl _ _ rfl rfl (cp1 _) ?_))
 go_region_law (refine copy_step rfl (.tmp 50) (.tmp 53) 42 42 rfl _ _ (by simp[Act.eval,Act.put]) (by simp[Act.eval,Act.put]) (cp2 _) ?_)
 all_goals
  go_wp2_with fail
  go_ret
  exact⟨_,rfl,HO.out,HG.out,fun k hk=>Or.inr (by cases hk;exact HNS.out)⟩
theorem ins_K (w:World)(B:Nat)(v:Value)(n:Nat)(xs:List Value)(ho:w.ownsRow B 95 33 v n xs)(hx1:∀u∈xs,u.oneCell'=true)(i:Nat)(hi:i<=n)(pb:Nat)(c:List Value)(hc:c.length=33)(h1:∀u∈c,u.oneCell'=true)(hb:Blk w pb c 95)(hne:v.ownBlock≠some pb)(hn:n<=1000000000)(hB:B<=w.heap.size):
 Calls Tryz.prog 174 #[v,.int .i64 i,.slice (some ⟨pb,0,none⟩) 1 1] w (InsK w B v (n+1) (xs.take (i*33)++c++xs.drop (i*33))):=by
 by_cases he:i=n
 ·subst he
  have hxl:=ho.1
  rw[List.take_of_length_le (by omega),List.drop_eq_nil_of_le (by omega),List.append_nil]
  exact insEnd_K w B v i xs ho pb c hc h1 hb hn hB
 ·obtain⟨g,cap,rest,rfl,hg,hle,hm,hk,hl,hl2⟩:=own_whole ho (by omega)
  have hpg:pb≠g:=fun e=>hne (by rw[e];rfl)
  have hA:(xs.take (i*33)).length=i*33:=by rw[List.length_take,hl];have:i*33<=n*33:=Nat.mul_le_mul_right _ hi;omega
  have hD:(xs.drop (i*33)).length=(n - i)*33:=by rw[List.length_drop,hl,<-Nat.sub_mul]
  have hR:rest.length=(cap - n)*33:=by rw[List.length_append,hl]at hl2;rw[Nat.sub_mul];omega
  have hk':Blk w g (xs.take (i*33)++xs.drop (i*33)++rest) 95:=by rw[List.take_append_drop];exact hk
  have h1':∀u∈xs.take (i*33)++xs.drop (i*33),u.oneCell'=true:=by rw[List.take_append_drop];exact hx1
  by_cases hc2:n+1<=cap
  ·exact insIn_K w B g n cap i _ _ rest hA hD hR (by omega) hc2 hm hg hk' h1' pb c hc h1 hb hpg
  ·exact insGrow_K w B g n cap i _ _ rest hA hD (by omega) hn hle (by omega) hk' h1' pb c hc h1 hb hB
end
section
variable {P:Program}
def nums (s:ByteArray):List Int:=s.data.toList.map fun b=>(b.toNat:Int)
theorem nums_length (s:ByteArray):(nums s).length=s.size:=by
 unfold nums;rw[List.length_map,Array.length_toList];rfl
attribute [irreducible] nums
section
variable {ops:Array Oper} {rest:List Oper} {o:Oper} {a:Act} {w:World} {Q:Exit->Act->World->Prop} {K:Act->World->Prop}
end
end
end Go.Proofs.YtokpabkcaofahaaGreat
