/-
  What stands under factPuts_holds: part 8.
-/
import Derived.Test.YtokpabkcaofahaaGreatPp6
import Derived.Test.YtokpabkcaofahaaGreatPp7
import Derived.Deep.Quiet
namespace Go.Proofs.YtokpabkcaofahaaGreat
set_option linter.unusedSimpArgs false
set_option linter.unusedVariables false
set_option maxRecDepth 100000
set_option maxHeartbeats 20000000
section
open Go.RowKit Sha Fct
@[irreducible] def convOp (v:Value):Sem Next:=do pure (.value (<-convert 26 9 v))
theorem execOp_conv (ρ:Operand->Value)(dst:Option Tmp)(x:Operand)(ty:TypeId)(pos:String)(after:Array Edge)(guard:Option (Nat×Bool)):
 execOp ρ {dst:=dst,op:=.convert 26 9 x,type:=ty,pos:=pos,after:=after,guard:=guard}= convOp (ρ x):=by unfold convOp;rfl
theorem run_convOp (w:World)(xs:List Int)(n:Nat)(p:Option Addr)(c:Nat)(hn:xs.length=n)(hA:At w p (xs.map v8)):(convOp (.slice p n c)).run Tryz.prog w= .ok (.value (.string (strOfNums xs))) w:=by
 unfold convOp
 simp only[Sem.run_bind,run_conv_at (P:=Tryz.prog) w 26 9 5 Tryz.underlying26 Tryz.underlying5 Tryz.underlying9 xs n p c hn hA,Result.andThen_ok,Sem.run_pure]
theorem execOp_eqlStr (ρ:Operand->Value)(dst:Option Tmp)(x y:Operand)(r:TypeId)(ty:TypeId)(pos:String)(after:Array Edge)(guard:Option (Nat×Bool)):
 execOp ρ {dst:=dst,op:=.binOp .eql 9 x y r,type:=ty,pos:=pos,after:=after,guard:=guard}= eqlOp 9 x y (ρ x) (ρ y):=by unfold eqlOp;rfl
theorem run_eqlStr (x y:Operand)(xs ys:List Int)(hx:∀n∈xs,0<=n/\n<=255)(hy:∀n∈ys,0<=n/\n<=255)(w:World):(eqlOp 9 x y (.string (strOfNums xs)) (.string (strOfNums ys))).run Tryz.prog w= .ok (.value (.bool (decide (xs=ys)))) w:=by
 have h:=strOfNums_inj xs ys hx hy
 unfold eqlOp
 simp only[binOp]
 simp[eqGuard,Op.stringOp,run_underlying Tryz.underlying9]
 simpa using h
attribute [local go_sem ↓] execOp_loadBal execOp_loadId execOp_loadFact execOp_conv execOp_eqlStr execOp_eqlId execOp_boxFact
structure F2 (w0:World)(x y:Fac)(q r:Option Addr)(c d:Nat)(w:World):Prop where
 a:Blk w w0.heap.size (fcells x q c) 28
 b:Blk w (w0.heap.size+1) (fcells y r d) 28
 x:sF.Good w x q c
 y:sF.Good w y r d
 below:Below w0.heap.size w0 w
theorem f2_of {w:World} {x y:Fac} {q r:Option Addr} {c d:Nat}(hx:sF.Good w x q c)(hy:sF.Good w y r d):F2 w x y q r c d ((w.alloc (.cells (fcells x q c).toArray 28)).alloc (.cells (fcells y r d).toArray 28)):=by
 have hz1:(w.alloc (Obj.cells (fcells x q c).toArray 28)).heap.size=w.heap.size+1:=World.size_alloc ..
 have hk0:=(Blk.new w (fcells x q c).toArray 28).old (Obj.cells (fcells y r d).toArray 28)
 have hk1:=Blk.new (w.alloc (Obj.cells (fcells x q c).toArray 28)) (fcells y r d).toArray 28
 rw[hz1]at hk1
 have hb:=((Below.refl w.heap.size w).alloc (Nat.le_refl _) (Obj.cells (fcells x q c).toArray 28)).alloc (by rw[hz1];omega) (Obj.cells (fcells y r d).toArray 28)
 exact⟨hk0,hk1,hx.below hb,hy.below hb,hb⟩
theorem rsame_K (x y:Fac)(q r:Option Addr)(c d:Nat)(w:World)(hx:sF.Good w x q c)(hy:sF.Good w y r d)(nK:¬x.K=y.K):
 Calls Tryz.prog 48 #[.agg (fcells x q c).toArray,.agg (fcells y r d).toArray] w fun e w'=>e= .returned (.bool false)/\Below w.heap.size w w':=by
 have hF:=f2_of hx hy
 have bx:=run_boxOp (P:=Tryz.prog) (t:=28) (cs:=(fcells x q c).toArray) w
 have by_:=run_boxOp (P:=Tryz.prog) (t:=28) (cs:=(fcells y r d).toArray) (w.alloc (.cells (fcells x q c).toArray 28))
 have hz1:(w.alloc (Obj.cells (fcells x q c).toArray 28)).heap.size=w.heap.size+1:=World.size_alloc ..
 rw[hz1]at by_
 obtain⟨w2,hw2⟩:∃v,v=(w.alloc (.cells (fcells x q c).toArray 28)).alloc (.cells (fcells y r d).toArray 28):=⟨_,rfl⟩
 rw[<-hw2]at hF by_
 have a0:w2.cell? ⟨w.heap.size,0,none⟩=some (.int .i64 x.K):=(hF.a.cell 0).trans (fcells_K _ _ _)
 have b0:w2.cell? ⟨w.heap.size+1,0,none⟩=some (.int .i64 y.K):=(hF.b.cell 0).trans (fcells_K _ _ _)
 have tK:(x.K == y.K)=false:=by rw[beq_eq_false_iff_ne];exact nK
 have HB:=Lib.hid hF.below
 have HW:=Lib.hid hw2
 clear hF hw2 hx hy nK
 go_enter Tryz.func48,Tryz.ntmps48
 go_wp2_with fail
 go_ret
 exact⟨rfl,HB.out⟩
theorem rsame_S (x y:Fac)(q r:Option Addr)(c d:Nat)(w:World)(hx:sF.Good w x q c)(hy:sF.Good w y r d)(eK:x.K=y.K)(nS:¬x.S=y.S):
 Calls Tryz.prog 48 #[.agg (fcells x q c).toArray,.agg (fcells y r d).toArray] w fun e w'=>e= .returned (.bool false)/\Below w.heap.size w w':=by
 have hF:=f2_of hx hy
 have bx:=run_boxOp (P:=Tryz.prog) (t:=28) (cs:=(fcells x q c).toArray) w
 have by_:=run_boxOp (P:=Tryz.prog) (t:=28) (cs:=(fcells y r d).toArray) (w.alloc (.cells (fcells x q c).toArray 28))
 have hz1:(w.alloc (Obj.cells (fcells x q c).toArray 28)).heap.size=w.heap.size+1:=World.size_alloc ..
 rw[hz1]at by_
 obtain⟨w2,hw2⟩:∃v,v=(w.alloc (.cells (fcells x q c).toArray 28)).alloc (.cells (fcells y r d).toArray 28):=⟨_,rfl⟩
 rw[<-hw2]at hF by_
 have a0:w2.cell? ⟨w.heap.size,0,none⟩=some (.int .i64 x.K):=(hF.a.cell 0).trans (fcells_K _ _ _)
 have b0:w2.cell? ⟨w.heap.size+1,0,none⟩=some (.int .i64 y.K):=(hF.b.cell 0).trans (fcells_K _ _ _)
 have a1:w2.cell? ⟨w.heap.size,1,none⟩=some (.int .i64 x.S):=(hF.a.cell 1).trans (fcells_S _ _ _)
 have b1:w2.cell? ⟨w.heap.size+1,1,none⟩=some (.int .i64 y.S):=(hF.b.cell 1).trans (fcells_S _ _ _)
 have tK:(x.K == y.K)=true:=by rw[beq_iff_eq];exact eK
 have tS:(x.S == y.S)=false:=by rw[beq_eq_false_iff_ne];exact nS
 have HB:=Lib.hid hF.below
 have HW:=Lib.hid hw2
 clear hF hw2 hx hy eK nS
 go_enter Tryz.func48,Tryz.ntmps48
 go_wp2_with fail
 go_ret
 exact⟨rfl,HB.out⟩
theorem rsame_H (x y:Fac)(q r:Option Addr)(c d:Nat)(w:World)(hx:sF.Good w x q c)(hy:sF.Good w y r d)(eK:x.K=y.K)(eS:x.S=y.S)(nH:¬x.H=y.H):
 Calls Tryz.prog 48 #[.agg (fcells x q c).toArray,.agg (fcells y r d).toArray] w fun e w'=>e= .returned (.bool false)/\Below w.heap.size w w':=by
 have hF:=f2_of hx hy
 have bx:=run_boxOp (P:=Tryz.prog) (t:=28) (cs:=(fcells x q c).toArray) w
 have by_:=run_boxOp (P:=Tryz.prog) (t:=28) (cs:=(fcells y r d).toArray) (w.alloc (.cells (fcells x q c).toArray 28))
 have hz1:(w.alloc (Obj.cells (fcells x q c).toArray 28)).heap.size=w.heap.size+1:=World.size_alloc ..
 rw[hz1]at by_
 obtain⟨w2,hw2⟩:∃v,v=(w.alloc (.cells (fcells x q c).toArray 28)).alloc (.cells (fcells y r d).toArray 28):=⟨_,rfl⟩
 rw[<-hw2]at hF by_
 have a0:w2.cell? ⟨w.heap.size,0,none⟩=some (.int .i64 x.K):=(hF.a.cell 0).trans (fcells_K _ _ _)
 have b0:w2.cell? ⟨w.heap.size+1,0,none⟩=some (.int .i64 y.K):=(hF.b.cell 0).trans (fcells_K _ _ _)
 have a1:w2.cell? ⟨w.heap.size,1,none⟩=some (.int .i64 x.S):=(hF.a.cell 1).trans (fcells_S _ _ _)
 have b1:w2.cell? ⟨w.heap.size+1,1,none⟩=some (.int .i64 y.S):=(hF.b.cell 1).trans (fcells_S _ _ _)
 have a2:w2.cell? ⟨w.heap.size,2,none⟩=some (.int .i64 x.H):=(hF.a.cell 2).trans (fcells_H _ _ _)
 have b2:w2.cell? ⟨w.heap.size+1,2,none⟩=some (.int .i64 y.H):=(hF.b.cell 2).trans (fcells_H _ _ _)
 have tK:(x.K == y.K)=true:=by rw[beq_iff_eq];exact eK
 have tS:(x.S == y.S)=true:=by rw[beq_iff_eq];exact eS
 have tH:(x.H == y.H)=false:=by rw[beq_eq_false_iff_ne];exact nH
 have HB:=Lib.hid hF.below
 have HW:=Lib.hid hw2
 clear hF hw2 hx hy eK eS nH
 go_enter Tryz.func48,Tryz.ntmps48
 go_wp2_with fail
 go_ret
 exact⟨rfl,HB.out⟩
theorem rsame_N (x y:Fac)(q r:Option Addr)(c d:Nat)(w:World)(hx:sF.Good w x q c)(hy:sF.Good w y r d)(eK:x.K=y.K)(eS:x.S=y.S)(eH:x.H=y.H)(nN:¬x.N=y.N):
 Calls Tryz.prog 48 #[.agg (fcells x q c).toArray,.agg (fcells y r d).toArray] w fun e w'=>e= .returned (.bool false)/\Below w.heap.size w w':=by
 have hF:=f2_of hx hy
 have bx:=run_boxOp (P:=Tryz.prog) (t:=28) (cs:=(fcells x q c).toArray) w
 have by_:=run_boxOp (P:=Tryz.prog) (t:=28) (cs:=(fcells y r d).toArray) (w.alloc (.cells (fcells x q c).toArray 28))
 have hz1:(w.alloc (Obj.cells (fcells x q c).toArray 28)).heap.size=w.heap.size+1:=World.size_alloc ..
 rw[hz1]at by_
 obtain⟨w2,hw2⟩:∃v,v=(w.alloc (.cells (fcells x q c).toArray 28)).alloc (.cells (fcells y r d).toArray 28):=⟨_,rfl⟩
 rw[<-hw2]at hF by_
 have a0:w2.cell? ⟨w.heap.size,0,none⟩=some (.int .i64 x.K):=(hF.a.cell 0).trans (fcells_K _ _ _)
 have b0:w2.cell? ⟨w.heap.size+1,0,none⟩=some (.int .i64 y.K):=(hF.b.cell 0).trans (fcells_K _ _ _)
 have a1:w2.cell? ⟨w.heap.size,1,none⟩=some (.int .i64 x.S):=(hF.a.cell 1).trans (fcells_S _ _ _)
 have b1:w2.cell? ⟨w.heap.size+1,1,none⟩=some (.int .i64 y.S):=(hF.b.cell 1).trans (fcells_S _ _ _)
 have a2:w2.cell? ⟨w.heap.size,2,none⟩=some (.int .i64 x.H):=(hF.a.cell 2).trans (fcells_H _ _ _)
 have b2:w2.cell? ⟨w.heap.size+1,2,none⟩=some (.int .i64 y.H):=(hF.b.cell 2).trans (fcells_H _ _ _)
 have lc:(loadOp 23 (.pointer (some ⟨w.heap.size,3,none⟩))).run Tryz.prog w2= .ok (.value (.agg #[.int .i64 x.N,.int .i64 x.O])) w2:=load_fbal (o:=0) hF.a.range
 have ld:(loadOp 23 (.pointer (some ⟨w.heap.size+1,3,none⟩))).run Tryz.prog w2= .ok (.value (.agg #[.int .i64 y.N,.int .i64 y.O])) w2:=load_fbal (o:=0) hF.b.range
 have tK:(x.K == y.K)=true:=by rw[beq_iff_eq];exact eK
 have tS:(x.S == y.S)=true:=by rw[beq_iff_eq];exact eS
 have tH:(x.H == y.H)=true:=by rw[beq_iff_eq];exact eH
 have tN:(x.N == y.N)=false:=by rw[beq_eq_false_iff_ne];exact nN
 have HB:=Lib.hid hF.below
 have HW:=Lib.hid hw2
 clear hF hw2 hx hy eK eS eH nN
 go_enter Tryz.func48,Tryz.ntmps48
 go_wp2_with fail
 go_ret
 exact⟨rfl,HB.out⟩
theorem rsame_O (x y:Fac)(q r:Option Addr)(c d:Nat)(w:World)(hx:sF.Good w x q c)(hy:sF.Good w y r d)(eK:x.K=y.K)(eS:x.S=y.S)(eH:x.H=y.H)(eN:x.N=y.N)(nO:¬x.O=y.O):
 Calls Tryz.prog 48 #[.agg (fcells x q c).toArray,.agg (fcells y r d).toArray] w fun e w'=>e= .returned (.bool false)/\Below w.heap.size w w':=by
 have hF:=f2_of hx hy
 have bx:=run_boxOp (P:=Tryz.prog) (t:=28) (cs:=(fcells x q c).toArray) w
 have by_:=run_boxOp (P:=Tryz.prog) (t:=28) (cs:=(fcells y r d).toArray) (w.alloc (.cells (fcells x q c).toArray 28))
 have hz1:(w.alloc (Obj.cells (fcells x q c).toArray 28)).heap.size=w.heap.size+1:=World.size_alloc ..
 rw[hz1]at by_
 obtain⟨w2,hw2⟩:∃v,v=(w.alloc (.cells (fcells x q c).toArray 28)).alloc (.cells (fcells y r d).toArray 28):=⟨_,rfl⟩
 rw[<-hw2]at hF by_
 have a0:w2.cell? ⟨w.heap.size,0,none⟩=some (.int .i64 x.K):=(hF.a.cell 0).trans (fcells_K _ _ _)
 have b0:w2.cell? ⟨w.heap.size+1,0,none⟩=some (.int .i64 y.K):=(hF.b.cell 0).trans (fcells_K _ _ _)
 have a1:w2.cell? ⟨w.heap.size,1,none⟩=some (.int .i64 x.S):=(hF.a.cell 1).trans (fcells_S _ _ _)
 have b1:w2.cell? ⟨w.heap.size+1,1,none⟩=some (.int .i64 y.S):=(hF.b.cell 1).trans (fcells_S _ _ _)
 have a2:w2.cell? ⟨w.heap.size,2,none⟩=some (.int .i64 x.H):=(hF.a.cell 2).trans (fcells_H _ _ _)
 have b2:w2.cell? ⟨w.heap.size+1,2,none⟩=some (.int .i64 y.H):=(hF.b.cell 2).trans (fcells_H _ _ _)
 have lc:(loadOp 23 (.pointer (some ⟨w.heap.size,3,none⟩))).run Tryz.prog w2= .ok (.value (.agg #[.int .i64 x.N,.int .i64 x.O])) w2:=load_fbal (o:=0) hF.a.range
 have ld:(loadOp 23 (.pointer (some ⟨w.heap.size+1,3,none⟩))).run Tryz.prog w2= .ok (.value (.agg #[.int .i64 y.N,.int .i64 y.O])) w2:=load_fbal (o:=0) hF.b.range
 have tK:(x.K == y.K)=true:=by rw[beq_iff_eq];exact eK
 have tS:(x.S == y.S)=true:=by rw[beq_iff_eq];exact eS
 have tH:(x.H == y.H)=true:=by rw[beq_iff_eq];exact eH
 have tN:(x.N == y.N)=true:=by rw[beq_iff_eq];exact eN
 have tO:(x.O == y.O)=false:=by rw[beq_eq_false_iff_ne];exact nO
 have HB:=Lib.hid hF.below
 have HW:=Lib.hid hw2
 clear hF hw2 hx hy eK eS eH eN nO
 go_enter Tryz.func48,Tryz.ntmps48
 go_wp2_with fail
 go_ret
 exact⟨rfl,HB.out⟩
theorem rsame_D (x y:Fac)(q r:Option Addr)(c d:Nat)(w:World)(hx:sF.Good w x q c)(hy:sF.Good w y r d)(eK:x.K=y.K)(eS:x.S=y.S)(eH:x.H=y.H)(eN:x.N=y.N)(eO:x.O=y.O):
 Calls Tryz.prog 48 #[.agg (fcells x q c).toArray,.agg (fcells y r d).toArray] w fun e w'=>e= .returned (.bool (decide (x.D=y.D) && decide (x.B=y.B)))/\Below w.heap.size w w':=by
 have hF:=f2_of hx hy
 have bx:=run_boxOp (P:=Tryz.prog) (t:=28) (cs:=(fcells x q c).toArray) w
 have by_:=run_boxOp (P:=Tryz.prog) (t:=28) (cs:=(fcells y r d).toArray) (w.alloc (.cells (fcells x q c).toArray 28))
 have hz1:(w.alloc (Obj.cells (fcells x q c).toArray 28)).heap.size=w.heap.size+1:=World.size_alloc ..
 rw[hz1]at by_
 obtain⟨w2,hw2⟩:∃v,v=(w.alloc (.cells (fcells x q c).toArray 28)).alloc (.cells (fcells y r d).toArray 28):=⟨_,rfl⟩
 rw[<-hw2]at hF by_
 have a0:w2.cell? ⟨w.heap.size,0,none⟩=some (.int .i64 x.K):=(hF.a.cell 0).trans (fcells_K _ _ _)
 have b0:w2.cell? ⟨w.heap.size+1,0,none⟩=some (.int .i64 y.K):=(hF.b.cell 0).trans (fcells_K _ _ _)
 have a1:w2.cell? ⟨w.heap.size,1,none⟩=some (.int .i64 x.S):=(hF.a.cell 1).trans (fcells_S _ _ _)
 have b1:w2.cell? ⟨w.heap.size+1,1,none⟩=some (.int .i64 y.S):=(hF.b.cell 1).trans (fcells_S _ _ _)
 have a2:w2.cell? ⟨w.heap.size,2,none⟩=some (.int .i64 x.H):=(hF.a.cell 2).trans (fcells_H _ _ _)
 have b2:w2.cell? ⟨w.heap.size+1,2,none⟩=some (.int .i64 y.H):=(hF.b.cell 2).trans (fcells_H _ _ _)
 have lc:(loadOp 23 (.pointer (some ⟨w.heap.size,3,none⟩))).run Tryz.prog w2= .ok (.value (.agg #[.int .i64 x.N,.int .i64 x.O])) w2:=load_fbal (o:=0) hF.a.range
 have ld:(loadOp 23 (.pointer (some ⟨w.heap.size+1,3,none⟩))).run Tryz.prog w2= .ok (.value (.agg #[.int .i64 y.N,.int .i64 y.O])) w2:=load_fbal (o:=0) hF.b.range
 have tK:(x.K == y.K)=true:=by rw[beq_iff_eq];exact eK
 have tS:(x.S == y.S)=true:=by rw[beq_iff_eq];exact eS
 have tH:(x.H == y.H)=true:=by rw[beq_iff_eq];exact eH
 have tN:(x.N == y.N)=true:=by rw[beq_iff_eq];exact eN
 have tO:(x.O == y.O)=true:=by rw[beq_iff_eq];exact eO
 have la:(loadOp 25 (.pointer (some ⟨w.heap.size,5,none⟩))).run Tryz.prog w2= .ok (.value (.agg (x.D.map v8).toArray)) w2:=load_fid (o:=0) hF.x.ok.len hF.a.range
 have lb:(loadOp 25 (.pointer (some ⟨w.heap.size+1,5,none⟩))).run Tryz.prog w2= .ok (.value (.agg (y.D.map v8).toArray)) w2:=load_fid (o:=0) hF.y.ok.len hF.b.range
 obtain⟨m,hm⟩:∃m,m=x.B.length:=⟨_,rfl⟩
 obtain⟨k,hk⟩:∃k,k=y.B.length:=⟨_,rfl⟩
 have a5:w2.cell? ⟨w.heap.size,37,none⟩=some (.slice q m c):=by rw[hm];exact(hF.a.cell 37).trans (fcells_B hF.x.ok.len _ _)
 have b5:w2.cell? ⟨w.heap.size+1,37,none⟩=some (.slice r k d):=by rw[hk];exact(hF.b.cell 37).trans (fcells_B hF.y.ok.len _ _)
 have ca:=run_convOp w2 x.B m q c hm.symm hF.x.at_
 have cb:=run_convOp w2 y.B k r d hk.symm hF.y.at_
 have es:=fun o1 o2=>run_eqlStr o1 o2 x.B y.B hF.x.ok.B hF.y.ok.B w2
 obtain⟨bb,hbb⟩:∃b,b=decide (x.B=y.B):=⟨_,rfl⟩
 rw[<-hbb]at es
 obtain⟨bd,hbd⟩:∃b,b=decide (x.D=y.D):=⟨_,rfl⟩
 have ei:=fun o1 o2=>run_eqlId o1 o2 x.D y.D hF.x.ok.len hF.y.ok.len bd hbd w2
 rw[<-hbb,<-hbd]
 generalize strOfNums x.B=sx at *
 generalize strOfNums y.B=sy at *
 clear hm hk hbb hbd
 have HB:=Lib.hid hF.below
 have HW:=Lib.hid hw2
 clear hF hw2 hx hy eK eS eH eN eO
 cases bd with
 | true=>
    go_enter Tryz.func48,Tryz.ntmps48
    go_wp2_with fail
    go_ret
    exact⟨by simp,HB.out⟩
 | false=>
    go_enter Tryz.func48,Tryz.ntmps48
    go_wp2_with fail
    go_ret
    exact⟨by simp,HB.out⟩
theorem rsame_any (x y:Fac)(q r:Option Addr)(c d:Nat)(w:World)(hx:sF.Good w x q c)(hy:sF.Good w y r d):
 Calls Tryz.prog 48 #[.agg (fcells x q c).toArray,.agg (fcells y r d).toArray] w fun e w'=>e= .returned (.bool (decide (x=y)))/\Below w.heap.size w w':=by
 rw[fac_ext]
 by_cases eK:x.K=y.K
 ·by_cases eS:x.S=y.S
  ·by_cases eH:x.H=y.H
   ·by_cases eN:x.N=y.N
    ·by_cases eO:x.O=y.O
     ·simp only[decide_eq_true eK,decide_eq_true eS,decide_eq_true eH,decide_eq_true eN,decide_eq_true eO,Bool.true_and]
      exact rsame_D x y q r c d w hx hy eK eS eH eN eO
     ·simp only[decide_eq_false eO,Bool.and_false,Bool.false_and]
      exact rsame_O x y q r c d w hx hy eK eS eH eN eO
    ·simp only[decide_eq_false eN,Bool.and_false,Bool.false_and]
     exact rsame_N x y q r c d w hx hy eK eS eH eN
   ·simp only[decide_eq_false eH,Bool.and_false,Bool.false_and]
    exact rsame_H x y q r c d w hx hy eK eS eH
  ·simp only[decide_eq_false eS,Bool.and_false,Bool.false_and]
   exact rsame_S x y q r c d w hx hy eK eS
 ·simp only[decide_eq_false eK,Bool.false_and]
  exact rsame_K x y q r c d w hx hy eK
end
section
inductive Way | quiet | fresh | into
section
variable {P:Program} {ops:Array Oper} {md:Region.Mode} {C:World->Prop} {way:Nat->Way} {V:Nat->Value}
abbrev ptrN (g:Nat):Value:=.pointer (some ⟨g,0,none⟩)
def StoresN (ops:Array Oper)(V:Nat->Value)(i:Nat)(a:Act):Prop:=∃o ty x y,ops[i]? = some o/\o.guard=none/\o.dst=none/\o.op= .store ty (.tmp x) (.tmp y)/\a.eval (.tmp y)=V i
def nOp (P:Program)(ops:Array Oper)(C:World->Prop)(way:Nat->Way)(V:Nat->Value)(i:Nat)(K:Act->Prop)(a:Act):Prop:=
 match way i with
 | .quiet=>qOp P ops C i K a
 | .fresh=>∃o,ops[i]? = some o/\o.guard=none/\∀g:Nat,K (a.put o.dst (ptrN g))
 | .into=>StoresN ops V i a/\K a
theorem nOp_mono {i:Nat} {a:Act} {K K':Act->Prop}(h:∀a,K a->K' a)(hh:nOp P ops C way V i K a):nOp P ops C way V i K' a:=by
 unfold nOp at *
 split
 ·rename_i e;simp only[e]at hh;exact qOp_mono h hh
 ·rename_i e;simp only[e]at hh;obtain⟨o,h1,h2,h3⟩:=hh;exact⟨o,h1,h2,fun g=>h _ (h3 g)⟩
 ·rename_i e;simp only[e]at hh;exact⟨hh.1,h _ hh.2⟩
theorem StoresN.put {j:Nat} {oj:Oper} {a:Act} {d:Option Tmp} {v:Value}(hj:ops[j]? = some oj)(hd:∀t,d=some t->t∉oj.looksAt ops):StoresN ops V j (a.put d v)↔StoresN ops V j a:=by
 have key:∀(o:Oper) ty x y,ops[j]? = some o->o.op= .store ty (.tmp x) (.tmp y)->(a.put d v).eval (.tmp y)=a.eval (.tmp y):=by
  intro o ty x y ho hop
  refine Act.eval_put fun t ht he=>?_
  have e:o=oj:=Option.some.inj (ho.symm.trans hj)
  subst e
  refine hd t ht (List.mem_append_left _ (List.mem_filterMap.2 ⟨.tmp y,?_,?_⟩))
  ·rw[hop];simp[Op.operands]
  ·cases he;rfl
 constructor
 ·rintro⟨o,ty,x,y,h1,h2,h3,h4,h5⟩
  exact⟨o,ty,x,y,h1,h2,h3,h4,by rw[<-key o ty x y h1 h4];exact h5⟩
 ·rintro⟨o,ty,x,y,h1,h2,h3,h4,h5⟩
  exact⟨o,ty,x,y,h1,h2,h3,h4,by rw[key o ty x y h1 h4];exact h5⟩
theorem nOp_put {j:Nat} {oi oj:Oper} {v:Value}(hj:ops[j]? = some oj)(hap:oi.apart ops oj=true)
 (hsi:∀cs b,oi.op≠.select cs b) (hsj:∀cs b,oj.op≠.select cs b) {K:Act->Prop} {a:Act}
 (hy:YieldsIn P ops C oi v a) (h:nOp P ops C way V j K (a.put oi.dst v)):
 nOp P ops C way V j (fun a'=>YieldsIn P ops C oi v a'/\K (a'.put oi.dst v)) a:=by
 obtain⟨h1,h2,h3⟩:=Oper.apart_spec hap
 have keep:∀(a:Act),YieldsIn P ops C oi v a->∀u,YieldsIn P ops C oi v (a.put oj.dst u):=fun a hy u=>
  hy.of_same (execOp_put oi hsi a oj.dst u h3) (wanted_put oi a oj.dst u h3)
 unfold nOp at *
 split
 ·rename_i e;simp only[e]at h;exact qOp_put hj hap hsi hsj hy h
 ·rename_i e;simp only[e]at h
  obtain⟨o,ho,hg,hn⟩:=h
  have eo:o=oj:=Option.some.inj (ho.symm.trans hj)
  subst eo
  exact⟨o,ho,hg,fun g=>⟨keep a hy _,by rw[<-Act.put_comm a v _ h2];exact hn g⟩⟩
 ·rename_i e;simp only[e]at h
  exact⟨(StoresN.put hj h1).1 h.1,hy,h.2⟩
def wpAnyN (P:Program)(md:Region.Mode)(ops:Array Oper)(C:World->Prop)(way:Nat->Way)(V:Nat->Value)(Q:Array Bool->Act->Prop):Nat->Array Bool->Act->Prop
 | 0,listed,a=>Region.ready md ops listed= []/\Q listed a
 | fuel+1,listed,a=>
    (Region.ready md ops listed= []->Q listed a)/\
    ∀i∈Region.ready md ops listed,nOp P ops C way V i (wpAnyN P md ops C way V Q fuel (listed.setIfInBounds i true)) a
theorem noEdge {i j:Nat} {oj:Oper} {listed:Array Bool}(hr:i∈Region.ready md ops listed)(hall:∀e∈oj.after,Region.binds md e=true->listed.getD e.on false=true):∀e∈oj.after,Region.binds md e=true->e.on≠i:=fun e he hb heq=>by
 have h1:=hall e he hb
 have h0:=(mem_ready.1 hr).1
 rw[heq]at h1
 rcases Nat.lt_or_ge i listed.size with h' | h'
 ·simp[h']at h0 h1;rw[h0]at h1;cases h1
 ·simp[Array.getElem?_eq_none h']at h1
theorem wpAnyN_first {Q:Array Bool->Act->Prop} {i:Nat} {oi:Oper} {v:Value}(hi:ops[i]? = some oi)(hw:way i= .quiet)(hsel:∀(j:Nat)(o:Oper) cs b,ops[j]? = some o->o.op≠.select cs b):
 ∀(fuel:Nat) (listed:Array Bool) (a:Act),
  (∀j oj,ops[j]? = some oj->j≠i->listed.getD j true=false->(∀e∈oj.after,Region.binds md e=true->e.on≠i)->oi.apart ops oj=true)->
  i∈Region.ready md ops listed->YieldsIn P ops C oi v a->
  wpAnyN P md ops C way V Q fuel (listed.setIfInBounds i true) (a.put oi.dst v)->wpAnyN P md ops C way V Q (fuel+1) listed a:=by
 intro fuel
 induction fuel with
 | zero=>
    intro listed a _ hr hy H
    refine⟨fun h=>(by rw[h]at hr;cases hr),fun j hj=>?_⟩
    by_cases hji:j=i
    ·subst hji;unfold nOp;simp only[hw];exact hy.qOp hi H
    ·have:=ready_mono hj hji
     rw[H.1]at this
     cases this
 | succ fuel ih=>
    intro listed a hfree hr hy H
    refine⟨fun h=>(by rw[h]at hr;cases hr),fun j hj=>?_⟩
    by_cases hji:j=i
    ·subst hji;unfold nOp;simp only[hw];exact hy.qOp hi H
    ·have h1:=H.2 j (ready_mono hj hji)
     obtain⟨hjun,oj,hoj,hall⟩:=mem_ready.1 hj
     have hnot:=noEdge (i:=i) hr hall (j:=j)
     have h2:=nOp_put hoj (hfree j oj hoj hji hjun hnot) (fun cs b=>hsel i oi cs b hi) (fun cs b=>hsel j oj cs b hoj) hy h1
     have hfree':∀k ok,ops[k]? = some ok->k≠i->(listed.setIfInBounds j true).getD k true=false->
      (∀e∈ok.after,Region.binds md e=true->e.on≠i)->oi.apart ops ok=true:=fun k ok hk hki hun hno=>by
      refine hfree k ok hk hki ?_ hno
      by_cases hjk:j=k
      ·subst hjk;exact hjun
      ·rw[getD_set_ne true hjk]at hun;exact hun
     refine nOp_mono (fun a' h3=>ih (listed.setIfInBounds j true) a' hfree' (ready_mono hr (Ne.symm hji)) h3.1 ?_) h2
     rw[Array.setIfInBounds_comm _ _ hji]
     exact h3.2
theorem wpAnyN_fresh {Q:Array Bool->Act->Prop} {i:Nat} {oi:Oper}(hi:ops[i]? = some oi)(hw:way i= .fresh)(hg:oi.guard=none):
 ∀(fuel:Nat) (listed:Array Bool) (a:Act),
  (∀j oj,ops[j]? = some oj->j≠i->listed.getD j true=false->(∀e∈oj.after,Region.binds md e=true->e.on≠i)->oi.apart ops oj=true/\way j≠.quiet)->
  i∈Region.ready md ops listed->
  (∀g:Nat,wpAnyN P md ops C way V Q fuel (listed.setIfInBounds i true) (a.put oi.dst (ptrN g)))->wpAnyN P md ops C way V Q (fuel+1) listed a:=by
 intro fuel
 induction fuel with
 | zero=>
    intro listed a _ hr H
    refine⟨fun h=>(by rw[h]at hr;cases hr),fun j hj=>?_⟩
    by_cases hji:j=i
    ·subst hji;unfold nOp;simp only[hw];exact⟨oi,hi,hg,H⟩
    ·have:=ready_mono hj hji
     rw[(H 0).1]at this
     cases this
 | succ fuel ih=>
    intro listed a hfree hr H
    refine⟨fun h=>(by rw[h]at hr;cases hr),fun j hj=>?_⟩
    by_cases hji:j=i
    ·subst hji;unfold nOp;simp only[hw];exact⟨oi,hi,hg,H⟩
    ·have h1:=fun g=>(H g).2 j (ready_mono hj hji)
     obtain⟨hjun,oj,hoj,hall⟩:=mem_ready.1 hj
     have hnot:=noEdge (i:=i) hr hall (j:=j)
     obtain⟨hap,hq⟩:=hfree j oj hoj hji hjun hnot
     obtain⟨p1,p2,p3⟩:=Oper.apart_spec hap
     have hfree':∀k ok,ops[k]? = some ok->k≠i->(listed.setIfInBounds j true).getD k true=false->
      (∀e∈ok.after,Region.binds md e=true->e.on≠i)->oi.apart ops ok=true/\way k≠.quiet:=fun k ok hk hki hun hno=>by
      refine hfree k ok hk hki ?_ hno
      by_cases hjk:j=k
      ·subst hjk;exact hjun
      ·rw[getD_set_ne true hjk]at hun;exact hun
     have hr':=ready_mono hr (Ne.symm hji)
     unfold nOp at h1 ⊢
     split
     ·rename_i e;exact absurd e hq
     ·rename_i e
      simp only[e]at h1
      obtain⟨o,ho,hgo,_⟩:=h1 0
      have eo:o=oj:=Option.some.inj (ho.symm.trans hoj)
      subst eo
      refine⟨o,ho,hgo,fun g'=>ih _ _ hfree' hr' fun g=>?_⟩
      obtain⟨o2,ho2,_,h2⟩:=h1 g
      have eo2:o2=o:=Option.some.inj (ho2.symm.trans ho)
      subst eo2
      rw[Array.setIfInBounds_comm _ _ hji,<-Act.put_comm a (ptrN g) (ptrN g') p2]
      exact h2 g'
     ·rename_i e
      simp only[e]at h1
      refine⟨(StoresN.put hoj p1).1 (h1 0).1,ih _ _ hfree' hr' fun g=>?_⟩
      rw[Array.setIfInBounds_comm _ _ hji]
      exact(h1 g).2
theorem wpAnyN_into {Q:Array Bool->Act->Prop} {i:Nat}(hw:way i= .into):
 ∀(fuel:Nat) (listed:Array Bool) (a:Act),
  (∀j oj,ops[j]? = some oj->j≠i->listed.getD j true=false->way j= .into)->
  i∈Region.ready md ops listed->StoresN ops V i a->
  wpAnyN P md ops C way V Q fuel (listed.setIfInBounds i true) a->wpAnyN P md ops C way V Q (fuel+1) listed a:=by
 intro fuel
 induction fuel with
 | zero=>
    intro listed a _ hr hs H
    refine⟨fun h=>(by rw[h]at hr;cases hr),fun j hj=>?_⟩
    by_cases hji:j=i
    ·subst hji;unfold nOp;simp only[hw];exact⟨hs,H⟩
    ·have:=ready_mono hj hji
     rw[H.1]at this
     cases this
 | succ fuel ih=>
    intro listed a hfree hr hs H
    refine⟨fun h=>(by rw[h]at hr;cases hr),fun j hj=>?_⟩
    by_cases hji:j=i
    ·subst hji;unfold nOp;simp only[hw];exact⟨hs,H⟩
    ·have h1:=H.2 j (ready_mono hj hji)
     obtain⟨hjun,oj,hoj,hall⟩:=mem_ready.1 hj
     have hq:=hfree j oj hoj hji hjun
     unfold nOp at h1 ⊢
     simp only[hq]at h1 ⊢
     refine⟨h1.1,ih _ _ (fun k ok hk hki hun=>?_) (ready_mono hr (Ne.symm hji)) hs ?_⟩
     ·refine hfree k ok hk hki ?_
      by_cases hjk:j=k
      ·subst hjk;exact hjun
      ·rw[getD_set_ne true hjk]at hun;exact hun
     ·rw[Array.setIfInBounds_comm _ _ hji]
      exact h1.2
def wayN (n m i:Nat):Way:=if i < n then .quiet else if i < m then .fresh else .into
theorem wayN_quiet {n m i:Nat}(h:i < n):wayN n m i= .quiet:=by unfold wayN;rw[if_pos h]
theorem wayN_fresh {n m i:Nat}(h:n<=i)(h2:i < m):wayN n m i= .fresh:=by unfold wayN;rw[if_neg (by omega),if_pos h2]
theorem wayN_into {n m i:Nat}(h:n<=i)(h2:m<=i):wayN n m i= .into:=by unfold wayN;rw[if_neg (by omega),if_neg (by omega)]
def wpNew (P:Program)(ops:Array Oper)(C:World->Prop)(V:Nat->Value)(n m:Nat)(Q:Act->Prop):List Oper->Nat->Act->Prop
 | [],_,a=>Q a
 | o::r,k,a=>
    match wayN n m k with
    | .quiet=>qOp P ops C k (wpNew P ops C V n m Q r (k+1)) a
    | .fresh=>o.guard=none/\∀g:Nat,wpNew P ops C V n m Q r (k+1) (a.put o.dst (ptrN g))
    | .into=>StoresN ops V k a/\wpNew P ops C V n m Q r (k+1) a
theorem wpAnyN_lex {Q:Act->Prop} {n m:Nat}(hnm:n<=m)(hs:Region.noSelect ops=true):∀(l:List Oper)(k:Nat)(listed:Array Bool)(a:Act),(∀j,l[j]? = ops[k+j]?)->(∀j,j < k->listed.getD j true=true)->
 Region.lexFrom md ops l.length k listed=true->wpNew P ops C V n m Q l k a->wpAnyN P md ops C (wayN n m) V (fun listed' a'=>(∀j,j < ops.size->listed'.getD j true=true)/\Q a') l.length listed a
 | [],k,listed,a,hl,hk,hB,h=>⟨by simpa[Region.lexFrom]using hB,fun j hj=>hk j (by
    rcases Nat.lt_or_ge j k with h1 | h1
    ·exact h1
    ·have h2:=hl (j - k)
     rw[show k+(j - k)=j by omega,Array.getElem?_eq_getElem hj]at h2
     cases h2),h⟩
 | o::l,k,listed,a,hl,hk,hB,h=>by
    have h0:ops[k]? = some o:=by simpa using(hl 0).symm
    simp only[List.length_cons,Region.lexFrom,Bool.and_eq_true]at hB
    obtain⟨⟨hr,hf⟩,hB'⟩:=hB
    have hr':k∈Region.ready md ops listed:=by simpa using hr
    have hlt:k < ops.size:=(Array.getElem?_eq_some_iff.1 h0).1
    have hk':∀j,j < k+1->(listed.setIfInBounds k true).getD j true=true:=fun j hj=>by
     by_cases e:k=j
     ·subst e
      rcases Nat.lt_or_ge k listed.size with h1 | h1
      ·simp[h1]
      ·simp[Array.getElem?_eq_none h1]
     ·rw[getD_set_ne true e];exact hk j (by omega)
    have hun:∀j,listed.getD j true=false->k<=j:=fun j hj=>by
     rcases Nat.lt_or_ge j k with h1 | h1
     ·rw[hk j h1]at hj;cases hj
     ·exact h1
    have hl':∀j,l[j]? = ops[k+1+j]?:=fun j=>by have:=hl (j+1);simpa[Nat.add_assoc,Nat.add_comm 1 j]using this
    have hfr:=fun j oj h1 h2 h3 h4=>Region.free_spec (i:=k) (listed:=listed) h0 hf j oj h1 h2 h3 h4
    unfold wpNew at h
    rcases Nat.lt_or_ge k n with hkn | hkn
    ·rw[wayN_quiet hkn]at h
     obtain⟨v,hy,hK⟩:=yieldsIn_of_qOp h0 h
     exact wpAnyN_first h0 (wayN_quiet hkn) (Region.noSelect_spec hs) l.length listed a hfr hr' hy (wpAnyN_lex hnm hs l (k+1) _ _ hl' hk' hB' hK)
    ·rcases Nat.lt_or_ge k m with hkm | hkm
     ·rw[wayN_fresh hkn hkm]at h
      refine wpAnyN_fresh h0 (wayN_fresh hkn hkm) h.1 l.length listed a (fun j oj h1 h2 h3 h4=>⟨hfr j oj h1 h2 h3 h4,fun e=>?_⟩) hr' (fun g=>wpAnyN_lex hnm hs l (k+1) _ _ hl' hk' hB' (h.2 g))
      have:=hun j h3
      unfold wayN at e
      rw[if_neg (by omega)]at e
      split at e<;>cases e
     ·rw[wayN_into hkn hkm]at h
      exact wpAnyN_into (wayN_into hkn hkm) l.length listed a (fun j oj h1 h2 h3=>wayN_into (by have:=hun j h3;omega) (by have:=hun j h3;omega)) hr' h.1 (wpAnyN_lex hnm hs l (k+1) _ _ hl' hk' hB' h.2)
theorem wpNew_quiet {Q:Act->Prop} {n m:Nat}(s:List Oper):∀(q:List Oper)(k:Nat)(a:Act),(∀j,j < q.length->q[j]? = ops[k+j]?)->k+q.length<=n->
 wpQuiet P ops C (fun a'=>wpNew P ops C V n m Q s (k+q.length) a') q a->wpNew P ops C V n m Q (q++s) k a
 | [],k,a,_,_,h=>by simpa[wpQuiet]using h
 | o::q,k,a,hl,hn,h=>by
    have h0:ops[k]? = some o:=by simpa using(hl 0 (by simp)).symm
    simp only[List.length_cons]at hn
    rw[List.cons_append]
    unfold wpNew
    rw[wayN_quiet (by omega)]
    have hq:qOp P ops C k (wpQuiet P ops C (fun a'=>wpNew P ops C V n m Q s (k+(o::q).length) a') q) a:=by unfold qOp;simp only[h0];exact h
    refine qOp_mono (fun a' h'=>wpNew_quiet s q (k+1) a' (fun j hj=>?_) (by omega) ?_) hq
    ·have:=hl (j+1) (by simp;omega)
     simpa[Nat.add_assoc,Nat.add_comm 1 j]using this
    ·rw[show k+1+q.length=k+(o::q).length by simp;omega];exact h'
end
end
section
open Go.RowKit Sha
section
variable {P:Program} {ops:Array Oper} {md:Region.Mode} {C:World->Prop} {V:Nat->Value}
def plainB (o:Oper):Bool:=match o.op with
 | .move _ | .assign _ | .pick _ _ _ | .build _ _ | .load _ _ | .fieldAddr _ _ _ | .indexAddr _ _ _ | .binOp _ _ _ _ _ | .convert _ _ _=>true
 | _=>false
theorem run_value_ok {s:Sem Value} {w w':World} {x:Next}(h:(do pure (Next.value (<-s)):Sem Next).run P w= .ok x w'):∃u,x= .value u:=by
 rw[Sem.run_bind]at h
 cases hs:s.run P w with
 | ok u w1=>rw[hs]at h;simp only[Result.andThen,Sem.run_pure]at h;cases h;exact⟨u,rfl⟩
 | halt y w1=>rw[hs]at h;simp only[Result.andThen]at h;cases h
theorem plain_value {o:Oper}(hp:plainB o=true) {ρ:Operand->Value} {w w':World} {x:Next}(h:(execOp ρ o).run P w= .ok x w'):∃u,x= .value u:=by
 unfold execOp at h
 unfold plainB at hp
 split at hp
 all_goals(try cases hp)
 all_goals(rename_i e;simp only[e]at h)
 ·simp only[Sem.run_pure]at h;cases h;exact⟨_,rfl⟩
 ·simp only[Sem.run_pure]at h;cases h;exact⟨_,rfl⟩
 all_goals first
  | exact run_value_ok h
  | (exact run_value_ok (s:=do pure (if<-asBool _ then _ else _)) (by simpa[Sem.run_bind,Sem.run_pure]using h))
structure NewE where
 al:Nat
 st:Nat
 slot:Nat
 ty:TypeId
 zs:List Value
 cs:List Value
structure NewsOK (P:Program)(md:Region.Mode)(ops:Array Oper)(n m:Nat)(V:Nat->Value)(E:List NewE):Prop where
 al:∀e∈E,∃o,ops[e.al]? = some o/\o.guard=none/\o.dst=some e.slot/\o.op= .alloc e.ty
 st:∀e∈E,∃o y,ops[e.st]? = some o/\o.guard=none/\o.dst=none/\o.op= .store e.ty (.tmp e.slot) (.tmp y)
 zero:∀e∈E,(P.info? e.ty).map (fun i=>i.zero)=some (some (.agg e.zs.toArray))
 size:∀e∈E,(P.info? e.ty).map (fun i=>i.size)=some e.cs.length/\e.zs.length=e.cs.length
 one:∀e∈E,e.cs.toArray.all (·.oneCell')=true
 val:∀e∈E,V e.st= .agg e.cs.toArray
 wait:∀e∈E,Region.waitsFor md ops e.st e.al=true
 way_al:∀e∈E,wayN n m e.al= .fresh
 way_st:∀e∈E,wayN n m e.st= .into
 fresh:∀i,wayN n m i= .fresh->i < ops.size->∃e∈E,e.al=i
 into:∀i,wayN n m i= .into->i < ops.size->∃e∈E,e.st=i
 inj_al:∀e∈E,∀e'∈E,e.al=e'.al->e=e'
 inj_st:∀e∈E,∀e'∈E,e.st=e'.st->e=e'
 other:∀i o,ops[i]? = some o->∀e∈E,i≠e.al->o.dst≠some e.slot
 plain:∀i o,wayN n m i= .quiet->ops[i]? = some o->plainB o=true
structure RelN (B:Nat)(w0:World)(E:List NewE)(listed:Array Bool)(a:Act)(w:World):Prop where
 below:Below B w0 w
 room:B<=w.heap.size
 closed:∀e∈E,listed.getD e.st false=true->listed.getD e.al false=true
 news:∀e∈E,listed.getD e.al false=true->∃g,a.eval (.tmp e.slot)=ptrN g/\B<=g/\Blk w g (if listed.getD e.st false=true then e.cs else e.zs) e.ty
 slots:∀e∈E,e.slot < a.tmps.size
 apart:∀e∈E,∀e'∈E,e≠e'->listed.getD e.al false=true->listed.getD e'.al false=true->a.eval (.tmp e.slot)≠a.eval (.tmp e'.slot)
theorem getD_replicate_falseN (m j:Nat):(Array.replicate m false).getD j false=false:=by
 rcases Nat.lt_or_ge j m with h | h
 ·simp[h]
 ·simp[h]
theorem getD_set_self {listed:Array Bool} {i:Nat}(h:i < listed.size):(listed.setIfInBounds i true).getD i false=true:=by simp[h]
theorem eval_put_other {a:Act} {d:Option Tmp} {t:Tmp} {v:Value}(h:d≠some t):(a.put d v).eval (.tmp t)=a.eval (.tmp t):=Act.eval_put fun x hx he=>h (by rw[hx];cases he;rfl)
theorem size_putN (a:Act)(d:Option Tmp)(v:Value):(a.put d v).tmps.size=a.tmps.size:=by
 cases d<;>simp[Act.put]
theorem eval_put_self {a:Act} {t:Tmp} {v:Value}(h:t < a.tmps.size):(a.put (some t) v).eval (.tmp t)=v:=by
 simp[Act.put,Act.eval,h]
theorem RelN.quiet {B n m:Nat} {w0 w:World} {E:List NewE} {listed:Array Bool} {a:Act} {i:Nat} {o:Oper}(S:NewsOK P md ops n m V E)(R:RelN B w0 E listed a w)(hi:ops[i]? = some o)(hw:wayN n m i= .quiet)(v:Value):RelN B w0 E (listed.setIfInBounds i true) (a.put o.dst v) w:=by
 have ha:∀e∈E,i≠e.al:=fun e he h=>by have:=S.way_al e he;rw[<-h,hw]at this;cases this
 have hs:∀e∈E,i≠e.st:=fun e he h=>by have:=S.way_st e he;rw[<-h,hw]at this;cases this
 refine⟨R.below,R.room,fun e he=>?_,fun e he=>?_,fun e he=>by rw[size_putN];exact R.slots e he,fun e he e' he'=>?_⟩
 ·rw[getD_set_ne false (hs e he),getD_set_ne false (ha e he)];exact R.closed e he
 ·rw[getD_set_ne false (hs e he),getD_set_ne false (ha e he),eval_put_other (S.other i o hi e he (ha e he))];exact R.news e he
 ·rw[getD_set_ne false (ha e he),getD_set_ne false (ha e' he'),eval_put_other (S.other i o hi e he (ha e he)),eval_put_other (S.other i o hi e' he' (ha e' he'))];exact R.apart e he e' he'
theorem RelN.fresh {B n m:Nat} {w0 w:World} {E:List NewE} {listed:Array Bool} {a:Act} {e:NewE}(S:NewsOK P md ops n m V E)(R:RelN B w0 E listed a w)(he:e∈E)(hl:listed.getD e.al true=false)(hz:e.al < listed.size):
 RelN B w0 E (listed.setIfInBounds e.al true) (a.put (some e.slot) (ptrN w.heap.size)) (w.alloc (.cells e.zs.toArray e.ty)):=by
 have hst:∀e'∈E,e.al≠e'.st:=fun e' he' h=>by have h1:=S.way_al e he;have h2:=S.way_st e' he';rw[h,h2]at h1;cases h1
 have hal:∀e'∈E,e'≠e->e.al≠e'.al:=fun e' he' h h2=>h (S.inj_al e he e' he' h2).symm
 have hsl:∀e'∈E,e'≠e->(some e.slot:Option Tmp)≠some e'.slot:=fun e' he' h=>by
  obtain⟨o,ho,_,hd,_⟩:=S.al e he
  have:=S.other e.al o ho e' he' (hal e' he' h)
  rwa [hd]at this
 have hno:listed.getD e.st false=false:=by
  cases h:listed.getD e.st false with
  | false=>rfl
  | true=>have:=R.closed e he h;rw[getD_both hl]at this;cases this
 refine⟨R.below.alloc R.room _,by rw[World.size_alloc];have:=R.room;omega,fun e' he' h=>?_,fun e' he' h=>?_,fun e' he'=>by rw[size_putN];exact R.slots e' he',fun e1 h1 e2 h2 hne l1 l2=>?_⟩
 ·rw[getD_set_ne false (hst e' he')]at h
  exact getD_set_true (R.closed e' he' h)
 ·by_cases hee:e'=e
  ·subst hee
   refine⟨w.heap.size,eval_put_self (R.slots e' he'),R.room,?_⟩
   rw[getD_set_ne false (hst e' he'),hno]
   simpa using Blk.new w e'.zs.toArray e'.ty
  ·rw[getD_set_ne false (hal e' he' hee)]at h
   obtain⟨g,hg,hB,hk⟩:=R.news e' he' h
   refine⟨g,?_,hB,?_⟩
   ·rw[eval_put_other (hsl e' he' hee)];exact hg
   ·rw[getD_set_ne false (hst e' he')];exact hk.old _
 ·by_cases he1:e1=e
  ·subst he1
   have he2:e2≠e1:=fun h=>hne h.symm
   rw[getD_set_ne false (hal e2 h2 he2)]at l2
   obtain⟨g,hg,_,hk⟩:=R.news e2 h2 l2
   rw[eval_put_self (R.slots e1 h1),eval_put_other (hsl e2 h2 he2),hg]
   intro h;have:=hk.lt;simp at h<;>omega
  ·rw[getD_set_ne false (hal e1 h1 he1)]at l1
   by_cases he2:e2=e
   ·subst he2
    obtain⟨g,hg,_,hk⟩:=R.news e1 h1 l1
    rw[eval_put_self (R.slots e2 h2),eval_put_other (hsl e1 h1 he1),hg]
    intro h;have:=hk.lt;simp at h<;>omega
   ·rw[getD_set_ne false (hal e2 h2 he2)]at l2
    rw[eval_put_other (hsl e1 h1 he1),eval_put_other (hsl e2 h2 he2)]
    exact R.apart e1 h1 e2 h2 hne l1 l2
theorem RelN.into {B n m:Nat} {w0 w:World} {E:List NewE} {listed:Array Bool} {a:Act} {e:NewE} {g:Nat}(S:NewsOK P md ops n m V E)(R:RelN B w0 E listed a w)(he:e∈E)(hl:listed.getD e.al false=true)(hz:e.st < listed.size)(hg:a.eval (.tmp e.slot)=ptrN g):
 RelN B w0 E (listed.setIfInBounds e.st true) a (w.setRow g e.cs.toArray):=by
 have hal:∀e'∈E,e.st≠e'.al:=fun e' he' h=>by have h1:=S.way_st e he;have h2:=S.way_al e' he';rw[h,h2]at h1;cases h1
 have hst:∀e'∈E,e'≠e->e.st≠e'.st:=fun e' he' h h2=>h (S.inj_st e he e' he' h2).symm
 obtain⟨g0,hg0,hB0,hk0⟩:=R.news e he hl
 have eg:g0=g:=by rw[hg]at hg0;simpa using hg0.symm
 subst eg
 refine⟨Below.setRow R.below hB0 _,by rw[size_setRow];exact R.room,fun e' he' h=>?_,fun e' he' h=>?_,R.slots,fun e1 h1 e2 h2 hne l1 l2=>?_⟩
 ·rw[getD_set_ne false (hal e' he')]
  by_cases hee:e'=e
  ·subst hee;exact hl
  ·rw[getD_set_ne false (hst e' he' hee)]at h;exact R.closed e' he' h
 ·rw[getD_set_ne false (hal e' he')]at h
  by_cases hee:e'=e
  ·subst hee
   refine⟨g0,hg,hB0,?_⟩
   rw[getD_set_self hz,if_pos rfl]
   exact hk0.row _
  ·obtain⟨g',hg',hB',hk'⟩:=R.news e' he' h
   refine⟨g',hg',hB',?_⟩
   rw[getD_set_ne false (hst e' he' hee)]
   refine hk'.rowOther _ fun h2=>R.apart e' he' e he hee h hl ?_
   rw[hg',hg,h2]
 ·rw[getD_set_ne false (hal e1 h1)]at l1
  rw[getD_set_ne false (hal e2 h2)]at l2
  exact R.apart e1 h1 e2 h2 hne l1 l2
theorem wpAny_of_new {B n m:Nat} {w0:World} {E:List NewE} {Q:Array Bool->Act->Prop} {Q':Exit->Act->World->Prop}(S:NewsOK P md ops n m V E)(hC:∀w',Below B w0 w'->C w')(hQ:∀listed a w,listed.size=ops.size->RelN B w0 E listed a w->Q listed a->Q' .normal a w):
 ∀(fuel:Nat) (listed:Array Bool) (a:Act) (w:World),listed.size=ops.size->RelN B w0 E listed a w->
  wpAnyN P md ops C (wayN n m) V Q fuel listed a->wpAny P md ops Q' fuel listed a w:=by
 intro fuel
 induction fuel with
 | zero=>intro listed a w hsz R h;exact⟨h.1,hQ _ _ _ hsz R h.2⟩
 | succ fuel ih=>
    intro listed a w hsz R h
    refine⟨fun h0=>hQ _ _ _ hsz R (h.1 h0),fun i hi=>?_⟩
    have h1:=h.2 i hi
    obtain⟨hun,o,ho,hall⟩:=mem_ready.1 hi
    have hlt:i < ops.size:=(Array.getElem?_eq_some_iff.1 ho).1
    have hsz':(listed.setIfInBounds i true).size=ops.size:=by simpa using hsz
    unfold nOp at h1
    unfold wpOp
    simp only[ho]
    split at h1
    ·rename_i e
     unfold qOp at h1
     simp only[ho]at h1
     split
     ·rename_i hw
      simp only[hw,if_true]at h1
      left
      obtain⟨v,hv,hK⟩:=h1
      have h3:=hv w (hC w R.below)
      unfold Oper.quietAt at h3
      unfold Oper.wp
      have hp:=fun x w'=>plain_value (P:=P) (S.plain i o e ho) (ρ:=a.eval) (w:=w) (w':=w') (x:=x)
      generalize(execOp a.eval o).run P w=r at *
      cases r with
      | ok x w'=>
         obtain⟨u,rfl⟩:=hp x w' rfl
         simp only[Oper.quietUpon]at h3
         obtain⟨e1,e2⟩:=h3
         subst e1 e2
         exact ih _ _ _ hsz' (R.quiet S ho e _) hK
      | halt x w'=>simp only[Oper.quietUpon]at h3
     ·rename_i hw
      simp only[hw]at h1
      exact ih _ _ _ hsz' (R.quiet S ho e _) h1
    ·rename_i e
     obtain⟨o2,ho2,hgd,hK⟩:=h1
     have eo:o2=o:=Option.some.inj (ho2.symm.trans ho)
     subst eo
     obtain⟨en,hen,hal⟩:=S.fresh i e hlt
     subst hal
     obtain⟨o3,ho3,_,hd,hop⟩:=S.al en hen
     have eo3:o3=o2:=Option.some.inj (ho3.symm.trans ho)
     subst eo3
     have hw:Region.wanted o3 (yielded ops a.tmps)=true:=by unfold Region.wanted;rw[hgd]
     rw[if_pos hw]
     left
     unfold Oper.wp
     have hx:execOp a.eval o3=allocOp en.ty:=by unfold execOp allocOp;rw[hop]
     rw[hx,run_allocOp w (S.zero en hen)]
     show wpAny P md ops Q' fuel _ (a.put o3.dst _) _
     rw[hd]
     refine ih _ _ _ hsz' (R.fresh S hen hun (by omega)) ?_
     rw[<-hd]
     exact hK _
    ·rename_i e
     obtain⟨⟨o2,ty,x,y,ho2,hgd,hd,hop,hv⟩,hK⟩:=h1
     have eo:o2=o:=Option.some.inj (ho2.symm.trans ho)
     subst eo
     obtain⟨en,hen,hst⟩:=S.into i e hlt
     subst hst
     obtain⟨o3,y3,ho3,_,_,hop3⟩:=S.st en hen
     have eo3:o3=o2:=Option.some.inj (ho3.symm.trans ho)
     subst eo3
     rw[hop3]at hop
     cases hop
     have hw:Region.wanted o3 (yielded ops a.tmps)=true:=by unfold Region.wanted;rw[hgd]
     rw[if_pos hw]
     left
     obtain⟨o4,ho4,ed,hed,hb,hon⟩:=Region.waitsFor_spec (S.wait en hen)
     have eo4:o4=o3:=Option.some.inj (ho4.symm.trans ho)
     subst eo4
     have hall':=hall ed hed hb
     rw[hon]at hall'
     obtain⟨g,hg,hB,hk⟩:=R.news en hen hall'
     rw[getD_both hun,if_neg (by simp)]at hk
     unfold Oper.wp
     have hx:execOp a.eval o4=storeOp en.ty (a.eval (.tmp en.slot)) (a.eval (.tmp y)):=by unfold execOp storeOp;rw[hop3]
     rw[hx,hg,hv,S.val en hen,run_storeOp hk (by rw[(S.size en hen).1];simp) (by simpa using(S.size en hen).2) (S.one en hen)]
     show wpAny P md ops Q' fuel _ (a.put o4.dst _) _
     rw[hd]
     exact ih _ _ _ hsz' (R.into S hen hall' (by omega) hg) hK
def NewEnd (w:World)(E:List NewE)(Q':Exit->Act->World->Prop)(a':Act):Prop:=∀w',Below w.heap.size w w'->(∀e∈E,∃g,a'.eval (.tmp e.slot)=ptrN g/\w.heap.size<=g/\Blk w' g e.cs e.ty)->(∀e∈E,∀e'∈E,e≠e'->a'.eval (.tmp e.slot)≠a'.eval (.tmp e'.slot))->Q' .normal a' w'
theorem wp_region_new {id n m:Nat} {E:List NewE} {Q':Exit->Act->World->Prop} {a:Act} {w:World} {l:List Oper}(hm:P.follows .mixedOrders=true)(hB:Region.lexB .any l.toArray=true)(hnm:n<=m)(S:NewsOK P .any l.toArray n m V E)(hC:∀w',Below w.heap.size w w'->C w')(hsl:∀e∈E,e.slot < a.tmps.size)
 (h:wpNew P l.toArray C V n m (NewEnd w E Q') l 0 a):
 (Code.region id l.toArray true).wp P Q' a w:=by
 simp only[Region.lexB,Bool.and_eq_true]at hB
 have hr:RelN w.heap.size w E (Array.replicate l.toArray.size false) a w.drew:=by
  refine⟨(Below.refl _ _).drew,Nat.le_refl _,fun e he h1=>?_,fun e he h1=>?_,hsl,fun e he e' he' _ h1=>?_⟩<;>
  ·rw[getD_replicate_falseN]at h1;cases h1
 refine wp_region_any hm (wpAny_of_new (B:=w.heap.size) (w0:=w) (C:=C) S hC (Q:=fun listed' a'=>(∀j,j < l.toArray.size->listed'.getD j true=true)/\NewEnd w E Q' a') (fun listed a' w' hsz R hq=>?_) _ _ a w.drew (by simp) hr ?_)
 ·have hl:∀i,i < l.toArray.size->listed.getD i false=true:=fun i hi=>by
   have h1:=hq.1 i hi
   rcases Nat.lt_or_ge i listed.size with h2 | h2
   ·simp[h2]at h1 ⊢;exact h1
   ·exact absurd h2 (by omega)
  have hal:∀e∈E,listed.getD e.al false=true:=fun e he=>hl _ (by obtain⟨o,ho,_⟩:=S.al e he;exact(Array.getElem?_eq_some_iff.1 ho).1)
  have hst:∀e∈E,listed.getD e.st false=true:=fun e he=>hl _ (by obtain⟨o,_,ho,_⟩:=S.st e he;exact(Array.getElem?_eq_some_iff.1 ho).1)
  refine hq.2 w' R.below (fun e he=>?_) (fun e he e' he' hne=>R.apart e he e' he' hne (hal e he) (hal e' he'))
  obtain⟨g,h1,h2,h3⟩:=R.news e he (hal e he)
  rw[hst e he,if_pos rfl]at h3
  exact⟨g,h1,h2,h3⟩
 ·have:=wpAnyN_lex (P:=P) (C:=C) (V:=V) (md:=.any) hnm hB.1 l 0 (Array.replicate l.toArray.size false) a (by simp) (fun j hj=>absurd hj (by omega)) (by simpa using hB.2) h
  simpa using this
end
end
section
open Go.RowKit Sha
section
variable {P:Program} {ops:Array Oper} {md:Region.Mode} {V:Nat->Value} {n m:Nat} {E:List NewE}
def alB (ops:Array Oper)(e:NewE):Bool:=match ops[e.al]? with
 | some ⟨some d,.alloc t,_,_,_,none⟩=>decide (d=e.slot) && decide (t=e.ty)
 | _=>false
def stB (ops:Array Oper)(e:NewE):Bool:=match ops[e.st]? with
 | some ⟨none,.store t (.tmp x) (.tmp _),_,_,_,none⟩=>decide (x=e.slot) && decide (t=e.ty)
 | _=>false
def apB (ops:Array Oper)(e:NewE):Bool:=(List.range ops.size).all fun i=>decide (i=e.al) || match ops[i]? with
 | some o=>decide (o.dst≠some e.slot)
 | none=>true
def injB:List NewE->Bool
 | []=>true
 | e::r=>(r.all fun x=>decide (e.al≠x.al) && decide (e.st≠x.st)) && injB r
def newsB (md:Region.Mode)(ops:Array Oper)(n m:Nat)(E:List NewE):Bool:=
 (E.all fun e=>alB ops e && stB ops e && Region.waitsFor md ops e.st e.al && decide (n<=e.al) && decide (e.al < m) && decide (m<=e.st) && apB ops e) && injB E &&
 ((List.range ops.size).all fun i=>decide (i < n) || if i < m then E.any (fun e=>decide (e.al=i))else E.any (fun e=>decide (e.st=i))) &&
 ((List.range n).all fun i=>match ops[i]? with | some o=>plainB o | none=>true)
theorem injB_spec:∀{E:List NewE},injB E=true->∀e∈E,∀e'∈E,(e.al=e'.al\/e.st=e'.st)->e=e':=by
 intro E
 induction E with
 | nil=>intro _ e he;cases he
 | cons x r ih=>
    intro h e he e' he' hh
    simp only[injB,Bool.and_eq_true,List.all_eq_true,decide_eq_true_eq]at h
    rcases List.mem_cons.1 he with h1 | h1
    ·rcases List.mem_cons.1 he' with h2 | h2
     ·rw[h1,h2]
     ·have h3:=h.1 e' h2
      rw[h1]at hh
      exact absurd hh (by rintro(h4 | h4);exact h3.1 h4;exact h3.2 h4)
    ·rcases List.mem_cons.1 he' with h2 | h2
     ·have h3:=h.1 e h1
      rw[h2]at hh
      exact absurd hh (by rintro(h4 | h4);exact h3.1 h4.symm;exact h3.2 h4.symm)
     ·exact ih h.2 e h1 e' h2 hh
theorem newsOK_of (h:newsB md ops n m E=true)(hz:∀e∈E,(P.info? e.ty).map (fun i=>i.zero)=some (some (.agg e.zs.toArray)))
 (hs:∀e∈E,(P.info? e.ty).map (fun i=>i.size)=some e.cs.length/\e.zs.length=e.cs.length) (h1:∀e∈E,e.cs.toArray.all (·.oneCell')=true) (hv:∀e∈E,V e.st= .agg e.cs.toArray):NewsOK P md ops n m V E:=by
 simp only[newsB,Bool.and_eq_true,List.all_eq_true,decide_eq_true_eq,List.mem_range,Bool.or_eq_true]at h
 obtain⟨⟨⟨hE,hi⟩,hw⟩,hp⟩:=h
 have hcase:∀i,n<=i->i < m->wayN n m i= .fresh:=fun i=>wayN_fresh
 refine⟨fun e he=>?_,fun e he=>?_,hz,hs,h1,hv,fun e he=>(hE e he).1.1.1.1.2,fun e he=>wayN_fresh (hE e he).1.1.1.2 (hE e he).1.1.2,fun e he=>wayN_into (by have:=(hE e he).1.1.1.2;have:=(hE e he).1.1.2;have:=(hE e he).1.2;omega) (hE e he).1.2,fun i hf hlt=>?_,fun i hf hlt=>?_,fun e he e' he' h=>injB_spec hi e he e' he' (.inl h),fun e he e' he' h=>injB_spec hi e he e' he' (.inr h),fun i o ho e he hne hd=>?_,fun i o hq ho=>?_⟩
 ·have h2:=(hE e he).1.1.1.1.1.1
  unfold alB at h2
  split at h2
  ·rename_i d t _ _ _ ho
   simp only[Bool.and_eq_true,decide_eq_true_eq]at h2
   exact⟨_,ho,rfl,by rw[h2.1],by rw[h2.2]⟩
  ·cases h2
 ·have h2:=(hE e he).1.1.1.1.1.2
  unfold stB at h2
  split at h2
  ·rename_i t x y _ _ _ ho
   simp only[Bool.and_eq_true,decide_eq_true_eq]at h2
   exact⟨_,y,ho,rfl,rfl,by rw[h2.1,h2.2]⟩
  ·cases h2
 ·have h2:=hw i hlt
  unfold wayN at hf
  split at hf
  ·cases hf
  ·split at hf
   ·rename_i h3 h4
    rcases h2 with h2 | h2
    ·exact absurd h2 h3
    ·rw[if_pos h4]at h2
     obtain⟨e,he,h5⟩:=List.any_eq_true.1 h2
     exact⟨e,he,of_decide_eq_true h5⟩
   ·cases hf
 ·have h2:=hw i hlt
  unfold wayN at hf
  split at hf
  ·cases hf
  ·split at hf
   ·cases hf
   ·rename_i h3 h4
    rcases h2 with h2 | h2
    ·exact absurd h2 h3
    ·rw[if_neg h4]at h2
     obtain⟨e,he,h5⟩:=List.any_eq_true.1 h2
     exact⟨e,he,of_decide_eq_true h5⟩
 ·have h2:=(hE e he).2
  unfold apB at h2
  have h3:=List.all_eq_true.1 h2 i (List.mem_range.2 (Array.getElem?_eq_some_iff.1 ho).1)
  simp only[ho,Bool.or_eq_true,decide_eq_true_eq]at h3
  rcases h3 with h3 | h3
  ·exact hne h3
  ·exact h3 hd
 ·unfold wayN at hq
  split at hq
  ·rename_i h3
   have h4:=hp i h3
   simpa only[ho]using h4
  ·split at hq<;>cases hq
end
end
section
open Go.RowKit Sha
open Fld (Itm)
section
variable {P:Program} {C:World->Prop} {V:Nat->Value} {n m:Nat} {Q:Act->Prop}
theorem wpNew_head {l:List Oper} {a:Act}(hn:n<=l.length)(h:wpQuiet P l.toArray C (fun a'=>wpNew P l.toArray C V n m Q (l.drop n) n a') (l.take n) a):wpNew P l.toArray C V n m Q l 0 a:=by
 have hl:(l.take n).length=n:=by rw[List.length_take];omega
 have:=wpNew_quiet (P:=P) (ops:=l.toArray) (C:=C) (V:=V) (Q:=Q) (n:=n) (m:=m) (l.drop n) (l.take n) 0 a (fun j hj=>by
  rw[List.getElem?_take,if_pos (by omega)];simp) (by omega) (by rw[hl,Nat.zero_add];exact h)
 rwa [List.take_append_drop]at this
def vE (E:List NewE)(i:Nat):Value:=match E.find? (fun e=>decide (e.st=i))with
 | some e=>.agg e.cs.toArray
 | none=>undef
theorem vE_get:∀{E:List NewE},injB E=true->∀e∈E,vE E e.st= .agg e.cs.toArray:=by
 intro E h e he
 unfold vE
 cases hf:E.find? (fun x=>decide (x.st=e.st))with
 | none=>have:=List.find?_eq_none.1 hf e he;simp at this
 | some x=>
    have h1:=List.find?_some hf
    have h2:=injB_spec h x (List.mem_of_find?_eq_some hf) e he (.inr (of_decide_eq_true h1))
    rw[h2]
end
abbrev VarI:=Nat×Nat×Nat×Hdr
def iE (y:VarI):NewE:=⟨y.1,y.2.1,y.2.2.1,83,icells ⟨0,[],Fld.zero32⟩ none 0,cellsI y.2.2.2⟩
theorem newsOK_items {md:Region.Mode} {ops:Array Oper} {n m:Nat} {L:List VarI}(h:newsB md ops n m (L.map iE)=true)(ho:∀y∈L,y.2.2.2.1.ok):NewsOK Tryz.prog md ops n m (vE (L.map iE)) (L.map iE):=by
 have hi:injB (L.map iE)=true:=by
  have h1:=h
  unfold newsB at h1
  simp only[Bool.and_eq_true]at h1
  exact h1.1.1.2
 refine newsOK_of h (fun e he=>?_) (fun e he=>?_) (fun e he=>?_) (vE_get hi)
 ·obtain⟨y,hy,rfl⟩:=List.mem_map.1 he
  exact item_info
 ·obtain⟨y,hy,rfl⟩:=List.mem_map.1 he
  have e1:(cellsI y.2.2.2).length=34:=icells_length (ho y hy) _ _
  have e2:(icells ⟨0,[],Fld.zero32⟩ none 0).length=34:=icells_length ⟨by simp,by simp,by simp,by intro n hn;unfold Fld.zero32 at hn;have:=(List.mem_replicate.1 hn).2;omega,Fld.zero32_length⟩ _ _
  unfold iE
  simp only[e1,e2,item_size]
  exact⟨trivial,trivial⟩
 ·obtain⟨y,hy,rfl⟩:=List.mem_map.1 he
  rw[Array.all_eq_true_iff_forall_mem]
  intro v hv
  exact icells_one _ _ _ v (by simpa[iE,cellsI]using hv)
theorem wp_region_items {id n m:Nat} {L:List VarI} {Q':Exit->Act->World->Prop} {a:Act} {w:World} {l:List Oper} {I:Type} {W:I->World}(hB:Region.lexB .any l.toArray=true)(hnm:n<=m)(hl:n<=l.length)
 (hE:newsB .any l.toArray n m (L.map iE)=true) (hs:((L.map iE).all fun e=>decide (e.slot < a.tmps.size))=true) (ho:∀y∈L,y.2.2.2.1.ok) (hW:Cls w I W)
 (h:wpQuiet Tryz.prog l.toArray (fun w'=>∃n,w'=W n) (fun a'=>wpNew Tryz.prog l.toArray (fun w'=>∃n,w'=W n) (vE (L.map iE)) n m (NewEnd w (L.map iE) Q') (l.drop n) n a') (l.take n) a):
 (Code.region id l.toArray true).wp Tryz.prog Q' a w:=
 wp_region_new (by kernel_rfl) hB hnm (newsOK_items hE ho) hW.all (fun e he=>of_decide_eq_true (List.all_eq_true.1 hs e he)) (wpNew_head hl h)
theorem newEnd_items {w w':World} {L:List VarI} {a':Act}(h:∀e∈L.map iE,∃g,a'.eval (.tmp e.slot)=ptrN g/\w.heap.size<=g/\Blk w' g e.cs e.ty):∀y∈L,∃g,a'.eval (.tmp y.2.2.1)=ptrN g/\w.heap.size<=g/\Blk w' g (cellsI y.2.2.2) 83:=
 fun y hy=>h (iE y) (List.mem_map_of_mem hy)
end
end Go.Proofs.YtokpabkcaofahaaGreat
