/-
  What stands under factPuts_holds: part 7.
-/
import Derived.StillTail
import Derived.Deep.Quiet
import Derived.OrdersIn
import Derived.RangeFuncCalls
import Derived.OwnWalkIn
import Derived.Test.YtokpabkcaofahaaGreatPp6
import Derived.Test.YtokpabkcaofahaaGreatPp2
import Derived.Test.YtokpabkcaofahaaGreatPp1
import Derived.Test.YtokpabkcaofahaaGreatPp3
import Derived.Test.YtokpabkcaofahaaGreatPp5
import Derived.Test.YtokpabkcaofahaaGreatPp4
namespace Go.Proofs.YtokpabkcaofahaaGreat
set_option linter.unusedSimpArgs false
set_option linter.unusedVariables false
set_option maxRecDepth 100000
set_option maxHeartbeats 20000000
section
section
variable {P:Program} {ops:Array Oper} {md:Region.Mode} {C:World->Prop}
def wpHead (P:Program)(md:Region.Mode)(ops:Array Oper)(C:World->Prop)(n:Nat)(L:Array Bool->Act->Prop):Nat->Array Bool->Act->Prop
 | 0,listed,a=>L listed a
 | f+1,listed,a=>Region.ready md ops listed≠[]/\∀i∈Region.ready md ops listed,i < n/\qOp P ops C i (wpHead P md ops C n L f (listed.setIfInBounds i true)) a
theorem wpHead_first {n i:Nat} {oi:Oper} {v:Value} {L:Array Bool->Act->Prop}(hi:ops[i]? = some oi)(hsel:∀(j:Nat)(o:Oper) cs b,ops[j]? = some o->o.op≠.select cs b)
 (hs:Region.sinkB md ops n=true) (hc:Region.chainB md ops n=true) (hn:n < ops.size) (hin:i < n) (hdone:∀listed a,L listed a->∀j∈Region.ready md ops listed,n<=j) (f:Nat):
 ∀(listed:Array Bool) (a:Act),HeadInv md ops n listed->
  (∀j oj,ops[j]? = some oj->j≠i->listed.getD j true=false->(∀e∈oj.after,Region.binds md e=true->e.on≠i)->oi.apart ops oj=true)->
  i∈Region.ready md ops listed->YieldsIn P ops C oi v a->wpHead P md ops C n L f (listed.setIfInBounds i true) (a.put oi.dst v)->wpHead P md ops C n L (f+1) listed a:=by
 induction f with
 | zero=>
    intro listed a inv _ hr hy H
    have hun:=(mem_ready.1 hr).1
    refine⟨List.ne_nil_of_mem hr,fun j hj=>?_⟩
    have hjn:j < n:=Nat.lt_of_not_le fun h=>tail_waits hs hc hn inv _ i rfl hin hun j h hj
    by_cases hji:j=i
    ·subst hji;exact⟨hjn,hy.qOp hi H⟩
    ·have:=hdone _ _ H j (ready_mono hj hji);omega
 | succ f ih=>
    intro listed a inv hfree hr hy H
    have hun:=(mem_ready.1 hr).1
    refine⟨List.ne_nil_of_mem hr,fun j hj=>?_⟩
    have hjn:j < n:=Nat.lt_of_not_le fun h=>tail_waits hs hc hn inv _ i rfl hin hun j h hj
    by_cases hji:j=i
    ·subst hji;exact⟨hjn,hy.qOp hi H⟩
    ·refine⟨hjn,?_⟩
     obtain⟨hjun,oj,hoj,hall⟩:=mem_ready.1 hj
     have hnot:∀e∈oj.after,Region.binds md e=true->e.on≠i:=fun e he hb heq=>by
      have h1:=hall e he hb
      rw[heq,getD_both hun]at h1;cases h1
     refine qOp_mono (fun a' h3=>ih _ a' (inv.set hj hjn) (fun k ok hk hki hku hno=>hfree k ok hk hki ?_ hno) (ready_mono hr (Ne.symm hji)) h3.1 ?_)
      (qOp_put hoj (hfree j oj hoj hji hjun hnot) (fun cs b=>hsel i oi cs b hi) (fun cs b=>hsel j oj cs b hoj) hy (H.2 j (ready_mono hj hji)).2)
     ·by_cases hjk:j=k
      ·subst hjk;exact hjun
      ·rwa [getD_set_ne true hjk]at hku
     ·rw[Array.setIfInBounds_comm _ _ hji];exact h3.2
theorem wpHead_lex {n g:Nat} {Lq:Act->Prop}(hsel:Region.noSelect ops=true)(hs:Region.sinkB md ops n=true)(hc:Region.chainB md ops n=true)(hn:n < ops.size):
 ∀(l:List Oper) (k:Nat) (listed:Array Bool) (a:Act),(∀j,j < l.length->l[j]? = ops[k+j]?)->k+l.length=n->HeadInv md ops n listed->
  Region.lexHead md ops g l.length k listed=true->wpQuiet P ops C Lq l a->wpHead P md ops C n (fun listed' a'=>Region.seqB md ops g n listed'=true/\Lq a') l.length listed a:=by
 intro l
 induction l with
 | nil=>
    intro k listed a _ hk _ hB h
    simp only[List.length_nil,Nat.add_zero]at hk
    subst hk
    exact⟨hB,h⟩
 | cons o l ih=>
    intro k listed a hl hk inv hB h
    have h0:ops[k]? = some o:=(hl 0 (by simp)).symm
    simp only[List.length_cons,Region.lexHead,Bool.and_eq_true]at hB hk
    have hr:k∈Region.ready md ops listed:=by simpa using hB.1.1
    obtain⟨v,hy,hK⟩:=yieldsIn_of_qOp (C:=C) (P:=P) (K:=wpQuiet P ops C Lq l) h0 (by unfold qOp;simp only[h0];exact h)
    exact wpHead_first h0 (Region.noSelect_spec hsel) hs hc hn (by omega) (fun _ _ hL=>seqB_ready hL.1) l.length listed a inv (Region.free_spec h0 hB.1.2) hr hy
     (ih (k+1) _ _ (fun j hj=>by have h1:=hl (j+1) (by simp;omega);rw[List.getElem?_cons_succ]at h1;rw[h1,show k+(j+1)=k+1+j by omega]) (by omega) (inv.set hr (by omega)) hB.2 hK)
variable {Q:Exit->Act->World->Prop}
theorem any_of_head {n g:Nat} {L:Array Bool->Act->Prop}(hL:∀listed a w,C w->L listed a->wpAny P md ops Q g listed a w)(f:Nat):
 ∀(listed:Array Bool) (a:Act) (w:World),C w->wpHead P md ops C n L f listed a->wpAny P md ops Q (f+g) listed a w:=by
 induction f with
 | zero=>intro listed a w hC h;rw[Nat.zero_add];exact hL _ _ _ hC h
 | succ f ih=>
    intro listed a w hC h
    rw[show f+1+g=f+g+1 by omega]
    exact⟨fun h0=>absurd h0 h.1,fun i hi=>wpOp_of_qOp hC (fun a' w' hw' h'=>ih _ a' w' hw' h') (h.2 i hi).2⟩
theorem head_of_lex {l:List Oper} {a:Act} {Lq:Act->Prop}(n:Nat)(hB:Region.lexTailB .any l.toArray n=true)(h:wpQuiet P l.toArray C Lq (l.take n) a):
 n < l.length/\wpHead P .any l.toArray C n (fun listed' a'=>Region.seqB .any l.toArray (l.length - n) n listed'=true/\Lq a') n (Array.replicate l.length false) a:=by
 simp only[Region.lexTailB,Bool.and_eq_true,decide_eq_true_eq]at hB
 obtain⟨⟨⟨⟨hsel,hn⟩,hs⟩,hc⟩,hlex⟩:=hB
 have hn':n < l.length:=by simpa using hn
 have htl:(l.take n).length=n:=by rw[List.length_take];omega
 have inv:HeadInv .any l.toArray n (Array.replicate l.toArray.size false):=
  ⟨by simp,fun j oj _ hl=>(by rw[getD_replicate_false]at hl;cases hl),fun t _ ht=>getD_in (by simpa using ht) (getD_replicate_false _ _)⟩
 have H:=wpHead_lex (P:=P) (C:=C) (Lq:=Lq) (md:=.any) (g:=l.toArray.size - n) hsel hs hc hn (l.take n) 0 _ a (fun j hj=>by rw[List.getElem?_take_of_lt (by omega)];simp) (by omega) inv (by rw[htl];exact hlex) h
 rw[htl]at H
 exact⟨hn',by simpa using H⟩
variable {F:Fence} {m:Nat}
end
end
section
open Go.RowKit
theorem region_cls_tail {P:Program} {Q:Exit->Act->World->Prop} {I:Type}(W:I->World) {id:Nat} {a:Act} {w:World} {l:List Oper}(n:Nat)(hm:P.follows .mixedOrders=true)(hB:Region.lexTailB .any l.toArray n=true)(h0:∃k,w.drew=W k)
 (h:wpQuiet P l.toArray (fun w'=>∃k,w'=W k) (fun a'=>∀w',(∃k,w'=W k)->wpList P l.toArray Q (l.drop n) a' w') (l.take n) a):(Code.region id l.toArray true).wp P Q a w:=by
 obtain⟨hn,H⟩:=head_of_lex n hB h
 refine wp_region_any hm ?_
 have hA:=any_of_head (Q:=Q) (g:=l.length - n) (C:=fun w'=>∃k,w'=W k) (fun listed a' w' hw' hL=>by
  have h1:=wpAny_of_seq (md:=.any) (Q':=Q) (l.drop n) n listed a' w' (fun j=>by simp[List.getElem?_drop]) (by rw[List.length_drop];exact hL.1) (hL.2 w' hw')
  rwa [List.length_drop]at h1) n _ a w.drew h0 H
 rw[show n+(l.length - n)=l.length by omega]at hA
 simpa using hA
end
section
open Go.RowKit Sha
theorem less_any (xs ys:List Int)(w:World)(hx:xs.length=32)(hy:ys.length=32)(hxz:∀n∈xs,0<=n/\n<=255)(hyz:∀n∈ys,0<=n/\n<=255):
 Calls Tryz.prog 79 #[.agg (xs.map v8).toArray,.agg (ys.map v8).toArray] w fun e w'=>e= .returned (.bool (less xs ys))/\Below w.heap.size w w':=by
 have hszx:(Tryz.prog.info? 25).map (fun i=>i.size)=some (xs.map v8).toArray.size:=by rw[size26];simp[hx]
 have hszy:(Tryz.prog.info? 25).map (fun i=>i.size)=some (ys.map v8).toArray.size:=by rw[size26];simp[hy]
 have Hx:=Lib.hid hx
 have Hy:=Lib.hid hy
 have H0:=Lib.hid (show Blk ((w.alloc (Obj.cells (xs.map v8).toArray 25)).alloc (Obj.cells (ys.map v8).toArray 25)) w.heap.size (xs.map v8) 25 by simpa using(Blk.new w (xs.map v8).toArray 25).old (Obj.cells (ys.map v8).toArray 25))
 have H1:=Lib.hid (show Blk ((w.alloc (Obj.cells (xs.map v8).toArray 25)).alloc (Obj.cells (ys.map v8).toArray 25)) (w.heap.size+1) (ys.map v8) 25 by simpa using Blk.new (w.alloc (Obj.cells (xs.map v8).toArray 25)) (ys.map v8).toArray 25)
 have HB:=Lib.hid (((Below.refl w.heap.size w).alloc (by simp) (Obj.cells (xs.map v8).toArray 25)).alloc (by simp) (Obj.cells (ys.map v8).toArray 25))
 clear hx hy
 by_cases he:xs=ys
 ·have hd:decide (xs=ys)=true:=by simpa using he
  have hl:less xs ys=false:=by rw[he];exact less_irrefl ys
  have Hl:=Lib.hid hl
  clear he hl
  go_enter Tryz.func79,Tryz.ntmps79
  go_wp2_with (first
   | (refine wpList_box_arr rfl 25 _ rfl _ rfl ?_)
   | (refine wpList_load_row rfl 25 (.tmp 2) rfl _ rfl _ _ _ _ H0.out (Tryz.underlying25) rfl hszx ?_)
   | (refine wpList_load_row rfl 25 (.tmp 3) rfl _ rfl _ _ _ _ H1.out (Tryz.underlying25) rfl hszy ?_)
   | (refine wpList_eql_arr rfl 25 _ _ _ rfl 5 32 .u8 Tryz.underlying25 Tryz.underlying5 byte1 xs ys rfl rfl Hx.out Hy.out ?_;rw[hd]))
  go_ret
  exact⟨congrArg (fun b=>Ending.returned (Value.bool b)) Hl.out.symm,HB.out⟩
 ·have hd:decide (xs=ys)=false:=by simpa using he
  have hl:=less_same xs ys (by rw[Hx.out,Hy.out]) he
  have hs:=same_lt xs ys (by rw[Hx.out,Hy.out]) he
  have ha:=same_alike xs ys
  have hu:=same_unlike xs ys (by rw[Hx.out,Hy.out]) he
  rw[Hx.out]at hs
  obtain⟨m,hm⟩:∃m,m=same xs ys:=⟨_,rfl⟩
  rw[<-hm]at hl hs ha hu
  have Hl:=Lib.hid hl
  have Ha:=Lib.hid ha
  have Hu:=Lib.hid hu
  clear he hl ha hu hm
  go_enter Tryz.func79,Tryz.ntmps79
  go_wp2_with (first
   | (refine wpList_box_arr rfl 25 _ rfl _ rfl ?_)
   | (refine wpList_load_row rfl 25 (.tmp 2) rfl _ rfl _ _ _ _ H0.out (Tryz.underlying25) rfl hszx ?_)
   | (refine wpList_load_row rfl 25 (.tmp 3) rfl _ rfl _ _ _ _ H1.out (Tryz.underlying25) rfl hszy ?_)
   | (refine wpList_eql_arr rfl 25 _ _ _ rfl 5 32 .u8 Tryz.underlying25 Tryz.underlying5 byte1 xs ys rfl rfl Hx.out Hy.out ?_;rw[hd]))
  generalize((w.alloc (Obj.cells (xs.map v8).toArray 25)).alloc (Obj.cells (ys.map v8).toArray 25))=w2 at *
  go_loopw [5] (fun i wr=>∃k:Nat,k<=m/\i= .int .i64 k/\Hid (∃n,wr=w2.drewN n)) (fun i _=>m - (intOf i).toNat)
  case atStart=>exact⟨0,by omega,rfl,⟨0,rfl⟩⟩
  case round=>
   obtain⟨k,hk,rfl,HQ⟩:=hrel
   have K0:Blk wr w.heap.size (xs.map v8) 25:=by obtain⟨n,e⟩:=HQ.out;rw[e];exact H0.out.drewN n
   have K1:Blk wr (w.heap.size+1) (ys.map v8) 25:=by obtain⟨n,e⟩:=HQ.out;rw[e];exact H1.out.drewN n
   have KB:Below w.heap.size w wr:=by obtain⟨n,e⟩:=HQ.out;rw[e];exact below_drewN HB.out n
   obtain⟨x,hx⟩:∃x,x=xs.getD k 0:=⟨_,rfl⟩
   obtain⟨y,hy⟩:∃y,y=ys.getD k 0:=⟨_,rfl⟩
   have c0:wr.cell? ⟨w.heap.size,k,none⟩=some (v8 x):=by
    rw[K0.cell,List.getElem?_map,List.getElem?_eq_getElem (by rw[Hx.out];omega),hx];simp[Hx.out,show k < 32 by omega]
   have c1:wr.cell? ⟨w.heap.size+1,k,none⟩=some (v8 y):=by
    rw[K1.cell,List.getElem?_map,List.getElem?_eq_getElem (by rw[Hy.out];omega),hy];simp[Hy.out,show k < 32 by omega]
   have hxb:0<=x/\x<=255:=hxz x (by rw[hx];simp[Hx.out,show k < 32 by omega])
   have hyb:0<=y/\y<=255:=hyz y (by rw[hy];simp[Hy.out,show k < 32 by omega])
   have HX:=Lib.hid hx
   have HY:=Lib.hid hy
   have K0:=Lib.hid K0
   have K1:=Lib.hid K1
   by_cases hlt:k < m
   ·have t1:(x == y)=true:=by rw[beq_iff_eq,hx,hy];exact Ha.out k hlt
    clear hx hy
    go_wp2_with fail
    go_quiet (fail)
    go_wp2_with fail
    go_roundw
    case rel=>
     obtain⟨n,e⟩:=HQ.out
     exact⟨k+1,by omega,by go_num,⟨n+nq,by rw[e,World.drewN_drewN]⟩⟩
    case measure=>simp[intOf];omega
   ·obtain rfl:k=m:=by omega
    have t1:(x == y)=false:=by rw[beq_eq_false_iff_ne,hx,hy];exact Hu.out
    have HF:Hid (less xs ys=decide (x < y)):=by show _=_;rw[Hl.out,hx,hy]
    clear hx hy
    go_wp2_with fail
    go_quiet (fail)
    go_wp2_with fail
    go_quiet (fail)
    go_wp2_with fail
    go_ret
    exact⟨congrArg (fun b=>Ending.returned (Value.bool b)) HF.out.symm,below_drewN (below_drewN KB _) _⟩
end
section
set_option linter.unusedSectionVars false
namespace Rise
section
variable {α κ:Type} [DecidableEq κ] {key:α->κ} {lt:κ->κ->Bool} {G:κ->Prop} (O:Ord lt G)
def place (key:α->κ)(lt:κ->κ->Bool)(k:κ)(l:List α):Nat:=(pre key lt k l).length
def found (key:α->κ)(lt:κ->κ->Bool)(k:κ)(l:List α):Bool:=(look key lt k l).isSome
theorem place_le (k:κ)(l:List α):place key lt k l<=l.length:=by
 have h:=congrArg List.length (pre_post (key:=key) (lt:=lt) k l)
 rw[List.length_append]at h
 unfold place;omega
theorem take_place (k:κ)(l:List α):l.take (place key lt k l)=pre key lt k l:=by
 have h:=pre_post (key:=key) (lt:=lt) k l
 unfold place
 calc l.take (pre key lt k l).length=(pre key lt k l++post key lt k l).take (pre key lt k l).length:=by rw[h]
  _=pre key lt k l:=by simp
theorem drop_place (k:κ)(l:List α):l.drop (place key lt k l)=post key lt k l:=by
 have h:=pre_post (key:=key) (lt:=lt) k l
 unfold place
 calc l.drop (pre key lt k l).length=(pre key lt k l++post key lt k l).drop (pre key lt k l).length:=by rw[h]
  _=post key lt k l:=by simp
theorem place_lt (k:κ)(l:List α)(i:Nat)(hi:i < l.length)(h:i < place key lt k l):lt (key l[i]) k=true:=by
 have h1:l[i]∈l.take (place key lt k l):=by
  rw[List.mem_take_iff_getElem]
  exact⟨i,by omega,rfl⟩
 rw[take_place]at h1
 exact pre_lt _ h1
include O in
theorem place_ge (k:κ)(l:List α)(hup:Up key lt l)(i:Nat)(hi:i < l.length)(h:place key lt k l<=i):lt (key l[i]) k=false:=by
 have h2:=drop_place (key:=key) (lt:=lt) k l
 have hp:place key lt k l < l.length:=by omega
 rw[List.drop_eq_getElem_cons hp]at h2
 have h3:=post_head h2.symm
 by_cases e:i=place key lt k l
 ·subst e;exact h3
 ·cases hb:lt (key l[i]) k with
  | false=>rfl
  | true=>
     have h4:lt (key l[place key lt k l]) (key l[i])=true:=by
      have:=List.pairwise_iff_getElem.1 hup (place key lt k l) i hp hi (by omega)
      exact this
     have h5:=O.trans _ _ _ h4 hb
     rw[h3]at h5;cases h5
theorem found_iff (k:κ)(l:List α):found key lt k l=true↔∃h:place key lt k l < l.length,key l[place key lt k l] = k:=by
 have h2:=drop_place (key:=key) (lt:=lt) k l
 unfold found look
 by_cases hp:place key lt k l < l.length
 ·rw[List.drop_eq_getElem_cons hp]at h2
  rw[<-h2]
  simp only
  by_cases e:key l[place key lt k l] = k
  ·rw[if_pos e];exact⟨fun _=>⟨hp,e⟩,fun _=>rfl⟩
  ·rw[if_neg e];exact⟨fun h=>by simp at h,fun⟨_,h⟩=>absurd h e⟩
 ·rw[List.drop_eq_nil_of_le (by omega)]at h2
  rw[<-h2]
  exact⟨fun h=>by simp at h,fun⟨h,_⟩=>absurd h hp⟩
theorem found_no {k:κ} {l:List α}(h:found key lt k l=false):look key lt k l=none:=by
 unfold found at h;simpa using h
theorem add_found {x:α} {l:List α}(h:found key lt (key x) l=true):add key lt x l=l:=by
 unfold found at h
 cases hl:look key lt (key x) l with
 | none=>rw[hl]at h;simp at h
 | some y=>exact add_of hl
theorem add_new {x:α} {l:List α}(h:found key lt (key x) l=false):add key lt x l=l.take (place key lt (key x) l)++x::l.drop (place key lt (key x) l):=by
 unfold add;rw[found_no h,take_place,drop_place]
end
end Rise
namespace Fct
def cmpI (a b:Int):Int:=if a < b then -1 else if b < a then 1 else 0
def idC (a b:List Int):Int:=if Sha.less a b=true then -1 else if a=b then 0 else 1
def orC:List Int->Int
 | []=>0
 | x::l=>if x=0 then orC l else x
theorem cmpI_neg (a b:Int):cmpI a b < 0↔ilt a b=true:=by unfold cmpI ilt;(repeat' split)<;>simp<;>omega
theorem cmpI_zero (a b:Int):cmpI a b=0↔a=b:=by unfold cmpI;(repeat' split)<;>omega
theorem idC_neg (a b:List Int):idC a b < 0↔Sha.less a b=true:=by unfold idC;(repeat' split)<;>simp_all
theorem idC_zero (a b:List Int):idC a b=0↔a=b:=by
 unfold idC
 by_cases h:Sha.less a b=true
 ·rw[if_pos h]
  exact⟨fun e=>by omega,fun e=>by subst e;rw[Sha.less_irrefl]at h;cases h⟩
 ·rw[if_neg h];split<;>simp_all
def ordB (x y:Fct.Id×List Int):Int:=idC x.1 y.1
def ordV (x y:Vot):Int:=cmpI x.S y.S
def ordD (x y:Int×List Int):Int:=cmpI x.1 y.1
def ordK (x y:Int×Fct.Id):Int:=orC [cmpI x.1 y.1,idC x.2 y.2]
def ordH (x y:Int×Int×Fct.Id):Int:=orC [cmpI x.1 y.1,cmpI x.2.1 y.2.1,idC x.2.2 y.2.2]
def ordL (a b c d:Int):Int:=orC [cmpI a c,cmpI b d]
theorem ordK_neg (x y:Int×Fct.Id):ordK x y < 0↔klt x y=true:=by
 have h1:=cmpI_neg x.1 y.1
 have h2:=cmpI_zero x.1 y.1
 have h3:=idC_neg x.2 y.2
 unfold ordK klt Rise.lex
 simp only[orC]
 by_cases e:cmpI x.1 y.1=0
 ·have e1:=h2.1 e
  have e2:ilt x.1 y.1=false:=by rw[Bool.eq_false_iff];intro h;have:=h1.2 h;omega
  rw[if_pos e,e2]
  by_cases e3:idC x.2 y.2=0
  ·have:¬Sha.less x.2 y.2=true:=fun h=>by have:=h3.2 h;omega
   simp[e3,this]
  ·rw[if_neg e3,h3];simp[e1]
 ·rw[if_neg e,h1]
  have e1:¬x.1=y.1:=fun h=>e (h2.2 h)
  simp[e1]
theorem ordK_zero (x y:Int×Fct.Id):ordK x y=0↔x=y:=by
 have h2:=cmpI_zero x.1 y.1
 have h3:=idC_zero x.2 y.2
 unfold ordK
 simp only[orC]
 by_cases e:cmpI x.1 y.1=0
 ·rw[if_pos e]
  by_cases e3:idC x.2 y.2=0
  ·rw[if_pos e3];exact⟨fun _=>Prod.ext (h2.1 e) (h3.1 e3),fun _=>rfl⟩
  ·rw[if_neg e3];exact⟨fun h=>absurd h e3,fun h=>absurd (h3.2 (by rw[h])) e3⟩
 ·rw[if_neg e];exact⟨fun h=>absurd h e,fun h=>absurd (h2.2 (by rw[h])) e⟩
theorem ordH_eq (x y:Int×Int×Fct.Id):ordH x y=if cmpI x.1 y.1=0 then ordK x.2 y.2 else cmpI x.1 y.1:=rfl
theorem ordH_neg (x y:Int×Int×Fct.Id):ordH x y < 0↔hlt x y=true:=by
 have h1:=cmpI_neg x.1 y.1
 have h2:=cmpI_zero x.1 y.1
 have h3:=ordK_neg x.2 y.2
 rw[ordH_eq]
 unfold hlt Rise.lex
 by_cases e:cmpI x.1 y.1=0
 ·have e1:=h2.1 e
  have e2:ilt x.1 y.1=false:=by rw[Bool.eq_false_iff];intro h;have:=h1.2 h;omega
  rw[if_pos e,e2,h3];simp[e1]
 ·rw[if_neg e,h1]
  have e1:¬x.1=y.1:=fun h=>e (h2.2 h)
  simp[e1]
theorem ordH_zero (x y:Int×Int×Fct.Id):ordH x y=0↔x=y:=by
 have h2:=cmpI_zero x.1 y.1
 have h3:=ordK_zero x.2 y.2
 rw[ordH_eq]
 by_cases e:cmpI x.1 y.1=0
 ·rw[if_pos e,h3];exact⟨fun h=>Prod.ext (h2.1 e) h,fun h=>by rw[h]⟩
 ·rw[if_neg e];exact⟨fun h=>absurd h e,fun h=>absurd (h2.2 (by rw[h])) e⟩
theorem ordL_neg (a b c d:Int):ordL a b c d < 0↔more c d a b=true:=by
 have h1:=cmpI_neg a c
 have h2:=cmpI_zero a c
 have h3:=cmpI_neg b d
 have h4:=cmpI_zero b d
 unfold ordL more
 simp only[orC]
 unfold ilt at h1 h3
 simp only[decide_eq_true_eq]at h1 h3 ⊢
 by_cases e:cmpI a c=0
 ·rw[if_pos e]
  by_cases e3:cmpI b d=0
  ·rw[if_pos e3];have:=h2.1 e;have:=h4.1 e3;omega
  ·rw[if_neg e3,h3];have:=h2.1 e;omega
 ·rw[if_neg e,h1]
  have e1:¬a=c:=fun h=>e (h2.2 h)
  omega
end Fct
end
section
open Go.RowKit Sha Fct
theorem orC_drop {zs:List Int} {k:Nat}(h:k < zs.length):orC (zs.drop k)=if zs[k] = 0 then orC (zs.drop (k+1))else zs[k]:=by
 rw[List.drop_eq_getElem_cons h];rfl
theorem nan_any (a:Int)(w:World):Calls Tryz.prog 168 #[.int .i64 a] w fun e w'=>e= .returned (.bool false)/\w=w':=by
 go_enter Tryz.func168,Tryz.ntmps168
 go_wp2_with fail
 go_ret
 exact⟨by simp,rfl⟩
theorem cmpI_any (a b:Int)(w:World):Calls Tryz.prog 140 #[.int .i64 a,.int .i64 b] w fun e w'=>e= .returned (.int .i64 (cmpI a b))/\w=w':=by
 by_cases h1:a < b
 ·have hv:cmpI a b= -1:=by unfold cmpI;rw[if_pos h1]
  have HV:=Lib.hid hv
  have t1:decide (a < b)=true:=by simpa using h1
  clear hv h1
  go_enter Tryz.func140,Tryz.ntmps140
  go_wp2_with (go_at_call 168;refine(nan_any _ _).mono ?_;rintro e w' ⟨rfl,rfl⟩)
  go_ret
  exact⟨by rw[HV.out];rfl,rfl⟩
 ·by_cases h2:b < a
  ·have hv:cmpI a b=1:=by unfold cmpI;rw[if_neg h1,if_pos h2]
   have HV:=Lib.hid hv
   have t1:decide (a < b)=false:=by simpa using h1
   have t2:decide (b < a)=true:=by simpa using h2
   clear hv h1 h2
   go_enter Tryz.func140,Tryz.ntmps140
   go_wp2_with (go_at_call 168;refine(nan_any _ _).mono ?_;rintro e w' ⟨rfl,rfl⟩)
   go_ret
   exact⟨by rw[HV.out];rfl,rfl⟩
  ·have hv:cmpI a b=0:=by unfold cmpI;rw[if_neg h1,if_neg h2]
   have HV:=Lib.hid hv
   have t1:decide (a < b)=false:=by simpa using h1
   have t2:decide (b < a)=false:=by simpa using h2
   clear hv h1 h2
   go_enter Tryz.func140,Tryz.ntmps140
   go_wp2_with (go_at_call 168;refine(nan_any _ _).mono ?_;rintro e w' ⟨rfl,rfl⟩)
   go_ret
   exact⟨by rw[HV.out];rfl,rfl⟩
theorem orC_any (zs:List Int)(n:Nat)(hn:zs.length=n)(g:Nat)(w:World)(hg:∀k (h:k < zs.length),w.cell? ⟨g,k,none⟩=some (.int .i64 zs[k]))(hm:n<=1000):
 Calls Tryz.prog 139 #[.slice (some ⟨g,0,none⟩) n n] w fun e w'=>e= .returned (.int .i64 (orC zs))/\w=w':=by
 have HG:=Lib.hid hg
 have HN:=Lib.hid hn
 clear hg hn
 go_enter Tryz.func139,Tryz.ntmps139
 go_wp2_with fail
 go_loop [8] (fun i=>∃k:Nat,k<=n/\i= .int .i64 k/\Hid (orC zs=orC (zs.drop k))) (fun i=>n - (intOf i).toNat)
 case atStart=>exact⟨0,by omega,rfl,Lib.hid (by rw[List.drop_zero])⟩
 case round=>
  obtain⟨k,hk,rfl,HO⟩:=hrel
  by_cases hlt:k < n
  ·have hkl:k < zs.length:=by rw[HN.out];exact hlt
   have hc:w.cell? ⟨g,k,none⟩=some (.int .i64 zs[k]):=HG.out k hkl
   have hst:=orC_drop hkl
   have hjn:(0:Int)<=(k:Int)/\(k:Int) < (n:Int):=by omega
   generalize zs[k] = z at *
   by_cases hz:z=0
   ·have HO2:=Lib.hid (show orC zs=orC (zs.drop (k+1))from by rw[HO.out,hst,if_pos hz])
    clear hst HO
    subst hz
    go_wp2_with fail
    go_round
    case rel=>exact⟨k+1,by omega,by go_num,HO2⟩
    case measure=>simp[intOf];omega
   ·have HO2:=Lib.hid (show orC zs=z from by rw[HO.out,hst,if_neg hz])
    have t1:(z != 0)=true:=by simpa using hz
    clear hst HO hz
    go_wp2_with fail
    try rw[Exit.noGoto_ret]
    go_ret
    exact⟨by rw[HO2.out];rfl,rfl⟩
  ·obtain rfl:k=n:=by omega
   have HO2:=Lib.hid (show orC zs=0 from by rw[HO.out,List.drop_eq_nil_of_le (by rw[HN.out];exact Nat.le_refl _)];rfl)
   go_wp2_with fail
   go_ret
   exact⟨by rw[HO2.out];rfl,rfl⟩
end
section
open Go.RowKit Sha Fct
attribute [local go_sem ↓] execOp_boxId execOp_loadId execOp_eqlId
structure Box2 (w0:World)(cs ds:List Value)(t:TypeId)(w1 w2:World):Prop where
 b1:(boxOp t (.agg cs.toArray)).run Tryz.prog w0= .ok (.value (.pointer (some ⟨w0.heap.size,0,none⟩))) w1
 b2:(boxOp t (.agg ds.toArray)).run Tryz.prog w1= .ok (.value (.pointer (some ⟨w0.heap.size+1,0,none⟩))) w2
 k1:Blk w2 w0.heap.size cs t
 k2:Blk w2 (w0.heap.size+1) ds t
 below:Below w0.heap.size w0 w2
theorem box2 (w:World)(cs ds:List Value)(t:TypeId):∃w1 w2,Box2 w cs ds t w1 w2:=by
 have hz1:(w.alloc (Obj.cells cs.toArray t)).heap.size=w.heap.size+1:=World.size_alloc ..
 refine⟨w.alloc (.cells cs.toArray t),(w.alloc (.cells cs.toArray t)).alloc (.cells ds.toArray t),run_boxOp w,?_,?_,?_,?_⟩
 ·have h:=run_boxOp (P:=Tryz.prog) (t:=t) (cs:=ds.toArray) (w.alloc (.cells cs.toArray t))
  rwa [hz1]at h
 ·exact(Blk.new w cs.toArray t).old _
 ·have h:=Blk.new (w.alloc (.cells cs.toArray t)) ds.toArray t
  rwa [hz1]at h
 ·exact((Below.refl w.heap.size w).alloc (Nat.le_refl _) _).alloc (by rw[hz1];omega) _
theorem ids_any (x y:List Int)(hx:idOk x)(hy:idOk y)(w:World):
 Calls Tryz.prog 151 #[.agg (x.map v8).toArray,.agg (y.map v8).toArray] w fun e w'=>e= .returned (.int .i64 (idC x y))/\Below w.heap.size w w':=by
 obtain⟨w1,w2,hb⟩:=box2 w (x.map v8) (y.map v8) 25
 have bx1:=hb.b1
 have bx2:=hb.b2
 have l1:=load_idr (g:=w.heap.size) (o:=0) hx.1 hb.k1.range
 have l2:=load_idr (g:=w.heap.size+1) (o:=0) hy.1 hb.k2.range
 have LS:=Lib.hid (less_any x y w2 hx.1 hy.1 hx.2 hy.2)
 have HX:=Lib.hid hx
 have HY:=Lib.hid hy
 have HB:=Lib.hid hb
 clear hb hx hy
 cases hl:Sha.less x y with
 | true=>
    have HV:=Lib.hid (show idC x y= -1 from by unfold idC;rw[if_pos hl])
    rw[hl]at LS
    clear hl
    go_enter Tryz.func151,Tryz.ntmps151
    go_wp2_with fail
    refine LS.out.mono ?_
    rintro e w3 ⟨rfl,hb3⟩
    have HB3:=Lib.hid (HB.out.below.trans (hb3.mono HB.out.below.size))
    clear hb3
    go_wp2_with fail
    go_ret
    exact⟨by rw[HV.out];rfl,HB3.out⟩
 | false=>
    rw[hl]at LS
    by_cases he:x=y
    ·have HV:=Lib.hid (show idC x y=0 from by unfold idC;rw[if_neg (by rw[hl];simp),if_pos he])
     have q1:=fun o1 o2 w=>run_eqlId o1 o2 x y HX.out.1 HY.out.1 true (decide_eq_true he).symm w
     clear hl he
     go_enter Tryz.func151,Tryz.ntmps151
     go_wp2_with fail
     refine LS.out.mono ?_
     rintro e w3 ⟨rfl,hb3⟩
     have HB3:=Lib.hid (HB.out.below.trans (hb3.mono HB.out.below.size))
     have m1:=load_idr (g:=w.heap.size) (o:=0) HX.out.1 (HB.out.k1.below hb3 HB.out.k1.lt).range
     have m2:=load_idr (g:=w.heap.size+1) (o:=0) HY.out.1 (HB.out.k2.below hb3 HB.out.k2.lt).range
     clear hb3
     go_wp2_with fail
     go_ret
     exact⟨by rw[HV.out];rfl,HB3.out⟩
    ·have HV:=Lib.hid (show idC x y=1 from by unfold idC;rw[if_neg (by rw[hl];simp),if_neg he])
     have q1:=fun o1 o2 w=>run_eqlId o1 o2 x y HX.out.1 HY.out.1 false (decide_eq_false he).symm w
     clear hl he
     go_enter Tryz.func151,Tryz.ntmps151
     go_wp2_with fail
     refine LS.out.mono ?_
     rintro e w3 ⟨rfl,hb3⟩
     have HB3:=Lib.hid (HB.out.below.trans (hb3.mono HB.out.below.size))
     have m1:=load_idr (g:=w.heap.size) (o:=0) HX.out.1 (HB.out.k1.below hb3 HB.out.k1.lt).range
     have m2:=load_idr (g:=w.heap.size+1) (o:=0) HY.out.1 (HB.out.k2.below hb3 HB.out.k2.lt).range
     clear hb3
     go_wp2_with fail
     go_ret
     exact⟨by rw[HV.out];rfl,HB3.out⟩
end
section
open Go.RowKit Sha Fct
theorem execOp_boxOB (ρ:Operand->Value)(dst:Option Tmp)(x:Operand)(ty:TypeId)(pos:String)(after:Array Edge)(guard:Option (Nat×Bool)):
 execOp ρ {dst:=dst,op:=.box 93 x,type:=ty,pos:=pos,after:=after,guard:=guard}= boxOp 93 (ρ x):=by unfold boxOp;rfl
theorem execOp_boxOK (ρ:Operand->Value)(dst:Option Tmp)(x:Operand)(ty:TypeId)(pos:String)(after:Array Edge)(guard:Option (Nat×Bool)):
 execOp ρ {dst:=dst,op:=.box 95 x,type:=ty,pos:=pos,after:=after,guard:=guard}= boxOp 95 (ρ x):=by unfold boxOp;rfl
theorem execOp_boxOH (ρ:Operand->Value)(dst:Option Tmp)(x:Operand)(ty:TypeId)(pos:String)(after:Array Edge)(guard:Option (Nat×Bool)):
 execOp ρ {dst:=dst,op:=.box 97 x,type:=ty,pos:=pos,after:=after,guard:=guard}= boxOp 97 (ρ x):=by unfold boxOp;rfl
theorem execOp_boxOV (ρ:Operand->Value)(dst:Option Tmp)(x:Operand)(ty:TypeId)(pos:String)(after:Array Edge)(guard:Option (Nat×Bool)):
 execOp ρ {dst:=dst,op:=.box 62 x,type:=ty,pos:=pos,after:=after,guard:=guard}= boxOp 62 (ρ x):=by unfold boxOp;rfl
theorem execOp_boxOD (ρ:Operand->Value)(dst:Option Tmp)(x:Operand)(ty:TypeId)(pos:String)(after:Array Edge)(guard:Option (Nat×Bool)):
 execOp ρ {dst:=dst,op:=.box 73 x,type:=ty,pos:=pos,after:=after,guard:=guard}= boxOp 73 (ρ x):=by unfold boxOp;rfl
theorem execOp_boxOL (ρ:Operand->Value)(dst:Option Tmp)(x:Operand)(ty:TypeId)(pos:String)(after:Array Edge)(guard:Option (Nat×Bool)):
 execOp ρ {dst:=dst,op:=.box 23 x,type:=ty,pos:=pos,after:=after,guard:=guard}= boxOp 23 (ρ x):=by unfold boxOp;rfl
attribute [local go_sem ↓] execOp_boxOB execOp_boxOK execOp_boxOH execOp_boxOV execOp_boxOD execOp_boxOL execOp_loadId
theorem votes_any (x y:Vot)(q r:Option Addr)(c d:Nat)(w:World):
 Calls Tryz.prog 160 #[.agg (vcells x q c).toArray,.agg (vcells y r d).toArray] w fun e w'=>e= .returned (.int .i64 (ordV x y))/\Below w.heap.size w w':=by
 obtain⟨w1,w2,hb⟩:=box2 w (vcells x q c) (vcells y r d) 62
 have bx1:=hb.b1
 have bx2:=hb.b2
 have c1:w2.cell? ⟨w.heap.size,0,none⟩=some (.int .i64 x.S):=hb.k1.cell 0
 have c2:w2.cell? ⟨w.heap.size+1,0,none⟩=some (.int .i64 y.S):=hb.k2.cell 0
 have HB:=Lib.hid hb
 clear hb
 go_enter Tryz.func160,Tryz.ntmps160
 go_wp2_with (go_at_call 140;refine(cmpI_any _ _ _).mono ?_;rintro e w' ⟨rfl,rfl⟩)
 go_ret
 exact⟨rfl,HB.out.below⟩
theorem decisions_any (x y:Int×List Int)(q r:Option Addr)(c d:Nat)(w:World):
 Calls Tryz.prog 134 #[.agg (dcells9 x q c).toArray,.agg (dcells9 y r d).toArray] w fun e w'=>e= .returned (.int .i64 (ordD x y))/\Below w.heap.size w w':=by
 obtain⟨w1,w2,hb⟩:=box2 w (dcells9 x q c) (dcells9 y r d) 73
 have bx1:=hb.b1
 have bx2:=hb.b2
 have c1:w2.cell? ⟨w.heap.size,0,none⟩=some (.int .i64 x.1):=hb.k1.cell 0
 have c2:w2.cell? ⟨w.heap.size+1,0,none⟩=some (.int .i64 y.1):=hb.k2.cell 0
 have HB:=Lib.hid hb
 clear hb
 go_enter Tryz.func134,Tryz.ntmps134
 go_wp2_with (go_at_call 140;refine(cmpI_any _ _ _).mono ?_;rintro e w' ⟨rfl,rfl⟩)
 go_ret
 exact⟨rfl,HB.out.below⟩
theorem blobs_any (x y:Fct.Id×List Int)(q r:Option Addr)(c d:Nat)(w:World)(hx:idOk x.1)(hy:idOk y.1):
 Calls Tryz.prog 129 #[.agg (bcells x q c).toArray,.agg (bcells y r d).toArray] w fun e w'=>e= .returned (.int .i64 (ordB x y))/\Below w.heap.size w w':=by
 obtain⟨w1,w2,hb⟩:=box2 w (bcells x q c) (bcells y r d) 93
 have bx1:=hb.b1
 have bx2:=hb.b2
 have l1:=load_idr (g:=w.heap.size) (o:=0) hx.1 (rangeAt_sub hb.k1.range 0 (fun j v hv=>by rw[Nat.zero_add];exact bcells_D x q c j v hv))
 have l2:=load_idr (g:=w.heap.size+1) (o:=0) hy.1 (rangeAt_sub hb.k2.range 0 (fun j v hv=>by rw[Nat.zero_add];exact bcells_D y r d j v hv))
 have HI:=Lib.hid (ids_any x.1 y.1 hx hy w2)
 have HB:=Lib.hid hb
 clear hb hx hy
 go_enter Tryz.func129,Tryz.ntmps129
 go_wp2_with fail
 refine HI.out.mono ?_
 rintro e w3 ⟨rfl,hb3⟩
 have HB3:=Lib.hid (HB.out.below.trans (hb3.mono HB.out.below.size))
 clear hb3
 go_wp2_with fail
 go_ret
 exact⟨rfl,HB3.out⟩
theorem ballots_any (a b c d:Int)(w:World):
 Calls Tryz.prog 108 #[.agg ([.int .i64 a,.int .i64 b]).toArray,.agg ([.int .i64 c,.int .i64 d]).toArray] w fun e w'=>e= .returned (.int .i64 (ordL a b c d))/\Below w.heap.size w w':=by
 obtain⟨w1,w2,hb⟩:=box2 w ([.int .i64 a,.int .i64 b]) ([.int .i64 c,.int .i64 d]) 23
 have bx1:=hb.b1
 have bx2:=hb.b2
 obtain⟨I,W,hC⟩:=cls_of w2
 have hne:Nonempty I:=hC.ne
 have c10:=hC.cell (show w2.cell? ⟨w.heap.size,0,none⟩=some (.int .i64 a)from hb.k1.cell 0)
 have c20:=hC.cell (show w2.cell? ⟨w.heap.size+1,0,none⟩=some (.int .i64 c)from hb.k2.cell 0)
 have c11:=hC.cell (show w2.cell? ⟨w.heap.size,1,none⟩=some (.int .i64 b)from hb.k1.cell 1)
 have c21:=hC.cell (show w2.cell? ⟨w.heap.size+1,1,none⟩=some (.int .i64 d)from hb.k2.cell 1)
 have QC:=Lib.hid (fun a b=>hC.call (P:=Tryz.prog) (f:=140) (args:=#[.int .i64 a,.int .i64 b]) (v:=.int .i64 (cmpI a b)) (fun w' hb=>(cmpI_any a b w').mono fun e w'' ⟨he,hw⟩=>⟨he,by subst hw;exact Below.refl _ _⟩))
 have HB:=Lib.hid hb
 have HC:=Lib.hid hC
 clear hb hC
 have HV:=Lib.hid (show ordL a b c d=orC [cmpI a c,cmpI b d]from by rfl)
 go_enter Tryz.func108,Tryz.ntmps108
 go_wp2_with fail
 refine region_cls_tail W 10 (by kernel_rfl) (by kernel_rfl) HC.out.one ?_
 simp only[List.take_succ_cons,List.take_zero,List.drop_succ_cons,List.drop_zero]
 repeat go_big_quiet_step (((first | (go_at_call 140;exact QC.out _ _ _))))
 refine wpQuiet_nil ?_
 rintro _ ⟨m,rfl⟩
 have hk:=Blk.new (W m) #[Value.int .i64 (cmpI a c),Value.int .i64 (cmpI b d)] 3
 have HO:=Lib.hid (orC_any [cmpI a c,cmpI b d] 2 rfl (W m).heap.size ((W m).alloc (.cells #[Value.int .i64 (cmpI a c),Value.int .i64 (cmpI b d)] 3)) (fun k h=>by
  rw[hk.cell]
  simp only[List.length_cons,List.length_nil]at h
  match k,h with
  | 0,_=>rfl | 1,_=>rfl) (by omega))
 have HB2:=Lib.hid ((HB.out.below.trans ((HC.out.back m).mono HB.out.below.size)).alloc (HB.out.below.trans ((HC.out.back m).mono HB.out.below.size)).size (.cells #[Value.int .i64 (cmpI a c),Value.int .i64 (cmpI b d)] 3))
 clear hk
 go_wp2_with fail
 refine HO.out.mono ?_
 rintro e w9 ⟨rfl,rfl⟩
 go_wp2_with fail
 go_ret
 exact⟨by rw[HV.out];rfl,HB2.out⟩
theorem keeps_any (x y:Int×Fct.Id)(w:World)(hx:idOk x.2)(hy:idOk y.2):
 Calls Tryz.prog 153 #[.agg (kcells x none 0).toArray,.agg (kcells y none 0).toArray] w fun e w'=>e= .returned (.int .i64 (ordK x y))/\Below w.heap.size w w':=by
 obtain⟨w1,w2,hb⟩:=box2 w (kcells x none 0) (kcells y none 0) 95
 have bx1:=hb.b1
 have bx2:=hb.b2
 obtain⟨I,W,hC⟩:=cls_of w2
 have hne:Nonempty I:=hC.ne
 have c10:=hC.cell (show w2.cell? ⟨w.heap.size,0,none⟩=some (.int .i64 x.1)from hb.k1.cell 0)
 have c20:=hC.cell (show w2.cell? ⟨w.heap.size+1,0,none⟩=some (.int .i64 y.1)from hb.k2.cell 0)
 have QC:=Lib.hid (fun a b=>hC.call (P:=Tryz.prog) (f:=140) (args:=#[.int .i64 a,.int .i64 b]) (v:=.int .i64 (cmpI a b)) (fun w' hb=>(cmpI_any a b w').mono fun e w'' ⟨he,hw⟩=>⟨he,by subst hw;exact Below.refl _ _⟩))
 have l1:=fun n=>load_idr (g:=w.heap.size) (o:=1) hx.1 (range_below (rangeAt_sub hb.k1.range 1 (fun j v hv=>by rw[show 1+j=j+1 by omega];exact hv)) (hC.back n))
 have l2:=fun n=>load_idr (g:=w.heap.size+1) (o:=1) hy.1 (range_below (rangeAt_sub hb.k2.range 1 (fun j v hv=>by rw[show 1+j=j+1 by omega];exact hv)) (hC.back n))
 have QI:=Lib.hid (hC.call (P:=Tryz.prog) (f:=151) (args:=#[.agg (x.2.map v8).toArray,.agg (y.2.map v8).toArray]) (v:=.int .i64 (idC x.2 y.2)) (fun w' hb=>ids_any x.2 y.2 hx hy w'))
 have HB:=Lib.hid hb
 have HC:=Lib.hid hC
 clear hb hC hx hy
 have HV:=Lib.hid (show ordK x y=orC [cmpI x.1 y.1,idC x.2 y.2]from by rfl)
 go_enter Tryz.func153,Tryz.ntmps153
 go_wp2_with fail
 refine region_cls_tail W 10 (by kernel_rfl) (by kernel_rfl) HC.out.one ?_
 simp only[List.take_succ_cons,List.take_zero,List.drop_succ_cons,List.drop_zero]
 repeat go_big_quiet_step (((first | (go_at_call 140;exact QC.out _ _ _) | (go_at_call 151;exact QI.out _))))
 refine wpQuiet_nil ?_
 rintro _ ⟨m,rfl⟩
 have hk:=Blk.new (W m) #[Value.int .i64 (cmpI x.1 y.1),Value.int .i64 (idC x.2 y.2)] 3
 have HO:=Lib.hid (orC_any [cmpI x.1 y.1,idC x.2 y.2] 2 rfl (W m).heap.size ((W m).alloc (.cells #[Value.int .i64 (cmpI x.1 y.1),Value.int .i64 (idC x.2 y.2)] 3)) (fun k h=>by
  rw[hk.cell]
  simp only[List.length_cons,List.length_nil]at h
  match k,h with
  | 0,_=>rfl | 1,_=>rfl) (by omega))
 have HB2:=Lib.hid ((HB.out.below.trans ((HC.out.back m).mono HB.out.below.size)).alloc (HB.out.below.trans ((HC.out.back m).mono HB.out.below.size)).size (.cells #[Value.int .i64 (cmpI x.1 y.1),Value.int .i64 (idC x.2 y.2)] 3))
 clear hk
 go_wp2_with fail
 refine HO.out.mono ?_
 rintro e w9 ⟨rfl,rfl⟩
 go_wp2_with fail
 go_ret
 exact⟨by rw[HV.out];rfl,HB2.out⟩
theorem hints_any (x y:Int×Int×Fct.Id)(w:World)(hx:idOk x.2.2)(hy:idOk y.2.2):
 Calls Tryz.prog 156 #[.agg (hcells x none 0).toArray,.agg (hcells y none 0).toArray] w fun e w'=>e= .returned (.int .i64 (ordH x y))/\Below w.heap.size w w':=by
 obtain⟨w1,w2,hb⟩:=box2 w (hcells x none 0) (hcells y none 0) 97
 have bx1:=hb.b1
 have bx2:=hb.b2
 obtain⟨I,W,hC⟩:=cls_of w2
 have hne:Nonempty I:=hC.ne
 have c10:=hC.cell (show w2.cell? ⟨w.heap.size,0,none⟩=some (.int .i64 x.1)from hb.k1.cell 0)
 have c20:=hC.cell (show w2.cell? ⟨w.heap.size+1,0,none⟩=some (.int .i64 y.1)from hb.k2.cell 0)
 have c11:=hC.cell (show w2.cell? ⟨w.heap.size,1,none⟩=some (.int .i64 x.2.1)from hb.k1.cell 1)
 have c21:=hC.cell (show w2.cell? ⟨w.heap.size+1,1,none⟩=some (.int .i64 y.2.1)from hb.k2.cell 1)
 have QC:=Lib.hid (fun a b=>hC.call (P:=Tryz.prog) (f:=140) (args:=#[.int .i64 a,.int .i64 b]) (v:=.int .i64 (cmpI a b)) (fun w' hb=>(cmpI_any a b w').mono fun e w'' ⟨he,hw⟩=>⟨he,by subst hw;exact Below.refl _ _⟩))
 have l1:=fun n=>load_idr (g:=w.heap.size) (o:=2) hx.1 (range_below (rangeAt_sub hb.k1.range 2 (fun j v hv=>by rw[show 2+j=j+2 by omega];exact hv)) (hC.back n))
 have l2:=fun n=>load_idr (g:=w.heap.size+1) (o:=2) hy.1 (range_below (rangeAt_sub hb.k2.range 2 (fun j v hv=>by rw[show 2+j=j+2 by omega];exact hv)) (hC.back n))
 have QI:=Lib.hid (hC.call (P:=Tryz.prog) (f:=151) (args:=#[.agg (x.2.2.map v8).toArray,.agg (y.2.2.map v8).toArray]) (v:=.int .i64 (idC x.2.2 y.2.2)) (fun w' hb=>ids_any x.2.2 y.2.2 hx hy w'))
 have HB:=Lib.hid hb
 have HC:=Lib.hid hC
 clear hb hC hx hy
 have HV:=Lib.hid (show ordH x y=orC [cmpI x.1 y.1,cmpI x.2.1 y.2.1,idC x.2.2 y.2.2]from by rfl)
 go_enter Tryz.func156,Tryz.ntmps156
 go_wp2_with fail
 refine region_cls_tail W 15 (by kernel_rfl) (by kernel_rfl) HC.out.one ?_
 simp only[List.take_succ_cons,List.take_zero,List.drop_succ_cons,List.drop_zero]
 repeat go_big_quiet_step (((first | (go_at_call 140;exact QC.out _ _ _) | (go_at_call 151;exact QI.out _))))
 refine wpQuiet_nil ?_
 rintro _ ⟨m,rfl⟩
 have hk:=Blk.new (W m) #[Value.int .i64 (cmpI x.1 y.1),Value.int .i64 (cmpI x.2.1 y.2.1),Value.int .i64 (idC x.2.2 y.2.2)] 3
 have HO:=Lib.hid (orC_any [cmpI x.1 y.1,cmpI x.2.1 y.2.1,idC x.2.2 y.2.2] 3 rfl (W m).heap.size ((W m).alloc (.cells #[Value.int .i64 (cmpI x.1 y.1),Value.int .i64 (cmpI x.2.1 y.2.1),Value.int .i64 (idC x.2.2 y.2.2)] 3)) (fun k h=>by
  rw[hk.cell]
  simp only[List.length_cons,List.length_nil]at h
  match k,h with
  | 0,_=>rfl | 1,_=>rfl | 2,_=>rfl) (by omega))
 have HB2:=Lib.hid ((HB.out.below.trans ((HC.out.back m).mono HB.out.below.size)).alloc (HB.out.below.trans ((HC.out.back m).mono HB.out.below.size)).size (.cells #[Value.int .i64 (cmpI x.1 y.1),Value.int .i64 (cmpI x.2.1 y.2.1),Value.int .i64 (idC x.2.2 y.2.2)] 3))
 clear hk
 go_wp2_with fail
 refine HO.out.mono ?_
 rintro e w9 ⟨rfl,rfl⟩
 go_wp2_with fail
 go_ret
 exact⟨by rw[HV.out];rfl,HB2.out⟩
end
section
open Go.RowKit Sha Fct
theorem ordc_K (x y:Int×Fct.Id)(q r:Option Addr)(c d:Nat)(w:World)(hx:sK.ok x)(hy:sK.ok y):
 Calls Tryz.prog 153 #[.agg (kcells x q c).toArray,.agg (kcells y r d).toArray] w fun e w'=>e= .returned (.int .i64 (ordK x y))/\Below w.heap.size w w':=keeps_any x y w hx.2 hy.2
theorem ordn_K (x y:Int×Fct.Id):ordK x y < 0↔klt (id x) (id y)=true:=ordK_neg x y
theorem ordz_K (x y:Int×Fct.Id):ordK x y=0↔id x=id y:=ordK_zero x y
theorem execOp_loadOK (ρ:Operand->Value)(dst:Option Tmp)(x:Operand)(ty:TypeId)(pos:String)(after:Array Edge)(guard:Option (Nat×Bool)):
 execOp ρ {dst:=dst,op:=.load 95 x,type:=ty,pos:=pos,after:=after,guard:=guard}= loadOp 95 (ρ x):=by unfold loadOp;rfl
theorem load_OK {w:World} {g o:Nat} {x:Int×Fct.Id}(hx:sK.ok x) {q:Option Addr} {c:Nat}(h:w.rangeAt g o (kcells x q c)):(loadOp 95 (.pointer (some ⟨g,o,none⟩))).run Tryz.prog w= .ok (.value (.agg (kcells x q c).toArray)) w:=
 run_loadOp (run_loadAt_mid w g o 95 _ _ h Tryz.underlying95 rfl (by rw[isize_K];exact congrArg some (sK.len q c hx).symm))
attribute [local go_sem ↓] execOp_loadOK execOp_boxOK
theorem bs_K (l:List (Int×Fct.Id))(p:Option Addr)(n c:Nat)(w:World)(h:sK.Told w p n c l)(hup:Rise.Up id klt l)(x:Int×Fct.Id)(q:Option Addr)(d:Nat)(hx:sK.ok x)(hn:n<=1000000000):
 Calls Tryz.prog 173 #[.slice p n c,.agg (kcells x q d).toArray,.func (.func 153) #[] #[]] w fun e w'=>
  e= .returned (.tuple #[.int .i64 (Rise.place id klt (id x) l:Nat),.bool (Rise.found id klt (id x) l)])/\Below w.heap.size w w':=by
 have bx:=run_boxOp (P:=Tryz.prog) (t:=95) (cs:=(kcells x q d).toArray) w
 have hb1:=(Below.refl w.heap.size w).alloc (Nat.le_refl _) (.cells (kcells x q d).toArray 95)
 have hk1:Blk (w.alloc (.cells (kcells x q d).toArray 95)) w.heap.size (kcells x q d) 95:=Blk.new w _ 95
 obtain⟨w1,hw1⟩:∃v,v=w.alloc (.cells (kcells x q d).toArray 95):=⟨_,rfl⟩
 rw[<-hw1]at bx hb1 hk1
 obtain⟨g0,hg0⟩:∃g,g=w.heap.size:=⟨_,rfl⟩
 rw[<-hg0]at bx hk1
 obtain⟨pl,hpl⟩:∃k,k=Rise.place id klt (id x) l:=⟨_,rfl⟩
 have hple:pl<=n:=by rw[hpl,h.len];exact Rise.place_le _ _
 have HPL:=Lib.hid hpl
 have HB1:=Lib.hid hb1
 have HK:=Lib.hid hk1
 have HT:=Lib.hid (h.below hb1)
 have HX:=Lib.hid hx
 have HUP:=Lib.hid hup
 have HN:=Lib.hid (show n=l.length from h.len)
 rw[<-hpl]
 obtain⟨fd,hfd⟩:∃f,f=Rise.found id klt (id x) l:=⟨_,rfl⟩
 have HFD:=Lib.hid hfd
 rw[<-hfd]
 clear hfd hw1 hg0 hpl hb1 hk1 h hup hx
 go_enter Tryz.func173,Tryz.ntmps173
 go_wp2_with fail
 go_loopw [9,10] (fun i j wr=>∃a b:Nat,i= .int .i64 a/\j= .int .i64 b/\a<=pl/\pl<=b/\b<=n/\Hid (Below w1.heap.size w1 wr)) (fun i j _=>(intOf j).toNat - (intOf i).toNat)
 case atStart=>exact⟨0,n,rfl,rfl,by omega,hple,by omega,Lib.hid (Below.refl _ _)⟩
 case round=>
  obtain⟨a,b,rfl,rfl,ha,hb,hbn,HBR⟩:=hrel
  by_cases hab:a < b
  ·obtain⟨m,hm⟩:∃m,m=(a+b) / 2:=⟨_,rfl⟩
   have hma:a<=m/\m < b:=by omega
   have hm2:((a:Int)+(b:Int)) / 2=(m:Int):=by omega
   have hml:m < l.length:=by rw[<-HN.out];omega
   obtain⟨b0,off,q2,c2,hp,hr,hgd⟩:=(HT.out.below HBR.out).rows.get m hml
   obtain⟨y,hy⟩:∃y,y=l[m]:=⟨_,rfl⟩
   have hlo:=fun h=>Rise.place_lt (key:=id) (lt:=klt) (id x) l m hml (by rw[<-HPL.out];exact h)
   have hhi:=fun h=>Rise.place_ge klt_ord (id x) l HUP.out m hml (by rw[<-HPL.out];exact h)
   rw[<-hy]at hr hgd hlo hhi
   subst hp
   have hr2:wr.rangeAt b0 (off+m*33) (kcells y q2 c2):=hr
   obtain⟨I,W,hC⟩:=cls_of wr
   have hne:Nonempty I:=hC.ne
   have lM:=fun n=>load_OK hgd.ok (range_below hr2 (hC.back n))
   have lX:=fun n=>load_OK HX.out ((HK.out.below HBR.out HK.out.lt).below (hC.back n) (HK.out.below HBR.out HK.out.lt).lt).range
   have QS:=Lib.hid (hC.call (P:=Tryz.prog) (f:=153) (args:=#[.agg (kcells y q2 c2).toArray,.agg (kcells x q d).toArray]) (v:=.int .i64 (ordK y x)) (fun w' hb=>ordc_K y x q2 q c2 d w' hgd.ok HX.out))
   have hjn:(0:Int)<=(m:Int)/\(m:Int) < (n:Int):=by omega
   have HC:=Lib.hid hC
   have HDN:=Lib.hid (ordn_K y x)
   generalize hod:ordK y x=od at *
   clear hod hr hr2 hgd hy hml hm hC
   by_cases hpm:m < pl
   ·have t1:decide (od < 0)=true:=by rw[decide_eq_true_iff];exact HDN.out.2 (hlo hpm)
    clear hlo hhi HDN
    go_wp2_with fail
    refine wp_region_cls W (by kernel_rfl) (by kernel_rfl) HC.out.one ?_
    repeat go_big_quiet_step ((go_at_call 153;exact QS.out _))
    refine wpQuiet_nil ?_
    rintro _ ⟨nq,rfl⟩
    have HB2:=Lib.hid (HBR.out.trans ((HC.out.back nq).mono HBR.out.size))
    clear lM lX QS hm2
    go_wp2_with fail
    go_roundw
    case rel=>exact⟨m+1,b,by go_num,rfl,by omega,hb,hbn,HB2⟩
    case measure=>simp[intOf];omega
   ·have t1:decide (od < 0)=false:=by
     rw[decide_eq_false_iff_not]
     intro h
     have h2:=HDN.out.1 h
     rw[hhi (by omega)]at h2;cases h2
    clear hlo hhi HDN
    go_wp2_with fail
    refine wp_region_cls W (by kernel_rfl) (by kernel_rfl) HC.out.one ?_
    repeat go_big_quiet_step ((go_at_call 153;exact QS.out _))
    refine wpQuiet_nil ?_
    rintro _ ⟨nq,rfl⟩
    have HB2:=Lib.hid (HBR.out.trans ((HC.out.back nq).mono HBR.out.size))
    clear lM lX QS hm2
    go_wp2_with fail
    go_roundw
    case rel=>exact⟨a,m,rfl,rfl,ha,by omega,by omega,HB2⟩
    case measure=>simp[intOf];omega
  ·obtain rfl:a=pl:=by omega
   obtain rfl:b=a:=by omega
   by_cases hbl:b < n
   ·have hml:b < l.length:=by rw[<-HN.out];omega
    obtain⟨b0,off,q2,c2,hp,hr,hgd⟩:=(HT.out.below HBR.out).rows.get b hml
    have hfi:fd=true↔id l[b] = id x:=by
     have h2:=Rise.found_iff (key:=id) (lt:=klt) (id x) l
     rw[<-HFD.out]at h2
     rw[h2]
     have h3:=HPL.out
     constructor
     ·rintro⟨_,h⟩;simpa only[<-h3]using h
     ·intro h;exact⟨by rw[<-h3];exact hml,by simpa only[<-h3]using h⟩
    obtain⟨y,hy⟩:∃y,y=l[b]:=⟨_,rfl⟩
    rw[<-hy]at hr hgd hfi
    subst hp
    have hr2:wr.rangeAt b0 (off+b*33) (kcells y q2 c2):=hr
    obtain⟨I,W,hC⟩:=cls_of wr
    have hne:Nonempty I:=hC.ne
    have lM:=fun n=>load_OK hgd.ok (range_below hr2 (hC.back n))
    have lX:=fun n=>load_OK HX.out ((HK.out.below HBR.out HK.out.lt).below (hC.back n) (HK.out.below HBR.out HK.out.lt).lt).range
    have QS:=Lib.hid (hC.call (P:=Tryz.prog) (f:=153) (args:=#[.agg (kcells y q2 c2).toArray,.agg (kcells x q d).toArray]) (v:=.int .i64 (ordK y x)) (fun w' hb=>ordc_K y x q2 q c2 d w' hgd.ok HX.out))
    have hjn:(0:Int)<=(b:Int)/\(b:Int) < (n:Int):=by omega
    have HC:=Lib.hid hC
    have hdz:=ordz_K y x
    have t1:(ordK y x == 0)=fd:=by
     rw[Bool.eq_iff_iff,beq_iff_eq,hdz];exact hfi.symm
    have tg:decide ((b:Int) < (n:Int))=true:=by simpa using hbl
    generalize ordK y x=od at *
    clear hdz hr hr2 hgd hy hml hC hfi
    go_wp2_with fail
    refine wp_region_cls W (by kernel_rfl) (by kernel_rfl) HC.out.one ?_
    repeat go_big_quiet_step ((go_at_call 153;exact QS.out _))
    refine wpQuiet_nil ?_
    rintro _ ⟨nq,rfl⟩
    have HB2:=Lib.hid (HB1.out.trans ((HBR.out.trans ((HC.out.back nq).mono HBR.out.size)).mono HB1.out.size))
    clear lM lX QS
    go_wp2_with fail
    go_ret2
    exact⟨rfl,HB2.out⟩
   ·have hf2:fd=false:=by
     rw[Bool.eq_false_iff]
     intro h
     rw[HFD.out,Rise.found_iff]at h
     obtain⟨h2,_⟩:=h
     rw[<-HPL.out,<-HN.out]at h2
     exact hbl h2
    subst hf2
    have tg:decide ((b:Int) < (n:Int))=false:=by simpa using hbl
    obtain⟨I,W,hC⟩:=cls_of wr
    have hne:Nonempty I:=hC.ne
    have HC:=Lib.hid hC
    clear hC
    go_wp2_with fail
    refine wp_region_cls W (by kernel_rfl) (by kernel_rfl) HC.out.one ?_
    repeat go_big_quiet_step (fail)
    refine wpQuiet_nil ?_
    rintro _ ⟨nq,rfl⟩
    have HB2:=Lib.hid (HB1.out.trans ((HBR.out.trans ((HC.out.back nq).mono HBR.out.size)).mono HB1.out.size))
    go_wp2_with fail
    go_ret2
    exact⟨rfl,HB2.out⟩
end
section
open Go.RowKit Sha Fct
theorem rset_any (n:Int)(w:World):Calls Tryz.prog 50 #[.int .i64 n] w fun e w'=>e= .returned (.bool (decide (1<=n/\n<=2147483647)))/\w'=w:=by
 by_cases h1:1<=n
 ·have e1:decide (n>=1)=true:=decide_eq_true h1
  have e2:decide (1<=n/\n<=2147483647)=decide (n<=2147483647):=by simp[h1]
  rw[e2]
  go_enter Tryz.func50,Tryz.ntmps50
  go_wp2_with fail
  go_ret
  exact⟨rfl,rfl⟩
 ·have e1:decide (n>=1)=false:=decide_eq_false h1
  have e2:decide (1<=n/\n<=2147483647)=false:=by simp[h1]
  rw[e2]
  go_enter Tryz.func50,Tryz.ntmps50
  go_wp2_with fail
  go_ret
  exact⟨rfl,rfl⟩
theorem rnode_any (n:Int)(w:World):Calls Tryz.prog 51 #[.int .i64 n] w fun e w'=>e= .returned (.bool (decide (1<=n/\n<=64)))/\w'=w:=by
 by_cases h1:1<=n
 ·have e1:decide (n>=1)=true:=decide_eq_true h1
  have e2:decide (1<=n/\n<=64)=decide (n<=64):=by simp[h1]
  rw[e2]
  go_enter Tryz.func51,Tryz.ntmps51
  go_wp2_with fail
  go_ret
  exact⟨rfl,rfl⟩
 ·have e1:decide (n>=1)=false:=decide_eq_false h1
  have e2:decide (1<=n/\n<=64)=false:=by simp[h1]
  rw[e2]
  go_enter Tryz.func51,Tryz.ntmps51
  go_wp2_with fail
  go_ret
  exact⟨rfl,rfl⟩
end
end Go.Proofs.YtokpabkcaofahaaGreat
