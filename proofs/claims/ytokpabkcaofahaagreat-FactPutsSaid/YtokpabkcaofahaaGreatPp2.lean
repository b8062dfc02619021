/-
  What stands under factPuts_holds: part 2.
-/
import Derived.Test.YtokpabkcaofahaaGreatPp1
import Derived.Deep.RegionLaw
import Derived.Deep.AppendLies
import Derived.Lib.AppendZerosOnto
import Derived.Lib.Overlaps
import Derived.Laws.BytesArg
import Derived.Laws.StructEq
namespace Go.Proofs.YtokpabkcaofahaaGreat
set_option linter.unusedSimpArgs false
set_option linter.unusedVariables false
set_option maxRecDepth 100000
set_option maxHeartbeats 20000000
section
variable {P:Program}
theorem run_app_s (w:World)(B:Nat)(t ty e:TypeId)(i:TypeInfo)(z:Value)(size:Nat)(hsz:0 < size)(by_:Nat)(ht:P.underlying t=some (.slice e))(hi:P.info? e=some i)(hz:i.zero=some z)(h1s:i.size=size)(hby:i.bytes=by_)(hzs:z.cells.size=size)
 (v:Value) (n:Nat) (xs:List Value) (hown:w.ownsRow B e size v n xs)
 (ad:Addr) (m c:Nat) (news:List Value) (hl:news.length=m*size) (hnews:∀j u,news[j]? = some u->w.cell? (ad.add j)=some u) (h1:∀u∈news,u.oneCell'=true)
 (hmax:n+m<=maxLen) (hbytes:(n+m)*by_<=140737488355328) (hB:B<=w.heap.size):
 ∃v' w',(Builtin.append_ #[t,t] ty #[v,.slice (some ad) m c]).run P w= .ok v' w'/\w'.ownsRow B e size v' (n+m) (xs++news)/\w.grownBy w' v.ownBlock/\∀g,v'.ownBlock=some g->v.ownBlock=some g\/w.heap.size<=g:=by
 by_cases hm:m=0
 ·obtain⟨v',w',hr,h2,h3,_⟩:=run_append_own (P:=P) w B t ty e i z size by_ ht hi hz h1s hby hzs hsz v n xs hown ad m c news hl hnews h1 hmax hbytes hB
  refine⟨v',w',hr,h2,h3,?_⟩
  subst hm
  have hn:news= []:=List.eq_nil_of_length_eq_zero (by simpa using hl)
  subst hn
  rcases hown.2 with⟨rfl,rfl⟩ | ⟨g,cap,cur,rfl,hbg,hg,hnc,hcm,hcs,htake⟩
  ·have hr':(Builtin.append_ #[t,t] ty #[.slice none 0 0,.slice (some ad) 0 c]).run P w= .ok (.slice none 0 0) w:=by
    simp[Builtin.append_,run_underlying ht,sizeOf,typeInfo,hi,Builtin.lenOf,Builtin.firstCells,loadCells,loadCellsFrom]
   rw[hr']at hr
   cases hr
   intro g hg;cases hg
  ·have hfit:n*i.size+([]:List Value).length<=cur.size:=by rw[h1s,hcs];simpa using Nat.mul_le_mul_right size hnc
   have hr':=run_append_room (P:=P) w t ty e i ht hi g n cap cur hg ad 0 c [] (by simp) hnews h1 (by omega) hfit
   rw[hr']at hr
   cases hr
   intro g' hg';exact .inl hg'
 ·obtain⟨g,cap,w',hr,h2,h3,h4,h5⟩:=run_append_lies (P:=P) w t ty B e i z size by_ ht hi hz h1s hby hzs hsz v n xs hown ad m c news hl hnews h1 (by omega) hmax hbytes hB _ rfl
  refine⟨_,w',hr,h2,h3,fun g' hg'=>?_⟩
  cases hg'
  rcases h4 with h | h
  ·exact .inl h
  ·exact .inr (by show w.heap.size<=g;omega)
variable {ops:Array Oper} {rest:List Oper} {o:Oper} {a:Act} {w:World} {Q:Exit->Act->World->Prop} {K:Act->World->Prop} {E:Prop}
theorem wp_app_s (s x:Operand)(t:TypeId)(ho:o.op= .call {callee:=.builtin .append,args:=#[s,x],argTypes:=#[t,t]})
 (B:Nat) (e:TypeId) {z:Value} {size by_:Nat} (hsz:0 < size) (ht:P.underlying t=some (.slice e)) (hi:(P.info? e).map (fun i=>(i.zero,i.size,i.bytes))=some (some z,size,by_)) (hz:z.cells.size=size)
 (v:Value) (n:Nat) (xs:List Value) (hs:a.eval s=v) (hown:w.ownsRow B e size v n xs)
 (p:Option Addr) (m c:Nat) (news:List Value) (hx:a.eval x= .slice p m c) (hA:At w p news) (hl:news.length=m*size) (hn:p=none->c=0) (hmc:m<=c) (h1:∀u∈news,u.oneCell'=true)
 (hbytes:(n+m)*by_<=140737488355328) (hmax:n+m<=maxLen) (hB:B<=w.heap.size)
 (h:∀v' w',w'.ownsRow B e size v' (n+m) (xs++news)->w.grownBy w' v.ownBlock->(∀g,v'.ownBlock=some g->v.ownBlock=some g\/w.heap.size<=g)->K (a.put o.dst v') w'):o.wp P a w K Q:=by
 obtain⟨i,hi,hz0,hz1,hz2⟩:=info_parts hi
 cases p with
 | none=>
    have hc:=hn rfl
    have hm:m=0:=by omega
    subst hc hm
    have hnews:news= []:=List.eq_nil_of_length_eq_zero (by simpa using hl)
    subst hnews
    have hrun:=run_append_owned_none (P:=P) (w:=w) B t o.type e i size ht hi v n xs hown
    unfold Oper.wp
    simp[execOp,ho,resolve,invoke,builtin,hs,hx,hrun,Result.andThen]
    exact h v w (by simpa using hown) ⟨rfl,rfl,rfl,Nat.le_refl _,fun _ _ _=>rfl⟩ (fun g hg=>.inl hg)
 | some ad=>
    obtain⟨v',w',hr,h2,h3,h4⟩:=run_app_s (P:=P) w B t o.type e i z size hsz by_ ht hi hz0 hz1 hz2 hz v n xs hown ad m c news hl (by
     intro j u hj
     rcases hA with hA | ⟨b,off,hA,hc⟩
     ·subst hA;simp at hj
     ·cases hA;rw[Addr.add_mid];exact hc j u hj) h1 hmax hbytes hB
    unfold Oper.wp
    simp[execOp,ho,resolve,invoke,builtin,hs,hx,hr,Result.andThen]
    exact h v' w' h2 h3 h4
theorem wpList_app_s (hgd:o.guard=none)(s x:Operand)(t:TypeId)(ho:o.op= .call {callee:=.builtin .append,args:=#[s,x],argTypes:=#[t,t]})
 (B:Nat) (e:TypeId) {z:Value} {size by_:Nat} (hsz:0 < size) (ht:P.underlying t=some (.slice e)) (hi:(P.info? e).map (fun i=>(i.zero,i.size,i.bytes))=some (some z,size,by_)) (hz:z.cells.size=size)
 (v:Value) (n:Nat) (xs:List Value) (hs:a.eval s=v) (hown:w.ownsRow B e size v n xs)
 (p:Option Addr) (m c:Nat) (news:List Value) (hx:a.eval x= .slice p m c) (hA:At w p news) (hl:news.length=m*size) (hn:p=none->c=0) (hmc:m<=c) (h1:∀u∈news,u.oneCell'=true)
 (hbytes:(n+m)*by_<=140737488355328) (hmax:n+m<=maxLen) (hB:B<=w.heap.size)
 (h:∀v' w',w'.ownsRow B e size v' (n+m) (xs++news)->w.grownBy w' v.ownBlock->(∀g,v'.ownBlock=some g->v.ownBlock=some g\/w.heap.size<=g)->wpList P ops Q rest (a.put o.dst v') w'):wpList P ops Q (o::rest) a w:=
 wpList_plain hgd fun _ hK=>wp_app_s s x t ho B e hsz ht hi hz v n xs hs hown p m c news hx hA hl hn hmc h1 hbytes hmax hB fun v' w' h1 h2 h3=>hK _ _ (h v' w' h1 h2 h3)
theorem step_app_s (hgd:o.guard=none)(s x:Operand)(t:TypeId)(ho:o.op= .call {callee:=.builtin .append,args:=#[s,x],argTypes:=#[t,t]})
 (B:Nat) (e:TypeId) {z:Value} {size by_:Nat} (hsz:0 < size) (ht:P.underlying t=some (.slice e)) (hi:(P.info? e).map (fun i=>(i.zero,i.size,i.bytes))=some (some z,size,by_)) (hz:z.cells.size=size)
 (v:Value) (n:Nat) (xs:List Value) (hs:a.eval s=v) (hown:w.ownsRow B e size v n xs)
 (p:Option Addr) (m c:Nat) (news:List Value) (hx:a.eval x= .slice p m c) (hA:At w p news) (hl:news.length=m*size) (hn:p=none->c=0) (hmc:m<=c) (h1:∀u∈news,u.oneCell'=true)
 (hbytes:(n+m)*by_<=140737488355328) (hmax:n+m<=maxLen) (hB:B<=w.heap.size)
 (h:∀v' w',w'.ownsRow B e size v' (n+m) (xs++news)->w.grownBy w' v.ownBlock->(∀g,v'.ownBlock=some g->v.ownBlock=some g\/w.heap.size<=g)->K (a.put o.dst v') w'):
 if Region.wanted o (yielded ops a.tmps)=true then Oper.wp P o a w K Q else E:=by
 have hw:Region.wanted o (yielded ops a.tmps)=true:=by simp[Region.wanted,hgd]
 rw[if_pos hw]
 exact wp_app_s s x t ho B e hsz ht hi hz v n xs hs hown p m c news hx hA hl hn hmc h1 hbytes hmax hB h
end
section
open Go.RowKit Sha
section
variable {P:Program}
@[irreducible] def sliceOp (t:TypeId) (v:Value) (lo hi:Option Value):Sem Next:=do pure (.value (<-Instr.sliceAt t v lo hi none))
theorem run_sliceOp {t:TypeId} {v u:Value} {lo hi:Option Value} {w:World}(h:(Instr.sliceAt t v lo hi none).run P w= .ok u w):(sliceOp t v lo hi).run P w= .ok (.value u) w:=by
 unfold sliceOp;simp only[Sem.run_bind,h,Result.andThen_ok,Sem.run_pure]
variable {t e:TypeId} {s:Nat}
theorem size_ofS (he:(P.info? e).map (fun i=>i.size)=some s)(w:World):(sizeOf e).run P w= .ok s w:=by
 cases hq:P.info? e with
 | none=>simp[hq]at he
 | some j=>simp[hq]at he;simp[sizeOf,typeInfo,hq,he]
theorem elem_ofS (hu:P.underlying t=some (.slice e)):P.elem t=e:=by simp[Program.elem,hu]
theorem run_cutS_l (hu:P.underlying t=some (.slice e))(he:(P.info? e).map (fun i=>i.size)=some s)(p:Option Addr)(len cap k:Nat)(hk:k<=len)(hc:len<=cap)(w:World):
 (Instr.sliceAt t (.slice p len cap) (some (.int .i64 k)) none none).run P w= .ok (.slice (if cap=k then p else p.map (·.add (k*s))) (len - k) (cap - k)) w:=by
 have hu':P.underlying t=some (.slice (P.elem t)):=by rw[elem_ofS hu];exact hu
 rw[run_sliceAt_slice w t _ _ _ _ hu',run_slice_l w t p len cap hu' .i64 k (by omega) (by omega),elem_ofS hu,size_ofS he]
 simp[Result.andThen,sliced]
theorem run_cutS_h (hu:P.underlying t=some (.slice e))(he:(P.info? e).map (fun i=>i.size)=some s)(p:Option Addr)(len cap k:Nat)(hk:k<=cap)(w:World):
 (Instr.sliceAt t (.slice p len cap) none (some (.int .i64 k)) none).run P w= .ok (.slice p k cap) w:=by
 have hu':P.underlying t=some (.slice (P.elem t)):=by rw[elem_ofS hu];exact hu
 rw[run_sliceAt_slice w t _ _ _ _ hu',run_slice_h w t p len cap hu' .i64 k (by omega) (by omega),elem_ofS hu,size_ofS he]
 simp[Result.andThen,sliced]
 intro _
 cases p with
 | none=>rfl
 | some a=>simp[Addr.add]
theorem run_copyS (w:World)(hu:P.underlying t=some (.slice e))(he:(P.info? e).map (fun i=>i.size)=some s)(g off dLen dCap:Nat)(a:Addr)(sLen sCap k:Nat)(cs:List Value)(hk:k=Nat.min sLen dLen)(hl:cs.length=k*s)
 (hc:∀j v,cs[j]? = some v->w.cell? (a.add j)=some v) (ht:w.there g off cs.length) (h1:∀v∈cs,v.oneCell'=true) (ty:TypeId):
 (Builtin.copy_ #[t,t] ty #[.slice (some ⟨g,off,none⟩) dLen dCap,.slice (some a) sLen sCap]).run P w= .ok (goInt k) (w.setCells g off cs):=by
 have h2:=run_storeCells_cells (P:=P) g off cs 0 w (fun j hj=>by simpa using(ht j hj).1) (fun j hj=>by simpa using(ht j hj).2) h1
 have h3:=run_firstCells_some (P:=P) w s k a sLen sCap cs hl hc
 simp only[Nat.add_zero]at h2
 simp[Builtin.copy_,run_underlying hu,Builtin.lenOf,size_ofS he,<-hk,h3,h2,Result.andThen]
theorem copy_law (w:World) {ops:Array Oper} {rest:List Oper} {o:Oper} {a:Act} {Q:Exit->Act->World->Prop}(hgd:o.guard=none)(d x:Operand)(t1 t2:TypeId)
 (ho:o.op= .call {callee:=.builtin .copy,args:=#[d,x],argTypes:=#[t1,t2]}) (v u:Value) (hd:a.eval d=v) (hs:a.eval x=u) {v':Value} {w':World}
 (hr:(Builtin.copy_ #[t1,t2] o.type #[v,u]).run P w= .ok v' w') (h:wpList P ops Q rest (a.put o.dst v') w'):wpList P ops Q (o::rest) a w:=by
 refine wpList_plain hgd fun K hK=>?_
 unfold Oper.wp execOp
 simp only[ho,resolve,invoke,builtin,Sem.run_bind,Sem.run_pure,Result.andThen_ok,List.map_toArray,List.map_cons,List.map_nil,hd,hs,hr]
 exact hK _ _ h
theorem copy_step {ops:Array Oper} {o:Oper} {a:Act} {w:World} {K:Act->World->Prop} {Q:Exit->Act->World->Prop} {E:Prop}
 (hg:o.guard=none) (d x:Operand) (t1 t2:TypeId) (hop:o.op=Op.call {callee:=Callee.builtin Builtin.copy,args:=#[d,x],argTypes:=#[t1,t2]})
 (v u:Value) (hd:a.eval d=v) (hx:a.eval x=u) {v':Value} {w':World} (hr:(Builtin.copy_ #[t1,t2] o.type #[v,u]).run P w= .ok v' w') (hK:K (a.put o.dst v') w'):
 if Region.wanted o (yielded ops a.tmps)=true then Oper.wp P o a w K Q else E:=by
 have hw:Region.wanted o (yielded ops a.tmps)=true:=by simp[Region.wanted,hg]
 rw[if_pos hw]
 unfold Oper.wp execOp
 simp only[hop,resolve,invoke,builtin,Sem.run_bind,Sem.run_pure,Result.andThen_ok,List.map_toArray,List.map_cons,List.map_nil,hd,hx,hr]
 exact hK
end
section
variable {w:World} {B n s:Nat} {e:TypeId} {v:Value} {xs:List Value}
theorem own_whole (h:w.ownsRow B e s v n xs)(hn:0 < n):∃g cap rest,v= .slice (some ⟨g,0,none⟩) n cap/\B<=g/\n<=cap/\cap<=maxLen/\Blk w g (xs++rest) e/\xs.length=n*s/\(xs++rest).length=cap*s:=by
 obtain⟨h0,h⟩:=h
 rcases h with⟨_,h0⟩ | ⟨g,cap,cur,hv,hg,hh,h1,h2,h3,h4⟩
 ·omega
 ·refine⟨g,cap,cur.toList.drop (n*s),hv,hg,h1,h2,?_,h0,?_⟩
  ·rw[<-h4,List.take_append_drop]
   unfold Blk;simpa using hh
  ·rw[<-h4,List.take_append_drop];simpa using h3
theorem own_ofBlk {g cap:Nat} {rest:List Value}(hg:B<=g)(hk:Blk w g (xs++rest) e)(hn:n<=cap)(hm:cap<=maxLen)(hl:xs.length=n*s)(hl2:(xs++rest).length=cap*s):w.ownsRow B e s (.slice (some ⟨g,0,none⟩) n cap) n xs:=by
 refine⟨hl,Or.inr ⟨g,cap,(xs++rest).toArray,rfl,hg,hk,hn,hm,by simpa using hl2,?_⟩⟩
 rw[<-hl];simp
end
theorem cells_in {w:World} {g:Nat} {pre cs post:List Value} {t:TypeId}(h:Blk w g (pre++cs++post) t) {o:Nat}(ho:pre.length=o):∀j v,cs[j]? = some v->w.cell? ((⟨g,o,none⟩:Addr).add j)=some v:=fun j v hj=>by
 have hlt:=(List.getElem?_eq_some_iff.1 hj).1
 rw[Addr.add_mid,h.cell,List.append_assoc,List.getElem?_append_right (by omega),ho,Nat.add_sub_cancel_left,List.getElem?_append_left hlt]
 exact hj
end
section
namespace Fld
theorem num_pos (n:Nat):0 < (num n).length:=by
 by_cases h:n < 128
 ·rw[num_lt h];simp
 ·rw[num_ge (by omega)];simp
theorem num_bd (n:Nat):∀x∈num n,0<=x/\x<=255:=by
 induction n using Nat.strongRecOn with
 | _ n ih=>
    by_cases h:n < 128
    ·rw[num_lt h];simp;omega
    ·rw[num_ge (by omega)]
     intro x hx
     rcases List.mem_cons.1 hx with rfl | hx
     ·omega
     ·exact ih (n / 128) (by omega) x hx
theorem num_len (n:Nat):n < 128 ^ 9->(num n).length<=9:=by
 have:∀k n,n < 128 ^ (k+1)->(num n).length<=k+1:=by
  intro k
  induction k with
  | zero=>intro n h;rw[num_lt (by simpa using h)];simp
  | succ k ih=>
     intro n h
     by_cases h1:n < 128
     ·rw[num_lt h1];simp
     ·rw[num_ge (by omega),List.length_cons]
      have:=ih (n / 128) (by rw[Nat.pow_succ]at h;omega)
      omega
 exact this 8 n
theorem rd_num (m:Nat):∀(i acc:Nat)(rest:List Int),acc+m*128 ^ i<=4611686018427387903->(0 < i->0 < m)->rd i acc (num m++rest)=(0,((acc+m*128 ^ i:Nat):Int),i+(num m).length):=by
 induction m using Nat.strongRecOn with
 | _ m ih=>
    intro i acc rest h hm
    have hi:i≠9:=by
     rintro rfl
     have:=hm (by omega)
     omega
    by_cases h1:m < 128
    ·rw[num_lt h1]
     have e1:((m:Int) % 128).toNat=m:=by omega
     simp only[List.cons_append,List.nil_append,rd,if_neg hi,if_neg (show¬(128:Int)<=(m:Int) by omega),e1]
     rw[if_neg]
     ·simp
     ·rintro(⟨h2,h3⟩ | h2)
      ·have:=hm h3;omega
      ·omega
    ·rw[num_ge (by omega)]
     have e1:(((m % 128+128:Nat):Int) % 128).toNat=m % 128:=by omega
     have e2:acc+m % 128*128 ^ i+m / 128*128 ^ (i+1)=acc+m*128 ^ i:=by
      rw[Nat.pow_succ,Nat.mul_comm (128 ^ i) 128,<-Nat.mul_assoc,Nat.add_assoc,<-Nat.add_mul]
      congr 2
      omega
     simp only[List.cons_append,rd,if_neg hi,if_pos (show(128:Int)<=((m % 128+128:Nat):Int) by omega),e1]
     rw[ih (m / 128) (by omega) (i+1) (acc+m % 128*128 ^ i) rest (by rw[e2];exact h) (fun _=>by omega),e2]
     simp[List.length_cons];omega
theorem rd_back (bs:List Int):∀(i acc:Nat)(N:Int)(k:Nat),(∀n∈bs,0<=n/\n<=255)->rd i acc bs=(0,N,k)->
 ∃m:Nat,N=((acc+m*128 ^ i:Nat):Int)/\(0 < i->0 < m)/\acc+m*128 ^ i<=4611686018427387903/\k=i+(num m).length/\(num m).length<=bs.length/\bs.take (num m).length=num m:=by
 induction bs with
 | nil=>intro i acc N k _ h;simp[rd]at h
 | cons x r ih=>
    intro i acc N k hb h
    have hx:=hb x (List.mem_cons_self ..)
    have hr:∀n∈r,0<=n/\n<=255:=fun n hn=>hb n (List.mem_cons_of_mem _ hn)
    unfold rd at h
    by_cases h1:i=9
    ·rw[if_pos h1]at h;simp at h
    ·rw[if_neg h1]at h
     by_cases h2:(128:Int)<=x
     ·rw[if_pos h2]at h
      obtain⟨m,e1,e2,e3,e4,e5,e6⟩:=ih _ _ _ _ hr h
      have hm:0 < m:=e2 (by omega)
      have g1:((x % 128).toNat+128*m) / 128=m:=by omega
      have g2:(((x % 128).toNat+128*m) % 128+128:Nat)=x.toNat:=by omega
      have hn:num ((x % 128).toNat+128*m)=x::num m:=by
       rw[num_ge (by omega),g1,g2]
       congr 1
       omega
      have g3:acc+(x % 128).toNat*128 ^ i+m*128 ^ (i+1)=acc+((x % 128).toNat+128*m)*128 ^ i:=by
       rw[Nat.pow_succ,Nat.mul_comm (128 ^ i) 128,<-Nat.mul_assoc,Nat.add_assoc,<-Nat.add_mul,Nat.mul_comm 128 m]
      refine⟨(x % 128).toNat+128*m,by rw[e1,g3],fun _=>by omega,by rw[<-g3];exact e3,?_,?_,?_⟩
      ·rw[hn,List.length_cons];omega
      ·rw[hn,List.length_cons,List.length_cons];omega
      ·rw[hn,List.length_cons,List.take_succ_cons,e6]
     ·rw[if_neg h2]at h
      split at h
      ·simp at h
      ·rename_i h3
       simp only[Prod.mk.injEq,true_and]at h
       obtain⟨h4,h5⟩:=h
       have g1:(x % 128).toNat=x.toNat:=by omega
       have hn:num x.toNat= [x]:=by rw[num_lt (by omega)];congr 1;omega
       rw[g1]at h3 h4
       refine⟨x.toNat,h4.symm,fun hi=>?_,by omega,by rw[hn];simp;omega,by rw[hn];simp,by rw[hn];simp⟩
       by_cases hx0:x=0
       ·exact absurd (Or.inl ⟨hx0,hi⟩) h3
       ·omega
theorem rd_err (bs:List Int):∀i acc,(rd i acc bs).1=0\/((rd i acc bs).1=4\/(rd i acc bs).1=10)/\(rd i acc bs).2.1=0:=by
 induction bs with
 | nil=>intro i acc;right;simp[rd]
 | cons x r ih=>
    intro i acc
    unfold rd
    split
    ·right;simp
    ·split
     ·exact ih _ _
     ·split
      ·right;simp
      ·left;rfl
theorem rdTop_num (m:Nat)(rest:List Int)(h:m<=4000):rdTop (num m++rest)=(0,(m:Int),(num m).length):=by
 have h1:=rd_num m 0 0 rest (by omega) (by omega)
 simp only[Nat.pow_zero,Nat.mul_one,Nat.zero_add]at h1
 unfold rdTop
 rw[h1,if_neg (by simp;omega)]
theorem rdTop_back (bs:List Int)(N:Int)(k:Nat)(hb:∀n∈bs,0<=n/\n<=255)(h:rdTop bs=(0,N,k)):
 ∃m:Nat,N=(m:Int)/\m<=4000/\k=(num m).length/\(num m).length<=bs.length/\bs.take (num m).length=num m:=by
 unfold rdTop at h
 split at h
 ·simp at h
 ·rename_i h1
  obtain⟨m,e1,e2,e3,e4,e5,e6⟩:=rd_back bs 0 0 N k hb h
  simp only[Nat.pow_zero,Nat.mul_one,Nat.zero_add]at e1 e4
  rw[h]at h1
  exact⟨m,e1,by simp at h1;omega,e4,e5,e6⟩
theorem rd_back0 (bs:List Int)(N:Int)(k:Nat)(hb:∀n∈bs,0<=n/\n<=255)(h:rd 0 0 bs=(0,N,k)):
 ∃m:Nat,N=(m:Int)/\m<=4611686018427387903/\k=(num m).length/\(num m).length<=bs.length/\bs.take (num m).length=num m:=by
 obtain⟨m,e1,e2,e3,e4,e5,e6⟩:=rd_back bs 0 0 N k hb h
 simp only[Nat.pow_zero,Nat.mul_one,Nat.zero_add]at e1 e3 e4
 exact⟨m,e1,e3,e4,e5,e6⟩
theorem okFor_b {x:Itm}(h:okFor 98 x=true):x.N=0/\x.D=zero32:=by simpa[okFor]using h
theorem okFor_d {x:Itm}(h:okFor 100 x=true):x.N=0/\x.B= []:=by simpa[okFor]using h
theorem okFor_n {c:Int} {x:Itm}(h1:c≠98)(h2:c≠100)(h:okFor c x=true):x.B= []/\x.D=zero32:=by simpa[okFor,h1,h2]using h
theorem bound_zero {c:Int} {x:Itm}(h:bound c x=0):0<=x.N/\(c=110->x.N<=4611686018427387903)/\x.B.length<=4000/\(c=40->x.N<=4000):=by
 unfold bound at h
 split at h
 ·simp at h
 ·rename_i h1
  split at h
  ·simp at h
  ·rename_i h2
   refine⟨by omega,fun hc=>?_,by omega,fun hc=>?_⟩
   ·by_cases h3:4611686018427387903 < x.N
    ·exact absurd (Or.inr h3) h1
    ·omega
   ·by_cases h3:4000 < x.N
    ·exact absurd (Or.inr ⟨hc,h3⟩) h2
    ·omega
theorem bound_of {c:Int} {x:Itm}(h0:0<=x.N)(h1:x.N<=4611686018427387903)(h2:x.B.length<=4000)(h3:c=40->x.N<=4000):bound c x=0:=by
 unfold bound
 rw[if_neg (by omega),if_neg (by rintro(h | ⟨h,h'⟩);omega;have:=h3 h;omega)]
def isC (c:Int):Prop:=c=110\/c=98\/c=100\/c=40
theorem drop_len (out rest:List Int):(out++rest).drop out.length=rest:=by simp
theorem getS_put (c:Int)(x:Itm)(out rest:List Int)(acc:List Itm)(hc:isC c)(hx:x.ok)(ho:okFor c x=true)(hb:bound c x=0):
 getS (out++enc c x++rest) c (out.length,acc)=((out.length+(enc c x).length,acc++[x]),x.N,0):=by
 obtain⟨b0,b1,b2,b3⟩:=bound_zero hb
 have hd:(out++enc c x++rest).drop out.length=enc c x++rest:=by rw[List.append_assoc];simp
 by_cases h1:c=98
 ·subst h1
  obtain⟨n0,d0⟩:=okFor_b ho
  have he:enc 98 x=num x.B.length++x.B:=by simp[enc]
  have hr:=rdTop_num x.B.length (x.B++rest) b2
  unfold getS
  rw[if_pos rfl]
  simp only[hd]
  rw[he,List.append_assoc,hr]
  simp only[if_true,ite_true]
  rw[if_neg]
  ·have e2:(out++(num x.B.length++x.B)++rest).drop (out.length+(num x.B.length).length)=x.B++rest:=by
    have:out++(num x.B.length++x.B)++rest=(out++num x.B.length)++(x.B++rest):=by simp
    rw[this,<-List.length_append,drop_len]
   simp only[Int.toNat_natCast,e2,List.take_left',List.length_append,n0]
   have:x=⟨0,x.B,zero32⟩:=by cases x;simp_all
   rw[<-this];simp;omega
  ·simp;omega
 ·by_cases h2:c=100
  ·subst h2
   obtain⟨n0,d0⟩:=okFor_d ho
   have he:enc 100 x=x.D:=by simp[enc]
   unfold getS
   rw[if_neg h1,if_pos rfl]
   simp only[hd]
   rw[he,if_neg (by simp[hx.len])]
   have e3:(x.D++rest).take 32=x.D:=by rw[<-hx.len];simp
   have:x=⟨0,[],x.D⟩:=by cases x;simp_all
   rw[e3,<-this,hx.len,n0]
  ·obtain⟨n0,d0⟩:=okFor_n h1 h2 ho
   have he:enc c x=num x.N.toNat:=by simp[enc,h1,h2]
   have hr:(if c=40 then rdTop (num x.N.toNat++rest)else rd 0 0 (num x.N.toNat++rest))=(0,x.N,(num x.N.toNat).length):=by
    by_cases h3:c=40
    ·rw[if_pos h3,rdTop_num _ _ (by have:=b3 h3;omega)]
     simp;omega
    ·rw[if_neg h3]
     have hc1:c=110:=by rcases hc with h | h | h | h<;>simp_all
     have:=rd_num x.N.toNat 0 0 rest (by have:=b1 hc1;simp;omega) (by omega)
     rw[this];simp;omega
   unfold getS
   rw[if_neg h1,if_neg h2]
   simp only[hd]
   rw[he,hr]
   simp only[if_true,ite_true]
   have:x=⟨x.N,[],zero32⟩:=by cases x;simp_all
   rw[<-this]
theorem enc_len (c:Int)(x:Itm)(hx:x.ok)(ho:okFor c x=true)(hb:bound c x=0):(enc c x).length<=4009/\0 < (enc c x).length:=by
 obtain⟨b0,b1,b2,b3⟩:=bound_zero hb
 have h9:(128:Nat) ^ 9=9223372036854775808:=by decide
 by_cases h1:c=98
 ·subst h1
  have he:enc 98 x=num x.B.length++x.B:=by simp[enc]
  have:=num_len x.B.length (by rw[h9];omega)
  have:=num_pos x.B.length
  rw[he,List.length_append];omega
 ·by_cases h2:c=100
  ·subst h2
   have he:enc 100 x=x.D:=by simp[enc]
   rw[he,hx.len];omega
  ·have he:enc c x=num x.N.toNat:=by simp[enc,h1,h2]
   have:=num_len x.N.toNat (by rw[h9];have:=hx.N1;omega)
   have:=num_pos x.N.toNat
   rw[he];omega
theorem enc_bd (c:Int)(x:Itm)(hx:x.ok):∀n∈enc c x,0<=n/\n<=255:=by
 unfold enc
 split
 ·intro n hn;rcases List.mem_append.1 hn with h | h
  ·exact num_bd _ n h
  ·exact hx.B n h
 ·split
  ·exact hx.D
  ·exact num_bd _
theorem putS_ok {c:Int} {out out':List Int} {l l':List Itm} {n:Int}(h:putS c (out,l)=((out',l'),n,0)):
 ∃x,l=x::l'/\okFor c x=true/\bound c x=0/\out'=out++enc c x/\n=x.N:=by
 unfold putS at h
 cases l with
 | nil=>simp at h
 | cons x l=>
    simp only at h
    split at h
    ·rename_i h1
     split at h
     ·rename_i h2
      simp only[Prod.mk.injEq]at h
      obtain⟨⟨rfl,rfl⟩,rfl,_⟩:=h
      exact⟨x,rfl,h1,h2,rfl,rfl⟩
     ·rename_i h2
      simp only[Prod.mk.injEq]at h
      exact absurd h.2.2 h2
    ·simp at h
theorem getS_ok {b:List Int}(hb:∀n∈b,0<=n/\n<=255) {c:Int}(hc:isC c) {at_ at':Nat} {acc acc':List Itm} {n:Int}(ha:at_<=b.length)(h:getS b c (at_,acc)=((at',acc'),n,0)):
 ∃x:Itm,acc'=acc++[x]/\x.ok/\okFor c x=true/\bound c x=0/\n=x.N/\at_ < at'/\at'<=b.length/\b.take at'=b.take at_++enc c x:=by
 have hd:∀n∈b.drop at_,0<=n/\n<=255:=fun n hn=>hb n (List.mem_of_mem_drop hn)
 have htk:∀k,b.take (at_+k)=b.take at_++(b.drop at_).take k:=fun k=>List.take_add
 have z32:∀n∈zero32,(0:Int)<=n/\n<=255:=by unfold zero32;intro n hn;have:=List.eq_of_mem_replicate hn;omega
 unfold getS at h
 by_cases h1:c=98
 ·subst h1
  rw[if_pos rfl]at h
  simp only at h
  obtain⟨r,hr⟩:∃r,r=rdTop (b.drop at_):=⟨_,rfl⟩
  rw[<-hr]at h
  obtain⟨e,N,k⟩:=r
  simp only at h
  by_cases h2:e=0
  ·subst h2
   obtain⟨m,rfl,m1,rfl,m2,m3⟩:=rdTop_back _ _ _ hd hr.symm
   rw[if_pos rfl]at h
   split at h
   ·simp at h
   ·rename_i h3
    simp only[Prod.mk.injEq]at h
    obtain⟨⟨rfl,rfl⟩,rfl,_⟩:=h
    simp only[Int.toNat_natCast]at *
    have hl:((b.drop (at_+(num m).length)).take m).length=m:=by
     rw[List.length_take,List.length_drop];omega
    refine⟨_,rfl,⟨by simp,by simp,fun n hn=>hb n (List.mem_of_mem_drop (List.mem_of_mem_take hn)),z32,zero32_length⟩,by simp[okFor],?_,rfl,by have:=num_pos m;omega,by omega,?_⟩
    ·exact bound_of (by simp) (by simp) (by rw[hl];exact m1) (by simp)
    ·simp only[enc,if_pos,hl]
     rw[Nat.add_assoc,htk,List.take_add,m3,List.drop_drop]
  ·rw[if_neg h2]at h
   simp only[Prod.mk.injEq]at h
   exact absurd h.2.2 h2
 ·by_cases h2:c=100
  ·subst h2
   rw[if_neg h1,if_pos rfl]at h
   split at h
   ·simp at h
   ·rename_i h3
    simp only[Prod.mk.injEq]at h
    obtain⟨⟨rfl,rfl⟩,rfl,_⟩:=h
    have hl:((b.drop at_).take 32).length=32:=by rw[List.length_take,List.length_drop];omega
    refine⟨_,rfl,⟨by simp,by simp,by simp,fun n hn=>hd n (List.mem_of_mem_take hn),hl⟩,by simp[okFor],bound_of (by simp) (by simp) (by simp) (by simp),rfl,by omega,by omega,?_⟩
    simp only[enc,if_neg h1,if_pos]
    rw[htk]
  ·rw[if_neg h1,if_neg h2]at h
   simp only at h
   obtain⟨r,hr⟩:∃r,r=(if c=40 then rdTop (b.drop at_)else rd 0 0 (b.drop at_)):=⟨_,rfl⟩
   rw[<-hr]at h
   obtain⟨e,N,k⟩:=r
   simp only at h
   by_cases h3:e=0
   ·subst h3
    rw[if_pos rfl]at h
    simp only[Prod.mk.injEq]at h
    obtain⟨⟨rfl,rfl⟩,rfl,_⟩:=h
    have:∃m:Nat,N=(m:Int)/\m<=4611686018427387903/\(c=40->m<=4000)/\k=(num m).length/\(num m).length<=(b.drop at_).length/\(b.drop at_).take (num m).length=num m:=by
     by_cases h4:c=40
     ·rw[if_pos h4]at hr
      obtain⟨m,m1,m2,m3,m4,m5⟩:=rdTop_back _ _ _ hd hr.symm
      exact⟨m,m1,by omega,fun _=>m2,m3,m4,m5⟩
     ·rw[if_neg h4]at hr
      obtain⟨m,m1,m2,m3,m4,m5⟩:=rd_back0 _ _ _ hd hr.symm
      exact⟨m,m1,m2,fun h=>absurd h h4,m3,m4,m5⟩
    obtain⟨m,rfl,m1,m2,rfl,m3,m4⟩:=this
    rw[List.length_drop]at m3
    refine⟨_,rfl,⟨by simp only[];omega,by simp only[];omega,by simp,z32,zero32_length⟩,by simp[okFor,h1,h2],bound_of (by simp) (by simp;omega) (by simp) (fun h=>by simp;have:=m2 h;omega),rfl,by have:=num_pos m;omega,by omega,?_⟩
    simp only[enc,if_neg h1,if_neg h2,Int.toNat_natCast]
    rw[htk,m4]
   ·rw[if_neg h3]at h
    simp only[Prod.mk.injEq]at h
    exact absurd h.2.2 h3
theorem getS_le {b:List Int}(hb:∀n∈b,0<=n/\n<=255) {c:Int}(hc:isC c) {at_:Nat} {acc:List Itm}(ha:at_<=b.length):(getS b c (at_,acc)).1.1<=b.length:=by
 by_cases h0:(getS b c (at_,acc)).2.2=0
 ·obtain⟨x,_,_,_,_,_,_,h,_⟩:=getS_ok hb hc ha (at':=(getS b c (at_,acc)).1.1) (acc':=(getS b c (at_,acc)).1.2) (n:=(getS b c (at_,acc)).2.1) (by rw[<-h0])
  exact h
 ·revert h0
  unfold getS
  simp only
  repeat' split
  all_goals(simp;try omega)
end Fld
end
section
namespace Fld
theorem pair_eta {α β:Type} {x:α×β} {a:α} {b:β}(h1:x.1=a)(h2:x.2=b):x=(a,b):=by cases x;simp_all
def Forth (p:List Int×List Itm->(List Int×List Itm)×Int)(g:List Int->Nat×List Itm->(Nat×List Itm)×Int):Prop:=
 ∀out l out' l',(∀x∈l,x.ok)->p (out,l)=((out',l'),0)->∃xs e,l=xs++l'/\out'=out++e/\(∀n∈e,0<=n/\n<=255)/\e.length<=4009*xs.length/\∀rest acc,g (out'++rest) (out.length,acc)=((out'.length,acc++xs),0)
theorem forth_one {c:Int}(hc:isC c) {out out':List Int} {l l':List Itm} {n:Int}(hx:∀x∈l,x.ok)(h:putS c (out,l)=((out',l'),n,0)):
 ∃x e,l= [x]++l'/\out'=out++e/\(∀n∈e,0<=n/\n<=255)/\e.length<=4009/\∀rest acc,getS (out'++rest) c (out.length,acc)=((out'.length,acc++[x]),n,0):=by
 obtain⟨x,rfl,h1,h2,rfl,rfl⟩:=putS_ok h
 have ok:=hx x (List.mem_cons_self ..)
 exact⟨x,enc c x,rfl,rfl,enc_bd c x ok,(enc_len c x ok h1 h2).1,fun rest acc=>by rw[getS_put c x out rest acc hc ok h1 h2,List.length_append]⟩
theorem forth_once (g:List Int)(hg:∀c∈g,isC c):Forth (once putS g) (fun b=>once (getS b) g):=by
 induction g with
 | nil=>
    intro out l out' l' hx h
    simp only[once,Prod.mk.injEq]at h
    obtain⟨⟨rfl,rfl⟩,_⟩:=h
    exact⟨[],[],rfl,by simp,by simp,by simp,fun rest acc=>by simp[once]⟩
 | cons c g ih=>
    intro out l out' l' hx h
    unfold once at h
    split at h
    ·rename_i h0
     obtain⟨x,e,hl0,ho,he,hl,h1⟩:=forth_one (hg c (List.mem_cons_self ..)) hx (pair_eta (a:=((putS c (out,l)).1.1,(putS c (out,l)).1.2)) rfl (pair_eta rfl h0))
     obtain⟨xs,e',h2,h3,he',hl',h4⟩:=ih (fun c hc=>hg c (List.mem_cons_of_mem _ hc)) _ _ out' l' (fun y hy=>hx y (by rw[hl0];exact List.mem_append_right _ hy)) h
     refine⟨x::xs,e++e',by rw[hl0,h2];simp,by rw[h3,ho,List.append_assoc],?_,by simp;omega,fun rest acc=>?_⟩
     ·intro n hn;rcases List.mem_append.1 hn with h | h
      ·exact he n h
      ·exact he' n h
     ·have g1:=h1 (e'++rest) acc
      rw[<-List.append_assoc,<-h3]at g1
      simp only at h4 ⊢
      unfold once
      rw[g1,if_pos rfl,h4 rest (acc++[x])]
      simp
    ·rename_i h0
     exact absurd (congrArg Prod.snd h) h0
theorem forth_rep (g:List Int)(hg:∀c∈g,isC c)(n:Nat):Forth (rep putS g n) (fun b=>rep (getS b) g n):=by
 induction n with
 | zero=>
    intro out l out' l' hx h
    simp only[rep,Prod.mk.injEq]at h
    obtain⟨⟨rfl,rfl⟩,_⟩:=h
    exact⟨[],[],rfl,by simp,by simp,by simp,fun rest acc=>by simp[rep]⟩
 | succ n ih=>
    intro out l out' l' hx h
    unfold rep at h
    split at h
    ·rename_i h0
     obtain⟨xs,e,hl0,ho,he,hl,h1⟩:=forth_once g hg _ _ _ _ hx (pair_eta (a:=((once putS g (out,l)).1.1,(once putS g (out,l)).1.2)) rfl h0)
     obtain⟨ys,e',h2,h3,he',hl',h4⟩:=ih _ _ out' l' (fun y hy=>hx y (by rw[hl0];exact List.mem_append_right _ hy)) h
     refine⟨xs++ys,e++e',by rw[hl0,h2];simp,by rw[h3,ho,List.append_assoc],?_,by simp;omega,fun rest acc=>?_⟩
     ·intro n hn;rcases List.mem_append.1 hn with h | h
      ·exact he n h
      ·exact he' n h
     ·have g1:=h1 (e'++rest) acc
      rw[<-List.append_assoc,<-h3]at g1
      simp only at g1 h4 ⊢
      unfold rep
      rw[g1,if_pos rfl,h4 rest (acc++xs)]
      simp
    ·rename_i h0
     rw[h]at h0;simp at h0
def grpOk (g:Option (List Int)):Prop:=∀cs,g=some cs->∀c∈cs,isC c
theorem forth_walk (s:List Int):∀(g:Option (List Int))(t:Int)(k:Bool),grpOk g->chkL s g.isSome k=true->Forth (walkL putS g t s) (fun b=>walkL (getS b) g t s):=by
 induction s with
 | nil=>
    intro g t k hg hk out l out' l' hx h
    have h':((out,l),(0:Int))=((out',l'),0):=by cases g<;>simpa[walkL]using h
    simp only[Prod.mk.injEq]at h'
    obtain⟨⟨rfl,rfl⟩,_⟩:=h'
    exact⟨[],[],rfl,by simp,by simp,by simp,fun rest acc=>by cases g<;>simp[walkL]⟩
 | cons c s ih=>
    intro g t k hg hk out l out' l' hx h
    cases g with
    | none=>
       have hc:isC c/\(chkL s (if c=40 then some ([]:List Int)else none).isSome (decide (c≠40))=true):=by
        unfold chkL at hk
        simp only[Option.isSome_none]at hk
        split at hk
        ·rename_i h1
         refine⟨by unfold isC;omega,?_⟩
         rw[if_neg (by omega)]
         have:c≠40:=by omega
         simpa[this]using hk
        ·split at hk
         ·rename_i h1 h2
          refine⟨Or.inr (Or.inr (Or.inr h2.1)),?_⟩
          rw[if_pos h2.1]
          simpa[h2.1]using hk
         ·simp at hk
       unfold walkL at h
       split at h
       ·rename_i h0
        obtain⟨x,e,hl0,ho,he,hl,h1⟩:=forth_one hc.1 hx (pair_eta (a:=((putS c (out,l)).1.1,(putS c (out,l)).1.2)) rfl (pair_eta rfl h0))
        obtain⟨xs,e',h2,h3,he',hl',h4⟩:=ih _ _ _ (by intro cs hcs;split at hcs<;>simp at hcs;subst hcs;simp) hc.2 _ _ out' l' (fun y hy=>hx y (by rw[hl0];exact List.mem_append_right _ hy)) h
        refine⟨x::xs,e++e',by rw[hl0,h2];simp,by rw[h3,ho,List.append_assoc],?_,by simp;omega,fun rest acc=>?_⟩
        ·intro n hn;rcases List.mem_append.1 hn with h | h
         ·exact he n h
         ·exact he' n h
        ·have g1:=h1 (e'++rest) acc
         rw[<-List.append_assoc,<-h3]at g1
         simp only at h4 ⊢
         unfold walkL
         rw[g1,if_pos rfl,h4 rest (acc++[x])]
         simp
       ·rename_i h0
        exact absurd (congrArg Prod.snd h) h0
    | some cs=>
       unfold walkL at h
       split at h
       ·rename_i hc
        have hk':chkL s (none:Option (List Int)).isSome k=true:=by
         subst hc
         unfold chkL at hk
         simp at hk
         simpa using hk.2
        split at h
        ·rename_i h0
         obtain⟨xs,e,hl0,ho,he,hl,h1⟩:=forth_rep cs (hg cs rfl) t.toNat _ _ _ _ hx (pair_eta (a:=((rep putS cs t.toNat (out,l)).1.1,(rep putS cs t.toNat (out,l)).1.2)) rfl h0)
         obtain⟨ys,e',h2,h3,he',hl',h4⟩:=ih _ _ k (by intro cs hcs;simp at hcs) hk' _ _ out' l' (fun y hy=>hx y (by rw[hl0];exact List.mem_append_right _ hy)) h
         refine⟨xs++ys,e++e',by rw[hl0,h2];simp,by rw[h3,ho,List.append_assoc],?_,by simp;omega,fun rest acc=>?_⟩
         ·intro n hn;rcases List.mem_append.1 hn with h | h
          ·exact he n h
          ·exact he' n h
         ·have g1:=h1 (e'++rest) acc
          rw[<-List.append_assoc,<-h3]at g1
          simp only at g1 h4 ⊢
          unfold walkL
          rw[if_pos hc,g1,if_pos rfl,h4 rest (acc++xs)]
          simp
        ·rename_i h0
         rw[h]at h0;simp at h0
       ·rename_i hc
        have hk':isC c/\chkL s (some (cs++[c])).isSome true=true:=by
         unfold chkL at hk
         simp only[Option.isSome_some]at hk
         split at hk
         ·rename_i h1
          exact⟨by unfold isC;omega,by simpa using hk⟩
         ·simp[hc]at hk
        obtain⟨xs,e,h2,h3,he,hl,h4⟩:=ih _ _ _ (by intro cs' hcs;simp at hcs;subst hcs;intro c' hc';rcases List.mem_append.1 hc' with h | h;exact hg cs rfl c' h;simp at h;subst h;exact hk'.1) hk'.2 _ _ out' l' hx h
        exact⟨xs,e,h2,h3,he,hl,fun rest acc=>by simp only at h4 ⊢;unfold walkL;rw[if_neg hc];exact h4 rest acc⟩
def Back (b:List Int)(p:List Int×List Itm->(List Int×List Itm)×Int)(g:Nat×List Itm->(Nat×List Itm)×Int):Prop:=
 ∀at_ acc,at_<=b.length->(g (at_,acc)).1.1<=b.length/\((g (at_,acc)).2=0->∃xs,(g (at_,acc)).1.2=acc++xs/\(∀x∈xs,x.ok)/\at_+xs.length<=(g (at_,acc)).1.1/\∀l,p (b.take at_,xs++l)=((b.take (g (at_,acc)).1.1,l),0))
theorem back_one {b:List Int}(hb:∀n∈b,0<=n/\n<=255) {c:Int}(hc:isC c) {at_:Nat} {acc:List Itm}(ha:at_<=b.length)(h:(getS b c (at_,acc)).2.2=0):
 ∃x,(getS b c (at_,acc)).1.2=acc++[x]/\x.ok/\at_+1<=(getS b c (at_,acc)).1.1/\∀l,putS c (b.take at_,x::l)=((b.take (getS b c (at_,acc)).1.1,l),(getS b c (at_,acc)).2.1,0):=by
 obtain⟨x,h1,ok,h2,h3,h4,h5,h6,h7⟩:=getS_ok hb hc ha (at':=(getS b c (at_,acc)).1.1) (acc':=(getS b c (at_,acc)).1.2) (n:=(getS b c (at_,acc)).2.1) (by rw[<-h])
 refine⟨x,h1,ok,h5,fun l=>?_⟩
 unfold putS
 simp only
 rw[if_pos h2,if_pos h3,h7,h4]
theorem back_once {b:List Int}(hb:∀n∈b,0<=n/\n<=255)(g:List Int)(hg:∀c∈g,isC c):Back b (once putS g) (once (getS b) g):=by
 induction g with
 | nil=>
    intro at_ acc ha
    refine⟨by simpa[once]using ha,fun _=>⟨[],by simp[once],by simp,by simp[once],fun l=>by simp[once]⟩⟩
 | cons c g ih=>
    intro at_ acc ha
    have hc:=hg c (List.mem_cons_self ..)
    have hle:=getS_le hb hc (acc:=acc) ha
    obtain⟨i1,i2⟩:=ih (fun c hc=>hg c (List.mem_cons_of_mem _ hc)) (getS b c (at_,acc)).1.1 (getS b c (at_,acc)).1.2 hle
    unfold once
    split
    ·rename_i h0
     obtain⟨x,e1,ok,e2,e3⟩:=back_one hb hc ha h0
     refine⟨i1,fun h=>?_⟩
     obtain⟨xs,f1,f2,f3,f4⟩:=i2 h
     refine⟨x::xs,?_,?_,?_,fun l=>?_⟩
     ·exact f1.trans (by rw[e1];simp)
     ·intro y hy;rcases List.mem_cons.1 hy with rfl | hy
      ·exact ok
      ·exact f2 y hy
     ·have f3':(getS b c (at_,acc)).1.1+xs.length<=(once (getS b) g (getS b c (at_,acc)).1).1.1:=f3
      simp only[List.length_cons];omega
     ·rw[List.cons_append,e3 (xs++l),if_pos rfl];exact f4 l
    ·rename_i h0
     exact⟨hle,fun h=>absurd h h0⟩
theorem back_rep {b:List Int}(hb:∀n∈b,0<=n/\n<=255)(g:List Int)(hg:∀c∈g,isC c)(n:Nat):Back b (rep putS g n) (rep (getS b) g n):=by
 induction n with
 | zero=>
    intro at_ acc ha
    refine⟨by simpa[rep]using ha,fun _=>⟨[],by simp[rep],by simp,by simp[rep],fun l=>by simp[rep]⟩⟩
 | succ n ih=>
    intro at_ acc ha
    obtain⟨o1,o2⟩:=back_once hb g hg at_ acc ha
    obtain⟨i1,i2⟩:=ih (once (getS b) g (at_,acc)).1.1 (once (getS b) g (at_,acc)).1.2 o1
    unfold rep
    split
    ·rename_i h0
     obtain⟨xs,e1,e2,e3,e4⟩:=o2 h0
     refine⟨i1,fun h=>?_⟩
     obtain⟨ys,f1,f2,f3,f4⟩:=i2 h
     refine⟨xs++ys,?_,?_,?_,fun l=>?_⟩
     ·exact f1.trans (by rw[e1];simp)
     ·intro y hy;rcases List.mem_append.1 hy with hy | hy
      ·exact e2 y hy
      ·exact f2 y hy
     ·have f3':(once (getS b) g (at_,acc)).1.1+ys.length<=(rep (getS b) g n (once (getS b) g (at_,acc)).1).1.1:=f3
      simp only[List.length_append];omega
     ·rw[List.append_assoc,e4 (ys++l),if_pos rfl];exact f4 l
    ·rename_i h0
     exact⟨o1,fun h=>absurd h h0⟩
theorem back_walk {b:List Int}(hb:∀n∈b,0<=n/\n<=255)(s:List Int):∀(g:Option (List Int))(t:Int)(k:Bool),grpOk g->chkL s g.isSome k=true->Back b (walkL putS g t s) (walkL (getS b) g t s):=by
 induction s with
 | nil=>
    intro g t k hg hk at_ acc ha
    have h1:walkL (getS b) g t [] (at_,acc)=((at_,acc),0):=by cases g<;>simp[walkL]
    rw[h1]
    exact⟨ha,fun _=>⟨[],by simp,by simp,by simp,fun l=>by cases g<;>simp[walkL]⟩⟩
 | cons c s ih=>
    intro g t k hg hk at_ acc ha
    cases g with
    | none=>
       have hc:isC c/\(chkL s (if c=40 then some ([]:List Int)else none).isSome (decide (c≠40))=true):=by
        unfold chkL at hk
        simp only[Option.isSome_none]at hk
        split at hk
        ·rename_i h1
         refine⟨by unfold isC;omega,?_⟩
         rw[if_neg (by omega)]
         have:c≠40:=by omega
         simpa[this]using hk
        ·split at hk
         ·rename_i h1 h2
          refine⟨Or.inr (Or.inr (Or.inr h2.1)),?_⟩
          rw[if_pos h2.1]
          simpa[h2.1]using hk
         ·simp at hk
       have hle:=getS_le hb hc.1 (acc:=acc) ha
       obtain⟨i1,i2⟩:=ih _ (getS b c (at_,acc)).2.1 _ (by intro cs hcs;split at hcs<;>simp at hcs;subst hcs;simp) hc.2 (getS b c (at_,acc)).1.1 (getS b c (at_,acc)).1.2 hle
       unfold walkL
       split
       ·rename_i h0
        obtain⟨x,e1,ok,e2,e3⟩:=back_one hb hc.1 ha h0
        refine⟨i1,fun h=>?_⟩
        obtain⟨xs,f1,f2,f3,f4⟩:=i2 h
        refine⟨x::xs,?_,?_,?_,fun l=>?_⟩
        ·exact f1.trans (by rw[e1];simp)
        ·intro y hy;rcases List.mem_cons.1 hy with rfl | hy
         ·exact ok
         ·exact f2 y hy
        ·have f3':(getS b c (at_,acc)).1.1+xs.length<=(walkL (getS b) (if c=40 then some []else none) (getS b c (at_,acc)).2.1 s (getS b c (at_,acc)).1).1.1:=f3
         simp only[List.length_cons];omega
        ·rw[List.cons_append,e3 (xs++l),if_pos rfl];exact f4 l
       ·rename_i h0
        exact⟨hle,fun h=>absurd h h0⟩
    | some cs=>
       unfold walkL
       by_cases hc:c=41
       ·have hk':chkL s (none:Option (List Int)).isSome k=true:=by
         subst hc
         unfold chkL at hk
         simp at hk
         simpa using hk.2
        obtain⟨o1,o2⟩:=back_rep hb cs (hg cs rfl) t.toNat at_ acc ha
        obtain⟨i1,i2⟩:=ih none t k (by intro cs hcs;simp at hcs) hk' (rep (getS b) cs t.toNat (at_,acc)).1.1 (rep (getS b) cs t.toNat (at_,acc)).1.2 o1
        rw[if_pos hc]
        split
        ·rename_i h0
         obtain⟨xs,e1,e2,e3,e4⟩:=o2 h0
         refine⟨i1,fun h=>?_⟩
         obtain⟨ys,f1,f2,f3,f4⟩:=i2 h
         refine⟨xs++ys,?_,?_,?_,fun l=>?_⟩
         ·exact f1.trans (by rw[e1];simp)
         ·intro y hy;rcases List.mem_append.1 hy with hy | hy
          ·exact e2 y hy
          ·exact f2 y hy
         ·have f3':(rep (getS b) cs t.toNat (at_,acc)).1.1+ys.length<=(walkL (getS b) none t s (rep (getS b) cs t.toNat (at_,acc)).1).1.1:=f3
          simp only[List.length_append];omega
         ·rw[List.append_assoc,e4 (ys++l),if_pos rfl];exact f4 l
        ·rename_i h0
         exact⟨o1,fun h=>absurd h h0⟩
       ·have hk':isC c/\chkL s (some (cs++[c])).isSome true=true:=by
         unfold chkL at hk
         simp only[Option.isSome_some]at hk
         split at hk
         ·rename_i h1
          exact⟨by unfold isC;omega,by simpa using hk⟩
         ·simp[hc]at hk
        rw[if_neg hc]
        obtain⟨i1,i2⟩:=ih _ t _ (by intro cs' hcs;simp at hcs;subst hcs;intro c' hc';rcases List.mem_append.1 hc' with h | h;exact hg cs rfl c' h;simp at h;subst h;exact hk'.1) hk'.2 at_ acc ha
        refine⟨i1,fun h=>?_⟩
        obtain⟨xs,f1,f2,f3,f4⟩:=i2 h
        exact⟨xs,f1,f2,f3,fun l=>by rw[if_neg hc];exact f4 l⟩
theorem chk_walk {s:List Int}(h:chk s=true):chkL s (none:Option (List Int)).isSome false=true:=by
 unfold chk at h;simp at h;simpa using h.2
theorem put_fst {s:List Int} {l:List Itm} {out:List Int}(h:put s l=(out,0)):chk s=true/\walkL putS none 0 s ([],l)=((out,[]),0):=by
 unfold put at h
 split at h
 ·rename_i hc
  simp only at h
  split at h
  ·rename_i h0
   split at h
   ·rename_i h1
    simp only[Prod.mk.injEq]at h
    exact⟨hc,pair_eta (pair_eta h.1 h1) h0⟩
   ·simp at h
  ·rename_i h0
   simp only[Prod.mk.injEq]at h
   exact absurd h.2 h0
 ·simp at h
theorem put_walk {s:List Int} {l:List Itm} {out:List Int}(hx:∀x∈l,x.ok)(h:put s l=(out,0)):
 chk s=true/\(∀n∈out,0<=n/\n<=255)/\out.length<=4009*l.length/\∀rest,walkL (getS (out++rest)) none 0 s (0,[])=((out.length,l),0):=by
 obtain⟨hc,hw⟩:=put_fst h
 obtain⟨xs,e,h1,h2,h3,h4,h5⟩:=forth_walk s none 0 false (by intro cs hcs;simp at hcs) (chk_walk hc) [] l out [] hx hw
 simp only[List.append_nil,List.nil_append]at h1 h2
 subst h1 h2
 exact⟨hc,h3,h4,fun rest=>by simpa using h5 rest []⟩
theorem get_ok {s b:List Int} {l:List Itm} {k:Nat}(hb:∀n∈b,0<=n/\n<=255)(h:get s b=(l,0,k)):put s l=(b,0)/\(∀x∈l,x.ok)/\k=0/\l.length<=b.length:=by
 unfold get at h
 split at h
 ·rename_i hc
  obtain⟨h1,h2⟩:=back_walk hb s none 0 false (by intro cs hcs;simp at hcs) (chk_walk hc) 0 [] (by omega)
  simp only at h
  split at h
  ·rename_i h0
   split at h
   ·simp at h
   ·rename_i h3
    simp only[Prod.mk.injEq,true_and]at h
    obtain⟨rfl,rfl⟩:=h
    obtain⟨xs,e1,e2,e3,e4⟩:=h2 h0
    have e5:=e4 []
    rw[List.append_nil,List.take_of_length_le (show b.length<=(walkL (getS b) none 0 s (0,[])).1.1 by omega)]at e5
    rw[List.nil_append]at e1
    rw[e1]
    refine⟨?_,e2,rfl,by omega⟩
    unfold put
    rw[if_pos hc]
    simp only[List.take_zero]at e5
    simp only[e5]
    simp
  ·rename_i h0
   simp only[Prod.mk.injEq]at h
   exact absurd h.2.1 h0
 ·simp at h
end Fld
end
section
namespace Sha
def zero32:List Int:=List.replicate 32 0
def byteAt (s:List W)(i:Nat):Int:=(U (s.getD (i / 4) 0) / 2 ^ (24 - 8*(i % 4))) % 256
def tellUpto (s:List W):Nat->List Int
 | 0=>zero32
 | i+1=>(tellUpto s i).set i (byteAt s i)
theorem tellUpto_zero (s:List W):tellUpto s 0=zero32:=rfl
theorem tellUpto_length (s:List W)(i:Nat):(tellUpto s i).length=32:=by
 induction i with
 | zero=>rfl
 | succ i ih=>simp[tellUpto,ih]
theorem tellUpto_succ (s:List W)(i:Nat)(x:Int)(hx:x=byteAt s i):(tellUpto s (i+1)).map v8=((tellUpto s i).map v8).set i (v8 x):=by
 subst hx;simp[tellUpto,List.map_set]
def noughts (n:Nat):Nat:=if n < 56 then 55 - n else 119 - n
def lenByte (N:Int)(i:Nat):Int:=IntKind.u64.wrap (N*8) / 2 ^ (56 - 8*i) % 256
def lenUpto (N:Int)(i:Nat):List Int:=(List.range i).map (lenByte N)
theorem lenUpto_succ (N:Int)(i:Nat):lenUpto N (i+1)=lenUpto N i++[lenByte N i]:=by simp[lenUpto,List.range_succ]
theorem lenUpto_length (N:Int)(i:Nat):(lenUpto N i).length=i:=by simp[lenUpto]
def ending (zs:List Int)(N:Int):List Int:=zs++[128]++List.replicate (noughts zs.length) 0++lenUpto N 8
def wholeOf (zs:List Int):Nat:=zs.length - zs.length % 64
def sum (zs:List Int):List Int:=
 let t:=ending (zs.drop (wholeOf zs)) zs.length
 tellUpto (thru (thru first8 kList (zs.take (wholeOf zs)) ((zs.take (wholeOf zs)).length / 64)) kList t (t.length / 64)) 32
theorem sum_eq (zs:List Int):sum zs=tellUpto (thru (thru first8 kList (zs.take (wholeOf zs)) ((zs.take (wholeOf zs)).length / 64)) kList (ending (zs.drop (wholeOf zs)) zs.length) ((ending (zs.drop (wholeOf zs)) zs.length).length / 64)) 32:=rfl
theorem byteAt_bd (s:List W)(i:Nat):0<=byteAt s i/\byteAt s i<=255:=by unfold byteAt;omega
theorem lenByte_bd (N:Int)(i:Nat):0<=lenByte N i/\lenByte N i<=255:=by unfold lenByte;omega
theorem tellUpto_bd (s:List W)(i:Nat):∀n∈tellUpto s i,0<=n/\n<=255:=by
 induction i with
 | zero=>intro n hn;simp[tellUpto,zero32]at hn;omega
 | succ i ih=>
    intro n hn
    rcases List.mem_or_eq_of_mem_set hn with h | h
    ·exact ih n h
    ·subst h;exact byteAt_bd s i
theorem ending_bd (zs:List Int)(N:Int)(h:∀n∈zs,0<=n/\n<=255):∀n∈ending zs N,0<=n/\n<=255:=by
 intro n hn
 simp only[ending,List.mem_append,lenUpto,List.mem_map,List.mem_replicate,List.mem_singleton]at hn
 rcases hn with((hn | hn) | hn) | ⟨i,_,hn⟩
 ·exact h n hn
 ·omega
 ·omega
 ·subst hn;exact lenByte_bd N i
theorem noughts_lt (n k:Nat)(hn:n < 64)(h:k < noughts n):(n+1+k) % 64≠56:=by unfold noughts at h;split at h<;>omega
theorem noughts_eq (n:Nat)(hn:n < 64):(n+1+noughts n) % 64=56:=by unfold noughts;split<;>omega
theorem noughts_le (n:Nat)(hn:n < 64):n+1+noughts n<=120:=by unfold noughts;split<;>omega
theorem lenUpto_zero (N:Int):lenUpto N 0= []:=rfl
theorem ending_eq (zs:List Int)(N:Int):ending zs N=zs++[128]++List.replicate (noughts zs.length) 0++lenUpto N 8:=rfl
attribute [irreducible] noughts tellUpto zero32 lenUpto ending sum
end Sha
end
section
namespace Sha
def digit (n:Int):Int:=if n < 10 then 48+n else 87+n
def zero64:List Int:=List.replicate 64 0
def textUpto (zs:List Int):Nat->List Int
 | 0=>zero64
 | i+1=>((textUpto zs i).set (2*i) (digit (zs.getD i 0 / 16))).set (2*i+1) (digit (zs.getD i 0 % 16))
def text (zs:List Int):List Int:=textUpto zs 32
attribute [irreducible] zero64 textUpto digit text
end Sha
end
section
namespace Sha
def less:List Int->List Int->Bool
 | [],_=>false
 | _::_,[]=>false
 | x::xs,y::ys=>if x=y then less xs ys else decide (x < y)
def same:List Int->List Int->Nat
 | x::xs,y::ys=>if x=y then same xs ys+1 else 0
 | _,_=>0
theorem same_lt:∀(xs ys:List Int),xs.length=ys.length->xs≠ys->same xs ys < xs.length
 | [],[],_,h=>absurd rfl h
 | x::xs,y::ys,hl,h=>by
    unfold same
    split
    ·rename_i e
     have:=same_lt xs ys (by simpa using hl) (fun e2=>h (by rw[e,e2]))
     simp;omega
    ·simp
theorem same_alike:∀(xs ys:List Int)(i:Nat),i < same xs ys->xs.getD i 0=ys.getD i 0
 | x::xs,y::ys,i,h=>by
    unfold same at h
    split at h
    ·rename_i e
     cases i with
     | zero=>simpa using e
     | succ i=>simpa using same_alike xs ys i (by omega)
    ·omega
 | [],_,_,h=>by simp[same]at h
 | _::_,[],_,h=>by simp[same]at h
theorem same_unlike:∀(xs ys:List Int),xs.length=ys.length->xs≠ys->xs.getD (same xs ys) 0≠ys.getD (same xs ys) 0
 | [],[],_,h=>absurd rfl h
 | x::xs,y::ys,hl,h=>by
    unfold same
    split
    ·rename_i e
     simpa using same_unlike xs ys (by simpa using hl) (fun e2=>h (by rw[e,e2]))
    ·rename_i e;simpa using e
theorem less_same:∀(xs ys:List Int),xs.length=ys.length->xs≠ys->less xs ys=decide (xs.getD (same xs ys) 0 < ys.getD (same xs ys) 0)
 | [],[],_,h=>absurd rfl h
 | x::xs,y::ys,hl,h=>by
    unfold less same
    split
    ·rename_i e
     simpa using less_same xs ys (by simpa using hl) (fun e2=>h (by rw[e,e2]))
    ·simp
theorem less_irrefl:∀(xs:List Int),less xs xs=false
 | []=>rfl
 | x::xs=>by simp[less,less_irrefl xs]
attribute [irreducible] less same
end Sha
end
section
namespace Sha
abbrev Bytes (zs:List Int):Prop:=∀n∈zs,0<=n/\n<=255
theorem less_asymm:∀(xs ys:List Int),less xs ys=true->less ys xs=false
 | [],_,h=>by simp[less]at h
 | _::_,[],h=>by simp[less]at h
 | x::xs,y::ys,h=>by
    unfold less at h ⊢
    by_cases e:x=y
    ·rw[if_pos e]at h;rw[if_pos e.symm];exact less_asymm xs ys h
    ·rw[if_neg e]at h;rw[if_neg (fun e2=>e e2.symm)];simp at h ⊢;omega
theorem less_total:∀(xs ys:List Int),xs.length=ys.length->xs≠ys->less xs ys=true\/less ys xs=true
 | [],[],_,h=>absurd rfl h
 | x::xs,y::ys,hl,h=>by
    unfold less
    by_cases e:x=y
    ·rw[if_pos e,if_pos e.symm];exact less_total xs ys (by simpa using hl) (fun e2=>h (by rw[e,e2]))
    ·rw[if_neg e,if_neg (fun e2=>e e2.symm)];simp;omega
theorem less_trans:∀(xs ys zs:List Int),less xs ys=true->less ys zs=true->less xs zs=true
 | [],_,_,h,_=>by simp[less]at h
 | _::_,[],_,h,_=>by simp[less]at h
 | _::_,_::_,[],_,h=>by simp[less]at h
 | x::xs,y::ys,z::zs,h1,h2=>by
    unfold less at h1 h2 ⊢
    by_cases e1:x=y
    ·rw[if_pos e1]at h1
     by_cases e2:y=z
     ·rw[if_pos e2]at h2;rw[if_pos (e1.trans e2)];exact less_trans xs ys zs h1 h2
     ·rw[if_neg e2]at h2;rw[if_neg (by rw[e1];exact e2)];simp at h2 ⊢;omega
    ·rw[if_neg e1]at h1
     by_cases e2:y=z
     ·rw[if_pos e2]at h2;rw[if_neg (by rw[<-e2];exact e1)];simp at h1 ⊢;omega
     ·rw[if_neg e2]at h2;simp at h1 h2;rw[if_neg (by omega)];simp;omega
end Sha
end
section
namespace Fld
def isF (c:Int):Prop:=c=110\/c=98\/c=100
instance (c:Int):Decidable (isF c):=by unfold isF;infer_instance
def fits:List Int->List Itm->Bool
 | [],[]=>true
 | c::s,x::l=>okFor c x && decide (bound c x=0) && fits s l
 | _,_=>false
def encs:List Int->List Itm->List Int
 | c::s,x::l=>enc c x++encs s l
 | _,_=>[]
theorem putS_one {c:Int} {out:List Int} {x:Itm} {l:List Itm}(h1:okFor c x=true)(h2:bound c x=0):putS c (out,x::l)=((out++enc c x,l),x.N,0):=by simp[putS,h1,h2]
theorem walk_fits (s:List Int):∀(t:Int)(out:List Int)(l:List Itm),(∀c∈s,isF c)->fits s l=true->walkL putS none t s (out,l)=((out++encs s l,[]),0):=by
 induction s with
 | nil=>
    intro t out l _ h
    cases l with
    | nil=>simp[walkL,encs]
    | cons x l=>simp[fits]at h
 | cons c s ih=>
    intro t out l hs h
    cases l with
    | nil=>simp[fits]at h
    | cons x l=>
       simp only[fits,Bool.and_eq_true,decide_eq_true_eq]at h
       have hc:c≠40:=by have:=hs c (List.mem_cons_self ..);unfold isF at this;omega
       rw[walkL,putS_one h.1.1 h.1.2]
       simp only[if_true,if_neg hc]
       rw[ih _ _ _ (fun c hc=>hs c (List.mem_cons_of_mem _ hc)) h.2]
       simp[encs]
theorem fits_walk (s:List Int):∀(t:Int)(out out':List Int)(l:List Itm),(∀c∈s,isF c)->walkL putS none t s (out,l)=((out',[]),0)->fits s l=true:=by
 induction s with
 | nil=>
    intro t out out' l _ h
    simp[walkL]at h
    simp[fits,h.2]
 | cons c s ih=>
    intro t out out' l hs h
    have hc:c≠40:=by have:=hs c (List.mem_cons_self ..);unfold isF at this;omega
    rw[walkL]at h
    cases l with
    | nil=>simp[putS]at h
    | cons x l=>
       by_cases h1:okFor c x=true
       ·by_cases h2:bound c x=0
        ·rw[putS_one h1 h2]at h
         simp only[if_true,if_neg hc]at h
         simp[fits,h1,h2,ih _ _ _ _ (fun c hc=>hs c (List.mem_cons_of_mem _ hc)) h]
        ·simp[putS,h1,h2]at h
       ·simp[putS,h1]at h
theorem chkL_flat (s:List Int):∀k,(∀c∈s,isF c)->chkL s false k=true:=by
 induction s with
 | nil=>intro k _;rfl
 | cons c s ih=>
    intro k hs
    have hc:=hs c (List.mem_cons_self ..)
    unfold isF at hc
    rw[chkL,if_pos hc]
    exact ih _ fun c hc=>hs c (List.mem_cons_of_mem _ hc)
theorem chk_flat {s:List Int}(hs:∀c∈s,isF c)(hl:s.length<=40):chk s=true:=by
 unfold chk;simp[hl,chkL_flat s false hs]
theorem put_fits {s:List Int} {l:List Itm}(hs:∀c∈s,isF c)(hl:s.length<=40)(h:fits s l=true):put s l=(encs s l,0):=by
 unfold put
 rw[if_pos (chk_flat hs hl),walk_fits s 0 [] l hs h]
 simp
theorem fits_put {s:List Int} {l:List Itm} {out:List Int}(hs:∀c∈s,isF c)(h:put s l=(out,0)):fits s l=true:=fits_walk s 0 [] out l hs (put_fst h).2
end Fld
namespace Fct
open Fld (Itm zero32)
structure Fac where
 K:Int
 S:Int
 H:Int
 N:Int
 O:Int
 D:List Int
 B:List Int
deriving DecidableEq
def fit (n:Int):Prop:=-9223372036854775808<=n/\n<=9223372036854775807
structure Fac.ok (x:Fac):Prop where
 K:fit x.K
 S:fit x.S
 H:fit x.H
 N:fit x.N
 O:fit x.O
 D:∀n∈x.D,0<=n/\n<=255
 B:∀n∈x.B,0<=n/\n<=255
 len:x.D.length=32
def none_:Fac:=⟨0,0,0,0,0,zero32,[]⟩
def iN (n:Int):Itm:=⟨n,[],zero32⟩
def iD (d:List Int):Itm:=⟨0,[],d⟩
def iB (b:List Int):Itm:=⟨0,b,zero32⟩
def shape (k:Int):List Int:=
 if k=2 then [110]else if k=3 then [98]else if k=4 then [110,100]else if k=5 then [110,110,100]else if k=6 then [110,110,100]else
 if k=7 then [110,110,110]else if k=8 then [110,110,110,98]else if k=9 then [110,98]else if k=10 then [110]else []
def items (f:Fac):List Itm:=
 if f.K=2 then [iN f.S]else if f.K=3 then [iB f.B]else if f.K=4 then [iN f.S,iD f.D]else if f.K=5 then [iN f.H,iN f.S,iD f.D]else if f.K=6 then [iN f.H,iN f.S,iD f.D]else
 if f.K=7 then [iN f.S,iN f.N,iN f.O]else if f.K=8 then [iN f.S,iN f.N,iN f.O,iB f.B]else if f.K=9 then [iN f.S,iB f.B]else if f.K=10 then [iN f.S]else []
def of (k:Int)(l:List Itm):Fac:=
 let n:=fun i=>(l.getD i (iN 0)).N
 let b:=fun i=>(l.getD i (iN 0)).B
 let d:=fun i=>(l.getD i (iN 0)).D
 if k=2 then⟨k,n 0,0,0,0,zero32,[]⟩else if k=3 then⟨k,0,0,0,0,Sha.sum (b 0),b 0⟩else if k=4 then⟨k,n 0,0,0,0,d 1,[]⟩else
 if k=5 then⟨k,n 1,n 0,0,0,d 2,[]⟩else if k=6 then⟨k,n 1,n 0,0,0,d 2,[]⟩else if k=7 then⟨k,n 0,0,n 1,n 2,zero32,[]⟩else
 if k=8 then⟨k,n 0,0,n 1,n 2,zero32,b 3⟩else if k=9 then⟨k,n 0,0,0,0,zero32,b 1⟩else if k=10 then⟨k,n 0,0,0,0,zero32,[]⟩else⟨k,0,0,0,0,zero32,[]⟩
def setOk (n:Int):Prop:=1<=n/\n<=2147483647
def nodeOk (n:Int):Prop:=1<=n/\n<=64
instance (n:Int):Decidable (setOk n):=by unfold setOk;infer_instance
instance (n:Int):Decidable (nodeOk n):=by unfold nodeOk;infer_instance
structure Can (f:Fac):Prop where
 kind:1<=f.K/\f.K < 11
 pure_:of f.K (items f)=f
 set_:f.K≠1->f.K≠3->setOk f.S
 home:f.K=5\/f.K=6->nodeOk f.H
 ballot:f.K=7\/f.K=8->setOk f.N/\nodeOk f.O
 most:f.B.length<=if f.K=3 then 1024 else 4000
def can (f:Fac):Bool:=decide ((1<=f.K/\f.K < 11)/\of f.K (items f)=f/\(f.K≠1->f.K≠3->setOk f.S)/\(f.K=5\/f.K=6->nodeOk f.H)/\(f.K=7\/f.K=8->setOk f.N/\nodeOk f.O)/\f.B.length<=if f.K=3 then 1024 else 4000)
theorem can_iff (f:Fac):can f=true↔Can f:=by
 unfold can
 rw[decide_eq_true_iff]
 exact⟨fun h=>⟨h.1,h.2.1,h.2.2.1,h.2.2.2.1,h.2.2.2.2.1,h.2.2.2.2.2⟩,fun h=>⟨h.1,h.2,h.3,h.4,h.5,h.6⟩⟩
def check (f:Fac):Int:=if can f=true then 0 else 2
theorem check_ok {f:Fac}(h:Can f):check f=0:=by unfold check;rw[if_pos ((can_iff f).2 h)]
theorem check_no {f:Fac}(h:¬Can f):check f=2:=by unfold check;rw[if_neg (fun e=>h ((can_iff f).1 e))]
def letters (k:Int):List Int:=110::shape k
def put (f:Fac):List Int×Int:=if can f=true then Fld.put (letters f.K) (iN f.K::items f)else([],2)
def get (b:List Int):Fac×Int×Nat:=
 let r:=Fld.rd 0 0 b
 if r.1≠0 then(none_,r.1,if r.1=4 then b.length else 0)else
 if¬(1<=r.2.1/\r.2.1 < 11)then(none_,2,0)else
 let g:=Fld.get (letters r.2.1) b
 if g.2.1≠0 then(none_,g.2.1,g.2.2)else
 if can (of r.2.1 g.1.tail)=true then(of r.2.1 g.1.tail,0,0)else(none_,2,0)
theorem letters_flat (k:Int):(∀c∈letters k,Fld.isF c)/\(letters k).length<=40:=by
 unfold letters shape
 (repeat' split)<;>(constructor<;>simp[Fld.isF])
theorem okFor_iN (n:Int):Fld.okFor 110 (iN n)=true:=by simp[Fld.okFor,iN]
theorem okFor_iB (b:List Int):Fld.okFor 98 (iB b)=true:=by simp[Fld.okFor,iB]
theorem okFor_iD (d:List Int):Fld.okFor 100 (iD d)=true:=by simp[Fld.okFor,iD]
theorem bound_iN {n:Int}(h0:0<=n)(h1:n<=2147483647):Fld.bound 110 (iN n)=0:=Fld.bound_of (by simpa[iN]using h0) (by simp[iN];omega) (by simp[iN]) (by omega)
theorem bound_iB {b:List Int}(h:b.length<=4000):Fld.bound 98 (iB b)=0:=Fld.bound_of (by simp[iB]) (by simp[iB]) (by simpa[iB]using h) (by omega)
theorem bound_iD (d:List Int):Fld.bound 100 (iD d)=0:=Fld.bound_of (by simp[iD]) (by simp[iD]) (by simp[iD]) (by omega)
theorem kinds {k:Int}(h:1<=k/\k < 11):k=1\/k=2\/k=3\/k=4\/k=5\/k=6\/k=7\/k=8\/k=9\/k=10:=by omega
theorem Can.fits {f:Fac}(h:Can f):Fld.fits (letters f.K) (iN f.K::items f)=true:=by
 have hk:=kinds h.kind
 have hs:=h.set_
 have hh:=h.home
 have hb:=h.ballot
 have hm:=h.most
 unfold setOk nodeOk at *
 have b0:=bound_iN (n:=f.K) (by omega) (by omega)
 rcases hk with e | e | e | e | e | e | e | e | e | e<;>simp only[letters,shape,items,Fld.fits,e]<;>simp[e]at hs hh hb hm b0<;>simp[Fld.fits,okFor_iN,okFor_iB,okFor_iD,bound_iD,b0]<;>
  (try(first | (refine⟨bound_iN (by omega) (by omega),bound_iN (by omega) (by omega),bound_iN (by omega) (by omega),bound_iB (by omega)⟩) | (refine⟨bound_iN (by omega) (by omega),bound_iN (by omega) (by omega),bound_iN (by omega) (by omega)⟩) | (refine⟨bound_iN (by omega) (by omega),bound_iN (by omega) (by omega)⟩) | (refine⟨bound_iN (by omega) (by omega),bound_iB (by omega)⟩) | (exact bound_iN (by omega) (by omega)) | (exact bound_iB (by omega))))
theorem put_can {f:Fac}(h:Can f):put f=(Fld.encs (letters f.K) (iN f.K::items f),0):=by
 unfold put
 rw[if_pos ((can_iff f).2 h),Fld.put_fits (letters_flat _).1 (letters_flat _).2 h.fits]
theorem put_not {f:Fac}(h:¬Can f):put f=([],2):=by
 unfold put;rw[if_neg (fun e=>h ((can_iff f).1 e))]
theorem items_ok {f:Fac}(h:f.ok):∀x∈iN f.K::items f,x.ok:=by
 have z1:∀n∈zero32,0<=n/\n<=255:=by intro n hn;unfold Fld.zero32 at hn;have:=(List.mem_replicate.1 hn).2;omega
 have z2:zero32.length=32:=Fld.zero32_length
 have n1:∀n,fit n->(iN n).ok:=fun n hn=>⟨hn.1,hn.2,by simp[iN],z1,z2⟩
 have d1:(iD f.D).ok:=⟨by simp[iD],by simp[iD],by simp[iD],h.D,h.len⟩
 have b1:(iB f.B).ok:=⟨by simp[iB],by simp[iB],h.B,z1,z2⟩
 intro x hx
 rcases List.mem_cons.1 hx with rfl | hx
 ·exact n1 _ h.K
 ·unfold items at hx
  (repeat' split at hx)<;>simp at hx<;>(first | (rcases hx with rfl | rfl | rfl | rfl) | (rcases hx with rfl | rfl | rfl) | (rcases hx with rfl | rfl) | (obtain rfl:=hx))<;>
    (first | exact n1 _ h.S | exact n1 _ h.H | exact n1 _ h.N | exact n1 _ h.O | exact d1 | exact b1)
theorem sum32 (zs:List Int):(Sha.sum zs).length=32:=by rw[Sha.sum_eq,Sha.tellUpto_length]
theorem sum8 (zs:List Int):∀n∈Sha.sum zs,0<=n/\n<=255:=by rw[Sha.sum_eq];exact Sha.tellUpto_bd _ _
theorem zero8:∀n∈zero32,0<=n/\n<=255:=by intro n hn;unfold Fld.zero32 at hn;have:=(List.mem_replicate.1 hn).2;omega
end Fct
end
end Go.Proofs.YtokpabkcaofahaaGreat
