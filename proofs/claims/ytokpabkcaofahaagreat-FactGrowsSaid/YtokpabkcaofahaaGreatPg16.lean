/-
  What stands under factGrows_holds: part 16.
-/
import Derived.Test.YtokpabkcaofahaaGreatPg15
import Derived.Test.YtokpabkcaofahaaGreatPg13
import Derived.Test.YtokpabkcaofahaaGreatPg12
import Derived.Test.YtokpabkcaofahaaGreatPg7
import Derived.Deep.RegionLaw
import Derived.Test.YtokpabkcaofahaaGreatPg14
namespace Go.Proofs.YtokpabkcaofahaaGreat
set_option linter.unusedSimpArgs false
set_option linter.unusedVariables false
set_option maxRecDepth 100000
set_option maxHeartbeats 20000000
section
open Go.RowKit Sha Fct
theorem append_step9 {P:Program} {ops:Array Oper} {o:Oper} {a:Act} {w:World} {K:Act->World->Prop} {Q:Exit->Act->World->Prop} {E:Prop}
 (hg:o.guard=none) (d x:Operand) (t1 t2:TypeId) (hop:o.op=Op.call {callee:=Callee.builtin Builtin.append,args:=#[d,x],argTypes:=#[t1,t2]})
 (v u:Value) (hd:a.eval d=v) (hx:a.eval x=u) {v':Value} {w':World} (hr:(Builtin.append_ #[t1,t2] o.type #[v,u]).run P w= .ok v' w') (hK:K (a.put o.dst v') w'):
 if Region.wanted o (yielded ops a.tmps)=true then Oper.wp P o a w K Q else E:=by
 have hw:Region.wanted o (yielded ops a.tmps)=true:=by simp[Region.wanted,hg]
 rw[if_pos hw]
 unfold Oper.wp execOp
 simp only[hop,resolve,invoke,builtin,Sem.run_bind,Sem.run_pure,Result.andThen_ok,List.map_toArray,List.map_cons,List.map_nil,hd,hx,hr]
 exact hK
theorem run_cutS_lh {P:Program} {t e:TypeId} {s:Nat}(hu:P.underlying t=some (.slice e))(he:(P.info? e).map (fun i=>i.size)=some s)(p:Option Addr)(len cap k m:Nat)(hk:k<=m)(hc:m<=cap)(w:World):
 (Instr.sliceAt t (.slice p len cap) (some (.int .i64 k)) (some (.int .i64 m)) none).run P w= .ok (.slice (if cap=k then p else p.map (·.add (k*s))) (m - k) (cap - k)) w:=by
 have hu':P.underlying t=some (.slice (P.elem t)):=by rw[elem_ofS hu];exact hu
 rw[run_sliceAt_slice w t _ _ _ _ hu',run_slice_lh w t p len cap hu' .i64 .i64 k m (by omega) (by omega) (by omega),elem_ofS hu,size_ofS he]
 simp[Result.andThen,sliced]
def DelH1 (w:World)(B g m:Nat)(xs:List Value)(e:Ending)(w':World):Prop:=∃v',e= .returned v'/\w'.ownsRow B 97 34 v' m xs/\w.grownBy w' (some g)
attribute [local go_sem ↓] execOp_sliceH
theorem delete_H (w:World)(B g m cap i:Nat)(A R1 D rest:List Value)(hA:A.length=i*34)(hR1:R1.length=34)(hD:D.length=(m - i)*34)(hrest:rest.length=(cap - (m+1))*34)(hi:i<=m)(hn:m<=1000000000)(hnc:m+1<=cap)(hm:cap<=maxLen)(hB:B<=g)
 (hk:Blk w g (A++R1++D++rest) 97) (hD1:∀u∈D,u.oneCell'=true):
 Calls Tryz.prog 177 #[.slice (some ⟨g,0,none⟩) (m+1) cap,.int .i64 i,.int .i64 ((i:Int)+1)] w (DelH1 w B g m (A++D)):=by
 have hm2:=hm
 unfold maxLen at hm
 have hL:(A++R1++D++rest).length=cap*34:=by
  rw[List.length_append,List.length_append,List.length_append,hA,hR1,hD,hrest]
  have:(i*34+34)+(m - i)*34+(cap - (m+1))*34=cap*34:=by
   rw[<-Nat.succ_mul,<-Nat.add_mul,<-Nat.add_mul];congr 1;omega
  omega
 -- the tail comes one to the front
 obtain⟨T,hT⟩:∃T,T=(A++R1++D++rest).drop (i*34+D.length):=⟨_,rfl⟩
 have hTl:T.length=(cap - (m+1)+1)*34:=by
  rw[hT,List.length_drop,hL,hD,<-Nat.add_mul,<-Nat.sub_mul];congr 1;omega
 have hkd:w.drew.heap[g]? = some (.cells (A++R1++D++rest).toArray 97 (0,0)):=hk
 obtain⟨i0,hi0,hz0,hz1,hz2⟩:=info_parts info_H
 obtain⟨a0,ha0⟩:∃a:Addr,a=if cap=i+1 then⟨g,0,none⟩else⟨g,(i+1)*34,none⟩:=⟨_,rfl⟩
 have haD:D≠[]->a0=⟨g,(i+1)*34,none⟩:=fun h=>by
  rw[ha0,if_neg]
  rintro rfl
  apply h
  apply List.eq_nil_of_length_eq_zero
  rw[hD,show m - i=0 by omega]
 have c1:∀W,(sliceOp 43 (.slice (some ⟨g,0,none⟩) (m+1) cap) (some (.int .i64 ((i:Int)+1))) none).run Tryz.prog W= .ok (.value (.slice (some a0) (m - i) (cap - (i+1)))) W:=fun W=>by
  have h:=cut_lH (some ⟨g,0,none⟩) (m+1) cap (i+1) (by omega) hnc W
  rw[show m+1 - (i+1)=m - i by omega,show(if cap=i+1 then some (⟨g,0,none⟩:Addr)else(some (⟨g,0,none⟩:Addr)).map (·.add ((i+1)*34)))=some a0 by
   rw[ha0];split<;>simp[Addr.add_mid]]at h
  exact h
 have hcn:∀j u,D[j]? = some u->w.drew.cell? (a0.add j)=some u:=fun j u hj=>by
  rw[haD (by rintro rfl;simp at hj)]
  have h9:Blk w.drew g ((A++R1)++D++rest) 97:=hk
  exact cells_in h9 (by rw[List.length_append,hA,hR1,<-Nat.succ_mul]) j u hj
 have hap:∀ty,(Builtin.append_ #[43,43] ty #[.slice (some ⟨g,0,none⟩) i cap,.slice (some a0) (m - i) (cap - (i+1))]).run Tryz.prog w.drew =
  .ok (.slice (some ⟨g,0,none⟩) m cap) (w.drew.setRow g (A++D++T).toArray):=fun ty=>by
  have h:=run_append_room (P:=Tryz.prog) w.drew 43 ty 97 i0 Tryz.underlying43 hi0 g i cap _ hkd a0 (m - i) (cap - (i+1)) D (by rw[hz1];exact hD) hcn hD1 (by omega) (by rw[hz1,List.size_toArray,hL,hD,<-Nat.add_mul];exact Nat.mul_le_mul_right _ (by omega))
  rw[hz1]at h
  rw[show i+(m - i)=m by omega]at h
  rw[show(A++R1++D++rest).toArray.toList=A++R1++D++rest from rfl,<-hT,show(A++R1++D++rest).take (i*34)=A by rw[List.append_assoc,List.append_assoc,List.take_left' hA]]at h
  exact h
 have k1:Blk (w.drew.setRow g (A++D++T).toArray) g (A++D++T) 97:=Blk.row (w:=w.drew) hk _
 have hg1:w.grownBy (w.drew.setRow g (A++D++T).toArray) (some g):=by
  have h2:=below_setRow (B:=g) (w0:=w) (w:=w.drew) (Below.refl g w).drew (Nat.le_refl _) (A++D++T).toArray
  exact⟨h2.os,h2.tape,h2.output,h2.size,fun k hk hn=>setRow_other w.drew g k _ (fun e=>hn (by rw[e]))⟩
 have hT34:(T.take 34).length=34:=by rw[List.length_take,hTl,Nat.succ_mul];omega
 have hAD:(A++D).length=m*34:=by rw[List.length_append,hA,hD,<-Nat.add_mul];congr 1;omega
 have k1':Blk (w.drew.setRow g (A++D++T).toArray) g (A++D++T.take 34++T.drop 34) 97:=by rw[List.append_assoc (A++D),List.take_append_drop];exact k1
 have hz:=zsize_H
 obtain⟨zz,hzz⟩:∃zz:Value,zz= .agg (hcells (0,0,Fld.zero32) none 0).toArray:=⟨_,rfl⟩
 have hzv:=zeroV_H
 rw[<-hzz]at hz hzv
 have hzo:∀v∈zz.cells.toList,v.oneCell'=true:=by rw[hzz];exact sH.one _ _ _
 have hZl:(Builtin.zeroCells zz.cells 1).toList.length=34:=by rw[Array.length_toList,size_zeroCells,hz]
 have cl:=fun cc=>run_clearS (P:=Tryz.prog) (w.drew.setRow g (A++D++T).toArray) Tryz.underlying43 hzv (by omega) hzo g (m*34) 1 cc (by omega) (by rw[hz];exact k1'.there _ _ (by rw[List.length_append,List.length_append,hAD,hT34];omega))
 have k2:=Blk.setCells (Builtin.zeroCells zz.cells 1).toList (m*34) _ _ _ _ k1' hAD (by rw[hT34,hZl])
 have hg2:=setCells_grown (w.drew.setRow g (A++D++T).toArray) g (m*34) (Builtin.zeroCells zz.cells 1).toList
 have hlast:(A++D++((Builtin.zeroCells zz.cells 1).toList++T.drop 34)).length=cap*34:=by
  rw[List.length_append,hAD,List.length_append,hZl,List.length_drop,hTl,Nat.succ_mul,Nat.add_sub_cancel]
  have:m*34+34+(cap - (m+1))*34=cap*34:=by rw[<-Nat.succ_mul,<-Nat.add_mul];congr 1;omega
  omega
 have HO:=Lib.hid (own_ofBlk (B:=B) (n:=m) (s:=34) (cap:=cap) (xs:=A++D) (rest:=(Builtin.zeroCells zz.cells 1).toList++T.drop 34) hB (by rw[<-List.append_assoc];exact k2) (by omega) hm2 hAD hlast)
 have HG:=Lib.hid (grown_trans hg1 hg2)
 have c0:=cut_hH (some ⟨g,0,none⟩) (m+1) cap i (by omega)
 have c2:∀W,(sliceOp 43 (.slice (some ⟨g,0,none⟩) m cap) (some (.int .i64 (m:Int))) (some (.int .i64 ((m:Int)+1)))).run Tryz.prog W= .ok (.value (.slice (some ⟨g,m*34,none⟩) 1 (cap - m))) W:=fun W=>by
  have h:=run_sliceOp (run_cutS_lh Tryz.underlying43 isize_H (some ⟨g,0,none⟩) m cap m (m+1) (by omega) hnc W)
  rw[if_neg (by omega),Nat.add_sub_cancel_left]at h
  simpa[Addr.add_mid]using h
 have hne:((i:Int) == (i:Int)+1)=false:=by rw[beq_eq_false_iff_ne];omega
 clear hlast k2 k1 k1' hg1 hg2 hZl hzo hz hzv hzz hAD hT34 hTl hT hcn haD ha0 hkd hL hk hD1 hrest hD hR1 hA hz0 hz1 hz2 hi0
 generalize w.drew.setRow g (A++D++T).toArray=w1 at *
 generalize w1.setCells g (m*34) (Builtin.zeroCells zz.cells 1).toList=w2 at *
 generalize m - i=l1 at *
 generalize cap - (i+1)=l2 at *
 generalize hl3:cap - m=l3 at *
 go_enter Tryz.func177,Tryz.ntmps177
 go_wp2_with fail
 go_region_law (refine append_step9 rfl (.tmp 22) (.tmp 25) 43 43 rfl _ _ (by simp[Act.eval,Act.put]) (by simp[Act.eval,Act.put]) (hap _) ?_)
 all_goals
  go_wp2_with (at_builtin;refine clear_law _ rfl (.tmp 31) 43 rfl _ rfl (cl _ _) ?_)
  go_ret
  exact⟨_,rfl,HO.out,HG.out⟩
end
section
open Go.RowKit Sha Fct
theorem info2_H:(Tryz.prog.info? 97).map (fun i=>(i.zero,i.size))=some (some (.agg (hcells (0,0,Fld.zero32) none 0).toArray),34):=by unfold hcells;kernel_rfl
theorem execOp_buildOH (ρ:Operand->Value)(dst:Option Tmp)(len:Nat)(parts:Array (Nat×Operand))(ty:TypeId)(pos:String)(after:Array Edge)(guard:Option (Nat×Bool)):
 execOp ρ {dst:=dst,op:=.buildSlice 43 len parts,type:=ty,pos:=pos,after:=after,guard:=guard}= buildOp 43 len (parts.map fun(i,x)=>(i,ρ x)):=by unfold buildOp;rfl
theorem build_OH (w:World) {x:Int×Int×Fct.Id}(hx:sH.ok x)(q:Option Addr)(c:Nat):(buildOp 43 1 #[(0,.agg (hcells x q c).toArray)]).run Tryz.prog w= .ok (.value (.slice (some ⟨w.heap.size,0,none⟩) 1 1)) (w.alloc (.cells (hcells x q c).toArray 97)):=by
 have hl:(hcells x q c).length=34:=sH.len q c hx
 have:=run_build_items (P:=Tryz.prog) w 43 97 34 _ (by omega) Tryz.underlying43 info2_H [hcells x q c] (by intro d hd;simp at hd;subst hd;exact hl) (by simp)
 exact run_buildOp (by simpa using this)
theorem t8_H:(5:TypeId)≠97:=by decide
def PlcH (w:World)(B:Nat)(v:Value)(l:List (Int×Int×Fct.Id))(x:Int×Int×Fct.Id)(e:Ending)(w':World):Prop:=
 ∃v' zs,e= .returned (.tuple #[v',.int .i64 (Rise.place id hlt (id x) l:Nat)])/\Rws sH 97 w' B v' zs/\zs.map (·.1)=Rise.add id hlt x l/\w.grownBy w' v.ownBlock/\RowTy w v.ownBlock 97/\(∀g,v'.ownBlock=some g->v.ownBlock=some g\/w.heap.size<=g)
attribute [local go_sem ↓] execOp_loadOH execOp_boxOH execOp_buildOH
theorem place_H (w:World)(B:Nat)(v:Value)(ys:List (Hd (Int×Int×Fct.Id)))(h:Rws sH 97 w B v ys)(hup:Rise.Up id hlt (ys.map (·.1)))(x:Int×Int×Fct.Id)(q:Option Addr)(d:Nat)(hx:sH.Good w x q d)(hu:U8 w q (sH.byt x))(hn:ys.length<=1000000000)(hB:B<=w.heap.size):
 Calls Tryz.prog 154 #[v,.agg (hcells x q d).toArray,.func (.func 156) #[] #[]] w (PlcH w B v (ys.map (·.1)) x):=by
 obtain⟨p,c,rfl,ht⟩:=h.told
 obtain⟨n,hnl⟩:∃n,n=ys.length:=⟨_,rfl⟩
 rw[<-hnl]at ht hn
 have bx:=run_boxOp (P:=Tryz.prog) (t:=97) (cs:=(hcells x q d).toArray) w
 have hb1:=(Below.refl w.heap.size w).alloc (Nat.le_refl _) (.cells (hcells x q d).toArray 97)
 have hk1:Blk (w.alloc (.cells (hcells x q d).toArray 97)) w.heap.size (hcells x q d) 97:=Blk.new w _ 97
 obtain⟨w1,hw1⟩:∃v,v=w.alloc (.cells (hcells x q d).toArray 97):=⟨_,rfl⟩
 rw[<-hw1]at bx hb1 hk1
 obtain⟨g0,hg0⟩:∃g,g=w.heap.size:=⟨_,rfl⟩
 rw[<-hg0]at bx hk1
 have HBS:=Lib.hid (bs_H (ys.map (·.1)) p n c w1 (ht.below hb1) hup x q d hx.ok hn)
 obtain⟨l,hl⟩:∃l,l=ys.map (·.1):=⟨_,rfl⟩
 rw[<-hl]at HBS hup ht ⊢
 obtain⟨pl,hpl⟩:∃k,k=Rise.place id hlt (id x) l:=⟨_,rfl⟩
 have hple:pl<=n:=by rw[hpl,ht.len];exact Rise.place_le _ _
 have HPL:=Lib.hid hpl
 have HL:=Lib.hid hl
 have HNL:=Lib.hid hnl
 have HB1:=Lib.hid hb1
 have HK:=Lib.hid hk1
 have HR:=Lib.hid h
 have HX:=Lib.hid hx
 have HU:=Lib.hid hu
 rw[<-hpl]at HBS
 rw[<-hnl]
 clear hw1 hg0 hpl hl hnl hb1 hk1 h hup hx hu ht
 cases hf:Rise.found id hlt (id x) l with
 | true=>
    rw[hf]at HBS
    have HQ:=Lib.hid (Rise.add_found (x:=x) hf)
    clear hf
    have l1:=load_OH HX.out.ok HK.out.range
    go_enter Tryz.func154,Tryz.ntmps154
    go_wp2_with fail
    refine HBS.out.mono ?_
    rintro e w2 ⟨rfl,hb2⟩
    have HB2:=Lib.hid (HB1.out.trans (hb2.mono HB1.out.size))
    clear hb2
    go_wp2_with fail
    go_ret2
    refine⟨.slice p n c,ys,by rw[<-HPL.out];rfl,?_,by rw[HQ.out,HL.out],⟨HB2.out.os,HB2.out.tape,HB2.out.output,HB2.out.size,fun k hk _=>HB2.out.block k hk⟩,?_,fun g hg=>Or.inl hg⟩
    ·have h2:=HR.out.below HB2.out
     rw[HNL.out];exact h2
    ·have h2:=RowTy.of HR.out.own
     rw[HNL.out];exact h2
 | false=>
    rw[hf]at HBS
    have HQ:=Lib.hid (Rise.add_new (x:=x) hf)
    clear hf
    have l1:=load_OH HX.out.ok HK.out.range
    go_enter Tryz.func154,Tryz.ntmps154
    go_wp2_with fail
    refine HBS.out.mono ?_
    rintro e w2 ⟨rfl,hb2⟩
    have HB2:=Lib.hid (HB1.out.trans (hb2.mono HB1.out.size))
    have HK2:=Lib.hid (HK.out.below hb2 HK.out.lt)
    have HR2:=Lib.hid (HR.out.below HB2.out)
    have lx:=load_OH HX.out.ok HK2.out.range
    have bi:=build_OH w2 HX.out.ok q d
    have hb3:=HB2.out.alloc HB2.out.size (.cells (hcells x q d).toArray 97)
    have hb23:=(Below.refl w2.heap.size w2).alloc (Nat.le_refl _) (.cells (hcells x q d).toArray 97)
    have hk3:Blk (w2.alloc (.cells (hcells x q d).toArray 97)) w2.heap.size (hcells x q d) 97:=Blk.new w2 _ 97
    have hr3:=HR2.out.below hb23
    have hlt3:=fun k hk=>(HR2.out.own.lt k hk).2
    obtain⟨pb,hpb⟩:∃g,g=w2.heap.size:=⟨_,rfl⟩
    rw[<-hpb]at bi hk3
    have HNE:=Lib.hid (show(Value.slice p n c).ownBlock≠some pb from fun e=>by
     have h2:=hlt3 pb (by rw[<-HNL.out];exact e)
     omega)
    generalize w2.alloc (.cells (hcells x q d).toArray 97)=w3 at *
    have HIN:=Lib.hid (ins_H w3 B (.slice p n c) n (ys.flatMap sH.row) (by have h2:=hr3.own;rw[<-HNL.out]at h2;exact h2) (Shp.flat_one ys) pl hple pb (hcells x q d) (sH.len q d HX.out.ok) (sH.one x q d) hk3 HNE.out hn (Nat.le_trans hB hb3.size))
    have HB3:=Lib.hid hb3
    have HR3:=Lib.hid hr3
    clear hb2 hb23 hk3 hr3 hlt3 hpb hb3 HBS
    go_wp2_with fail
    refine HIN.out.mono ?_
    rintro e w4 ⟨v4,rfl,ho4,hg4,ha4⟩
    have HO4:=Lib.hid ho4
    have HG4:=Lib.hid hg4
    have HA4:=Lib.hid ha4
    clear ho4 hg4 ha4
    go_wp2_with fail
    go_ret2
    have hfl:(ys.flatMap sH.row).take (pl*34)++hcells x q d++(ys.flatMap sH.row).drop (pl*34)=(ys.take pl++(x,q,d)::ys.drop pl).flatMap sH.row:=by
     have h1:=flat_takeS (S:=sH) ys HR.out.ok pl
     have h2:=flat_dropS (S:=sH) ys HR.out.ok pl
     rw[List.flatMap_append,List.flatMap_cons,<-h1,<-h2,List.append_assoc];rfl
    have hty:RowTy w3 (Value.slice p n c).ownBlock 97:=by have h2:=RowTy.of HR3.out.own;rw[<-HNL.out]at h2;exact h2
    have hll:(ys.take pl++(x,q,d)::ys.drop pl).length=n+1:=by
     rw[List.length_append,List.length_cons,List.length_take,List.length_drop,<-HNL.out];omega
    refine⟨v4,ys.take pl++(x,q,d)::ys.drop pl,by rw[<-HPL.out];rfl,⟨?_,?_⟩,?_,?_,?_,?_⟩
    ·rw[hll,<-hfl];exact HO4.out
    ·intro y hy
     have hold:∀y∈ys,sH.Good w4 y.1 y.2.1 y.2.2/\U8 w4 y.2.1 (sH.byt y.1):=fun y hy=>
      ⟨good_grown (HR3.out.good y hy).1 (HR3.out.good y hy).2 HG4.out hty t8_H,u8_grown (HR3.out.good y hy).2 HG4.out hty t8_H⟩
     rcases List.mem_append.1 hy with hy | hy
     ·exact hold y (List.mem_of_mem_take hy)
     ·rcases List.mem_cons.1 hy with rfl | hy
      ·exact⟨good_grown (HX.out.below HB3.out) (HU.out.below HB3.out) HG4.out hty t8_H,u8_grown (HU.out.below HB3.out) HG4.out hty t8_H⟩
      ·exact hold y (List.mem_of_mem_drop hy)
    ·rw[HQ.out,<-HPL.out,HL.out];simp
    ·exact⟨HG4.out.os.trans HB3.out.os,HG4.out.tape.trans HB3.out.tape,HG4.out.output.trans HB3.out.output,Nat.le_trans HB3.out.size HG4.out.size,fun k hk hne=>(HG4.out.block k (Nat.lt_of_lt_of_le hk HB3.out.size) hne).trans (HB3.out.block k hk)⟩
    ·have h2:=RowTy.of HR.out.own
     rw[<-HNL.out]at h2;exact h2
    ·intro g hg
     rcases HA4.out g hg with h2 | h2
     ·exact Or.inl h2
     ·exact Or.inr (Nat.le_trans HB3.out.size h2)
end
section
open Go.RowKit Sha Fct
attribute [local go_sem ↓] execOp_loadOH execOp_boxOH
def Wth (w:World)(B:Nat)(v:Value)(l:List (Int×Int×Fct.Id))(x:Int×Int×Fct.Id)(e:Ending)(w':World):Prop:=
 ∃v' zs,e= .returned (.tuple #[v',.bool (decide (x∈l))])/\Rws sH 97 w' B v' zs/\zs.map (·.1)=l.filter (fun y=>!decide (y=x))/\w.grownBy w' v.ownBlock
theorem without_any (w:World)(B:Nat)(v:Value)(ys:List (Hd (Int×Int×Fct.Id)))(h:Rws sH 97 w B v ys)(hup:Rise.Up id hlt (ys.map (·.1)))(x:Int×Int×Fct.Id)(q:Option Addr)(d:Nat)(hx:sH.ok x)(hn:ys.length<=1000000000):
 Calls Tryz.prog 157 #[v,.agg (hcells x q d).toArray,.func (.func 156) #[] #[]] w (Wth w B v (ys.map (·.1)) x):=by
 obtain⟨p,c,rfl,ht⟩:=h.told
 have bx:=run_boxOp (P:=Tryz.prog) (t:=97) (cs:=(hcells x q d).toArray) w
 have hb1:=(Below.refl w.heap.size w).alloc (Nat.le_refl _) (.cells (hcells x q d).toArray 97)
 have hk1:Blk (w.alloc (.cells (hcells x q d).toArray 97)) w.heap.size (hcells x q d) 97:=Blk.new w _ 97
 obtain⟨g0,hg0⟩:∃g,g=w.heap.size:=⟨_,rfl⟩
 rw[<-hg0]at bx hk1
 clear hg0
 generalize w.alloc (.cells (hcells x q d).toArray 97)=w1 at *
 have l1:=load_OH hx hk1.range
 have hbs:=bs_H (ys.map (·.1)) p ys.length c w1 (ht.below hb1) hup x q d hx hn
 have hr1:=h.below hb1
 have HB1:=Lib.hid hb1
 have HN:=Lib.hid hn
 obtain⟨n,hnl⟩:∃n,n=ys.length:=⟨_,rfl⟩
 cases hf:Rise.found id hlt (id x) (ys.map (·.1))with
 | false=>
    rw[hf]at hbs
    have hno:=Rise.Up.look_none hlt_ord hup (Rise.found_no hf)
    have HM:=Lib.hid (show decide (x∈ys.map (·.1))=false from decide_eq_false fun hm=>hno x hm rfl)
    have HF:=Lib.hid (show(ys.map (·.1)).filter (fun y=>!decide (y=x))=ys.map (·.1)from List.filter_eq_self.2 fun y hy=>by simpa using hno y hy)
    have HR:=Lib.hid hr1
    have HBS:=Lib.hid hbs
    have HNL:=Lib.hid hnl
    clear hbs hf hno h ht hr1 hb1 hk1 hnl hn
    rw[<-HNL.out]at HBS ⊢
    generalize Rise.place id hlt (id x) (ys.map (·.1))=pl at *
    go_enter Tryz.func157,Tryz.ntmps157
    go_wp2_with fail
    refine HBS.out.mono ?_
    rintro e w2 ⟨rfl,hb2⟩
    have HB2:=Lib.hid (HB1.out.trans (hb2.mono HB1.out.size))
    have HR2:=Lib.hid (HR.out.below hb2)
    clear hb2
    go_wp2_with fail
    go_ret2
    refine⟨_,ys,by rw[HM.out];rfl,?_,HF.out.symm,below_grown HB2.out _⟩
    have:=HR2.out
    rw[<-HNL.out]at this;exact this
 | true=>
    rw[hf]at hbs
    obtain⟨hlt2,hkey⟩:=(Rise.found_iff (key:=id) (lt:=hlt) (id x) (ys.map (·.1))).1 hf
    obtain⟨pl,hpl⟩:∃k,k=Rise.place id hlt (id x) (ys.map (·.1)):=⟨_,rfl⟩
    have hkey2:(ys.map (·.1))[pl]? = some x:=by
     subst hpl
     rw[List.getElem?_eq_getElem hlt2]
     exact congrArg some hkey
    rw[<-hpl]at hbs hlt2
    rw[List.length_map]at hlt2
    have hxm:x∈ys.map (·.1):=List.mem_of_getElem? hkey2
    have HM:=Lib.hid (decide_eq_true hxm)
    have hfil:(ys.map (·.1)).filter (fun y=>!decide (y=x))=(ys.map (·.1)).eraseIdx pl:=by
     refine ChangeMaps.filter_eq_eraseIdx (fun y=>decide (y=x)) _ pl x hkey2 (by simp) ?_
     refine hup.imp fun {a b} hab hc=>?_
     have h1:=of_decide_eq_true hc.1
     have h2:=of_decide_eq_true hc.2
     rw[h1,h2]at hab
     have h3:hlt x x=false:=by
      cases e:hlt x x with
      | false=>rfl
      | true=>
         have:=(ordH_neg x x).2 e
         have h4:=(ordH_zero x x).2 rfl
         omega
     simp only[id]at hab
     rw[h3]at hab;cases hab
    have HFI:=Lib.hid (show(ys.take pl++ys.drop (pl+1)).map (·.1)=(ys.map (·.1)).filter (fun y=>!decide (y=x)) by
     rw[hfil,List.eraseIdx_eq_take_drop_succ,List.map_append,List.map_take,List.map_drop])
    have HR:=Lib.hid hr1
    have HBS:=Lib.hid hbs
    have HNL:=Lib.hid hnl
    have HH:=Lib.hid h
    clear hbs hf h ht hr1 hb1 hk1 hnl hn hfil hkey hkey2 hpl hxm
    have hpl0:pl < n:=by rw[HNL.out];exact hlt2
    obtain⟨m,rfl⟩:∃m,n=m+1:=⟨n - 1,by omega⟩
    have hmm:m<=1000000000:=by have:=HN.out;have:=HNL.out;omega
    rw[<-HNL.out]at HBS ⊢
    go_enter Tryz.func157,Tryz.ntmps157
    go_wp2_with fail
    refine HBS.out.mono ?_
    rintro e w2 ⟨rfl,hb2⟩
    have HB2:=Lib.hid (HB1.out.trans (hb2.mono HB1.out.size))
    have hr2:=HR.out.below hb2
    obtain⟨g,cp,rest,hv,hBg,hcp,hmx,hk,hl,hl2⟩:=own_whole hr2.own (by omega)
    have hv2:p=some ⟨g,0,none⟩/\c=cp:=by injection hv with h1 h2 h3;exact⟨h1,h3⟩
    obtain⟨rfl,rfl⟩:=hv2
    rw[flat_el hr2.ok pl hlt2]at hk
    have hA:((ys.take pl).flatMap sH.row).length=pl*34:=by
     rw[flat_len (fun y hy=>hr2.ok y (List.mem_of_mem_take hy)),List.length_take,Nat.min_eq_left (by omega)];rfl
    have hD:((ys.drop (pl+1)).flatMap sH.row).length=(m - pl)*34:=by
     rw[flat_len (fun y hy=>hr2.ok y (List.mem_of_mem_drop hy)),List.length_drop,<-HNL.out,Nat.succ_sub_succ];rfl
    have hre:rest.length=(c - (m+1))*34:=by
     rw[List.length_append,hl,<-HNL.out]at hl2
     have e:sH.n=34:=rfl
     rw[e]at hl2
     rw[Nat.sub_mul];omega
    have hdl:=delete_H w2 B g m c pl _ _ _ rest hA (sH.len _ _ (hr2.ok _ (List.getElem_mem hlt2))) hD hre (by omega) hmm (by rw[HNL.out];exact hcp) hmx hBg hk (Shp.flat_one _)
    have HDL:=Lib.hid hdl
    have HR2:=Lib.hid hr2
    clear hdl hk hA hD hre hl hl2 hv hr2 hb2
    go_wp2_with fail
    refine HDL.out.mono ?_
    rintro e w3 ⟨v3,rfl,ho3,hg3⟩
    have HO3:=Lib.hid ho3
    have HG3:=Lib.hid hg3
    clear ho3 hg3
    go_wp2_with fail
    go_ret2
    have hty:RowTy w2 (some g) 97:=by have h2:=RowTy.of HR2.out.own;exact h2
    refine⟨v3,ys.take pl++ys.drop (pl+1),by rw[HM.out];rfl,⟨?_,?_⟩,HFI.out,grown_trans (below_grown HB2.out _) HG3.out⟩
    ·rw[List.length_append,List.length_take,List.length_drop,<-HNL.out,Nat.min_eq_left (by omega),List.flatMap_append,show pl+(m+1 - (pl+1))=m by omega]
     exact HO3.out
    ·intro y hy
     have hm:y∈ys:=by
      rcases List.mem_append.1 hy with h1 | h1
      ·exact List.mem_of_mem_take h1
      ·exact List.mem_of_mem_drop h1
     exact⟨good_grown (HR2.out.good y hm).1 (HR2.out.good y hm).2 HG3.out hty t8_H,u8_grown (HR2.out.good y hm).2 HG3.out hty t8_H⟩
end
section
open Go.RowKit Sha Fct
attribute [local go_sem ↓] execOp_boxFact execOp_loadFact execOp_loadId
abbrev hOf (f:Fac):Int×Int×Fct.Id:=(f.H,f.S,f.D)
def SetS (s:Ste)(f:Fac):Ste:={s with hints:=s.hints.filter fun y=>!decide (y=hOf f)}
theorem less6_keeps (s:Ste) {f:Fac}(hf:f.K=6):s.keeps.filter (goesK f)= []/\s.keeps.filter (fun x=>!goesK f x)=s.keeps:=by
 have h:∀x,goesK f x=false:=fun x=>by unfold goesK;simp[hf]
 exact⟨List.filter_eq_nil_iff.2 fun x _=>by simp[h],List.filter_eq_self.2 fun x _=>by simp[h]⟩
theorem goesH6 {f:Fac}(hf:f.K=6):goesH f=fun y=>decide (y=hOf f):=by funext x;unfold goesH hOf;simp[hf]
theorem less6_no {s:Ste} {f:Fac}(hf:f.K=6)(hm:hOf f∉s.hints):SetS s f=s.less f:=by
 unfold SetS Ste.less
 simp only[goesH6 hf,(less6_keeps s hf).1,(less6_keeps s hf).2]
 have h:s.hints.filter (fun y=>decide (y=hOf f))= []:=List.filter_eq_nil_iff.2 fun x hx=>by simp;rintro rfl;exact hm hx
 have hb:s.blobs.filter (fun x=>!needed [] (s.hints.filter fun y=>decide (y=hOf f)) x.1 || needed s.keeps (s.hints.filter fun y=>!decide (y=hOf f)) x.1)=s.blobs:=List.filter_eq_self.2 fun x _=>by rw[h];simp[needed]
 rw[hb]
theorem less6_yes {s:Ste} {f:Fac}(hf:f.K=6)(hm:hOf f∈s.hints):RelP (SetS s f) [f.D] = s.less f:=by
 unfold RelP SetS Ste.less
 simp only[goesH6 hf,(less6_keeps s hf).1,(less6_keeps s hf).2]
 have hb:∀d,decide (d∈[f.D])=needed [] (s.hints.filter fun y=>decide (y=hOf f)) d:=fun d=>by
  rw[Bool.eq_iff_iff]
  unfold needed
  simp only[decide_eq_true_eq,List.mem_singleton,Bool.or_eq_true,List.any_eq_true,List.mem_filter,List.not_mem_nil,false_and,exists_false,false_or]
  constructor
  ·rintro rfl;exact⟨hOf f,⟨hm,rfl⟩,rfl⟩
  ·rintro⟨x,⟨_,rfl⟩,h⟩;exact h.symm
 simp only[hb]
structure SetR (w:World)(B g gf:Nat)(s:Ste)(r:Rows9)(f:Fac)(q:Option Addr)(c:Nat)(w5:World):Prop where
 so:∃q5 n5 d5 zs,StO w5 B g (SetS s f) {r with vh:=.slice q5 n5 d5,yh:=zs}/\zs.length<=r.yh.length
 fb:Blk w5 gf (fcells f q c) 28
 chg:Chg (fun k=>Own9 w B g k\/False) w w5
theorem setR_of {w w2 w3:World} {B g gf:Nat} {s:Ste} {r:Rows9} {f:Fac} {q:Option Addr} {c:Nat} {v':Value} {zs:List (Hd (Int×Int×Fct.Id))}(h:StO w B g s r)(hb:Below w.heap.size w w2)(hf:Blk w2 gf (fcells f q c) 28)
 (hr:Rws sH 97 w3 B v' zs) (hz:zs.map (·.1)=(r.yh.map (·.1)).filter (fun y=>!decide (y=hOf f))) (hg:w2.grownBy w3 r.vh.ownBlock):
 w3.cell? ⟨g,4,none⟩=some r.vh/\w3.frozen? ⟨g,4,none⟩=false/\Blk w3 gf (fcells f q c) 28/\SetR w B g gf s r f q c (w3.setCell ⟨g,4,none⟩ v'):=by
 have h2:=h.below hb
 have hc:Chg (fun k=>r.vh.ownBlock=some k\/False) w2 w3:=(Chg.refl _ w2).grown hg fun k hk _=>Or.inl hk
 have hno:∀{k cs t},Blk w2 k cs t->t≠97->¬(r.vh.ownBlock=some k\/False):=by
  rintro k cs t hk ht (e | e)
  ·obtain⟨c2,f2,h3⟩:=RowTy.of h2.h.own k e
   unfold Blk at hk
   rw[hk]at h3;simp at h3;exact ht h3.2.1
  ·exact e
 have hb3:=hc.blk h2.blk (hno h2.blk (by decide))
 have hf3:=hc.blk hf (hno hf (by decide))
 obtain⟨q5,c5,rfl,_⟩:=hr.told
 obtain⟨k1,k2⟩:=h2.setH (X:=fun _=>False) (fun k e=>e.elim) hc hr
 have hfg:gf≠g:=fun e=>by subst e;exact absurd (blk_ty hf h2.blk) (by decide)
 refine⟨hb3.cell 4,hb3.free 4,hf3,⟨q5,zs.length,c5,zs,?_,?_⟩,?_,?_⟩
 ·have e:SetS s f= {s with hints:=zs.map (·.1)}:=by unfold SetS;rw[hz,h.he]
  rw[e];exact k1
 ·have:=congrArg List.length hz
  rw[List.length_map]at this
  rw[this]
  exact Nat.le_trans (List.length_filter_le _ _) (by simp)
 ·exact hf3.setOther _ _ hfg
 ·exact chg9_trans ((Chg.refl _ w).grown (below_grown hb none) fun k hk=>by cases hk) k2
theorem settle_any (w:World)(B g:Nat)(s:Ste)(r:Rows9)(f:Fac)(q:Option Addr)(c:Nat)(h:StO w B g s r)(hf:f.K=6)(hok:sF.ok f)(hd:idOk f.D)(hup:Rise.Up id hlt s.hints)(hn:r.yb.length<=1000000000)(hn1:r.yk.length<=1000000000)(hn2:r.yh.length<=1000000000):
 Calls Tryz.prog 131 #[.pointer (some ⟨g,0,none⟩),.agg (fcells f q c).toArray] w (StOP B g (fun _=>False) (s.less f) w):=by
 obtain⟨ph,ch,hvh,_⟩:=h.h.told
 obtain⟨nh,hnh⟩:∃n,n=r.yh.length:=⟨_,rfl⟩
 rw[<-hnh]at hvh
 obtain⟨bm,hbm⟩:∃b,b=decide (hOf f∈s.hints):=⟨_,rfl⟩
 obtain⟨w1,hb⟩:=fbx9 w f q c
 have bx:=hb.b1
 have hk1:=hb.k1
 obtain⟨gf,hgf⟩:∃b,b=w.heap.size:=⟨_,rfl⟩
 rw[<-hgf]at bx hk1
 clear hgf
 have v1:w1.cell? ⟨g,4,none⟩=some (.slice ph nh ch):=by rw[(h.below hb.below).blk.cell 4,<-hvh];rfl
 have hD:=hok.len
 have l0:=load_factB (w:=w1.drew) (show Blk w1.drew gf (fcells f q c) 28 from hk1) hD
 have l1:=load_factB hk1 hD
 have HB1:=Lib.hid hb.below
 have HH:=Lib.hid h
 have HK:=Lib.hid hk1
 have HD:=Lib.hid hd
 have HOK:=Lib.hid hok
 have HVH:=Lib.hid hvh
 have HNH:=Lib.hid hnh
 have HL:=Lib.hid hD
 have HF:=Lib.hid hf
 have HN:=Lib.hid (⟨hn,hn1,hn2⟩:r.yb.length<=1000000000/\r.yk.length<=1000000000/\r.yh.length<=1000000000)
 have HW:=Lib.hid (fun(W:World) (hW:Below w.heap.size w W)=>(show Calls Tryz.prog 157 #[.slice ph nh ch,.agg (hcells (hOf f) none 0).toArray,.func (.func 156) #[] #[]] W (fun e w'=>∃v' zs,e= .returned (.tuple #[v',.bool bm])/\Rws sH 97 w' B v' zs/\zs.map (·.1)=(r.yh.map (·.1)).filter (fun y=>!decide (y=hOf f))/\W.grownBy w' r.vh.ownBlock)from by
  have h2:=without_any W B r.vh r.yh (h.below hW).h (by rw[h.he];exact hup) (hOf f) none 0 ⟨hok.H,hok.S,hd⟩ hn2
  unfold Wth at h2
  rw[h.he,<-hbm]at h2
  rw[hvh,h.he]at *
  exact h2))
 have HBM:=Lib.hid hbm
 clear hb h hbm hk1 hd hok hvh hnh hD hf hup hn hn1 hn2
 go_enter Tryz.func131,Tryz.ntmps131
 go_wp2_with fail
 go_region_law ((first
  | (go_simp;go_at_call 155;refine(hintOf_any f q c _ HOK.out HD.out).mono ?_;rintro e w2 ⟨rfl,hb2⟩;(have HB2:=Lib.hid (show Below w1.heap.size w1 w2 from(Below.refl _ w1).drew.trans hb2));clear hb2;(have HK2:=Lib.hid (HK.out.below HB2.out HK.out.lt));(have v2:w2.cell? ⟨g,4,none⟩=some (.slice ph nh ch):=(HB2.out.cell (p:=⟨g,4,none⟩) (World.block_lt_of_cell? w1 _ v1)).trans v1);(have l2:=load_factB HK2.out HL.out))
  | (go_simp;go_at_call 157;refine(HW.out _ (HB1.out.trans (HB2.out.mono HB1.out.size))).mono ?_;rintro e w3 ⟨v',zs,rfl,hr3,hz3,hg3⟩;(obtain⟨v3a,f3,hk3,hR3⟩:=setR_of HH.out (HB1.out.trans (HB2.out.mono HB1.out.size)) HK2.out hr3 hz3 hg3);(obtain⟨q5,c5,rfl,_⟩:=hr3.told);(rw[HVH.out]at v3a);(have v3:=v3a);(have HR3:=Lib.hid hR3);clear hR3 hr3 hz3 hg3 hk3 v3a;generalize zs.length=n5 at *)))
 all_goals(
  generalize w3.setCell ⟨g,4,none⟩ (.slice q5 n5 c5)=w5 at *
  clear v1 l0 l1 v2 l2 v3 f3 bx
  obtain⟨q6,n6,d6,zs6,hso,hzl⟩:=HR3.out.so
  cases bm with
  | false=>
     have HSO:=Lib.hid hso
     clear hso
     go_wp2_with fail
     go_end0
     have hh:=HSO.out
     rw[less6_no HF.out (of_decide_eq_false HBM.out.symm)]at hh
     exact⟨rfl,_,hh,HR3.out.chg⟩
  | true=>
     have hmm:(Instr.makeMap 215 none).run Tryz.prog w5= .ok (.map (some w5.heap.size)) (w5.alloc (.map #[] 0)):=run_makeMap _ _
     have hb6:=(Below.refl w5.heap.size w5).alloc (Nat.le_refl _) (.map #[] 0)
     have hf6:=HR3.out.fb.below hb6 HR3.out.fb.lt
     have l6:=fact_id hf6 HL.out
     obtain⟨w7,pu,hT7,hg7⟩:=(Takn.new w5).put HD.out
     have hs6:=hso.below hb6
     have hc7:Chg (fun k=>k=w5.heap.size) (w5.alloc (.map #[] 0)) w7:=(Chg.refl _ _).grown hg7 fun k hk _=>by cases hk;rfl
     have hs7:=chg_map hs6 hc7 (Takn.new w5).isMap
     have hwm:w.heap.size<=w5.heap.size:=HR3.out.chg.size
     rw[if_neg (by simp),List.nil_append]at hT7
     have hrl:=release_any w7 B g w5.heap.size _ _ [f.D] hs7 hT7 HN.out.1 HN.out.2.1 (Nat.le_trans hzl HN.out.2.2)
     have hcc:Chg (fun k=>Own9 w B g k\/k=w5.heap.size) w w7:=by
      have h1:Chg (fun k=>Own9 w B g k\/k=w5.heap.size) w w5:=HR3.out.chg.mono fun k _ hk=>hk.imp id False.elim
      refine chg9_trans h1 ?_
      have h2:Chg (fun k=>Own9 w5 B g k\/k=w5.heap.size) w5 (w5.alloc (.map #[] 0)):=(Chg.refl _ w5).grown (below_grown hb6 none) fun k hk=>by cases hk
      exact chg9_trans h2 (hc7.mono fun k _ hk=>Or.inr hk)
     have HRL:=Lib.hid hrl
     have HCC:=Lib.hid hcc
     have HWM:=Lib.hid hwm
     clear hrl hcc hwm hs6 hs7 hc7 hT7 hg7 hso hzl hb6 hf6
     obtain⟨mb,hmb⟩:∃b,b=w5.heap.size:=⟨_,rfl⟩
     rw[<-hmb]at hmm pu HRL HCC HWM
     clear hmb
     generalize w5.alloc (.map #[] 0)=w6 at *
     go_wp2_with fail
     refine HRL.out.mono ?_
     rintro e w8 ⟨rfl,r8,hs8,hk8⟩
     have HS8:=Lib.hid hs8
     have HK8:=Lib.hid hk8
     clear hs8 hk8
     go_wp2_with fail
     go_end0
     refine⟨rfl,r8,?_,?_⟩
     ·rw[<-less6_yes HF.out (of_decide_eq_true HBM.out.symm)]
      exact HS8.out
     ·exact(chg9_trans HCC.out HK8.out).mono fun k hk hc=>hc.imp id fun e=>by have:=HWM.out;omega)
end
section
open Go.RowKit Sha Fct
theorem info2_B:(Tryz.prog.info? 93).map (fun i=>(i.zero,i.size))=some (some (.agg (bcells (Fld.zero32,[]) none 0).toArray),33):=by unfold bcells;kernel_rfl
theorem execOp_buildOB (ρ:Operand->Value)(dst:Option Tmp)(len:Nat)(parts:Array (Nat×Operand))(ty:TypeId)(pos:String)(after:Array Edge)(guard:Option (Nat×Bool)):
 execOp ρ {dst:=dst,op:=.buildSlice 41 len parts,type:=ty,pos:=pos,after:=after,guard:=guard}= buildOp 41 len (parts.map fun(i,x)=>(i,ρ x)):=by unfold buildOp;rfl
theorem build_OB (w:World) {x:Fct.Id×List Int}(hx:sB.ok x)(q:Option Addr)(c:Nat):(buildOp 41 1 #[(0,.agg (bcells x q c).toArray)]).run Tryz.prog w= .ok (.value (.slice (some ⟨w.heap.size,0,none⟩) 1 1)) (w.alloc (.cells (bcells x q c).toArray 93)):=by
 have hl:(bcells x q c).length=33:=sB.len q c hx
 have:=run_build_items (P:=Tryz.prog) w 41 93 33 _ (by omega) Tryz.underlying41 info2_B [bcells x q c] (by intro d hd;simp at hd;subst hd;exact hl) (by simp)
 exact run_buildOp (by simpa using this)
theorem t8_B:(5:TypeId)≠93:=by decide
def PlcB (w:World)(B:Nat)(v:Value)(l:List (Fct.Id×List Int))(x:Fct.Id×List Int)(e:Ending)(w':World):Prop:=
 ∃v' zs,e= .returned (.tuple #[v',.int .i64 (Rise.place bkey Sha.less (bkey x) l:Nat)])/\Rws sB 93 w' B v' zs/\zs.map (·.1)=Rise.add bkey Sha.less x l/\w.grownBy w' v.ownBlock/\RowTy w v.ownBlock 93/\(∀g,v'.ownBlock=some g->v.ownBlock=some g\/w.heap.size<=g)
attribute [local go_sem ↓] execOp_loadOB execOp_boxOB execOp_buildOB
theorem place_B (w:World)(B:Nat)(v:Value)(ys:List (Hd (Fct.Id×List Int)))(h:Rws sB 93 w B v ys)(hup:Rise.Up bkey Sha.less (ys.map (·.1)))(x:Fct.Id×List Int)(q:Option Addr)(d:Nat)(hx:sB.Good w x q d)(hu:U8 w q (sB.byt x))(hn:ys.length<=1000000000)(hB:B<=w.heap.size):
 Calls Tryz.prog 127 #[v,.agg (bcells x q d).toArray,.func (.func 129) #[] #[]] w (PlcB w B v (ys.map (·.1)) x):=by
 obtain⟨p,c,rfl,ht⟩:=h.told
 obtain⟨n,hnl⟩:∃n,n=ys.length:=⟨_,rfl⟩
 rw[<-hnl]at ht hn
 have bx:=run_boxOp (P:=Tryz.prog) (t:=93) (cs:=(bcells x q d).toArray) w
 have hb1:=(Below.refl w.heap.size w).alloc (Nat.le_refl _) (.cells (bcells x q d).toArray 93)
 have hk1:Blk (w.alloc (.cells (bcells x q d).toArray 93)) w.heap.size (bcells x q d) 93:=Blk.new w _ 93
 obtain⟨w1,hw1⟩:∃v,v=w.alloc (.cells (bcells x q d).toArray 93):=⟨_,rfl⟩
 rw[<-hw1]at bx hb1 hk1
 obtain⟨g0,hg0⟩:∃g,g=w.heap.size:=⟨_,rfl⟩
 rw[<-hg0]at bx hk1
 have HBS:=Lib.hid (bs_B (ys.map (·.1)) p n c w1 (ht.below hb1) hup x q d hx.ok hn)
 obtain⟨l,hl⟩:∃l,l=ys.map (·.1):=⟨_,rfl⟩
 rw[<-hl]at HBS hup ht ⊢
 obtain⟨pl,hpl⟩:∃k,k=Rise.place bkey Sha.less (bkey x) l:=⟨_,rfl⟩
 have hple:pl<=n:=by rw[hpl,ht.len];exact Rise.place_le _ _
 have HPL:=Lib.hid hpl
 have HL:=Lib.hid hl
 have HNL:=Lib.hid hnl
 have HB1:=Lib.hid hb1
 have HK:=Lib.hid hk1
 have HR:=Lib.hid h
 have HX:=Lib.hid hx
 have HU:=Lib.hid hu
 rw[<-hpl]at HBS
 rw[<-hnl]
 clear hw1 hg0 hpl hl hnl hb1 hk1 h hup hx hu ht
 cases hf:Rise.found bkey Sha.less (bkey x) l with
 | true=>
    rw[hf]at HBS
    have HQ:=Lib.hid (Rise.add_found (x:=x) hf)
    clear hf
    have l1:=load_OB HX.out.ok HK.out.range
    go_enter Tryz.func127,Tryz.ntmps127
    go_wp2_with fail
    refine HBS.out.mono ?_
    rintro e w2 ⟨rfl,hb2⟩
    have HB2:=Lib.hid (HB1.out.trans (hb2.mono HB1.out.size))
    clear hb2
    go_wp2_with fail
    go_ret2
    refine⟨.slice p n c,ys,by rw[<-HPL.out];rfl,?_,by rw[HQ.out,HL.out],⟨HB2.out.os,HB2.out.tape,HB2.out.output,HB2.out.size,fun k hk _=>HB2.out.block k hk⟩,?_,fun g hg=>Or.inl hg⟩
    ·have h2:=HR.out.below HB2.out
     rw[HNL.out];exact h2
    ·have h2:=RowTy.of HR.out.own
     rw[HNL.out];exact h2
 | false=>
    rw[hf]at HBS
    have HQ:=Lib.hid (Rise.add_new (x:=x) hf)
    clear hf
    have l1:=load_OB HX.out.ok HK.out.range
    go_enter Tryz.func127,Tryz.ntmps127
    go_wp2_with fail
    refine HBS.out.mono ?_
    rintro e w2 ⟨rfl,hb2⟩
    have HB2:=Lib.hid (HB1.out.trans (hb2.mono HB1.out.size))
    have HK2:=Lib.hid (HK.out.below hb2 HK.out.lt)
    have HR2:=Lib.hid (HR.out.below HB2.out)
    have lx:=load_OB HX.out.ok HK2.out.range
    have bi:=build_OB w2 HX.out.ok q d
    have hb3:=HB2.out.alloc HB2.out.size (.cells (bcells x q d).toArray 93)
    have hb23:=(Below.refl w2.heap.size w2).alloc (Nat.le_refl _) (.cells (bcells x q d).toArray 93)
    have hk3:Blk (w2.alloc (.cells (bcells x q d).toArray 93)) w2.heap.size (bcells x q d) 93:=Blk.new w2 _ 93
    have hr3:=HR2.out.below hb23
    have hlt3:=fun k hk=>(HR2.out.own.lt k hk).2
    obtain⟨pb,hpb⟩:∃g,g=w2.heap.size:=⟨_,rfl⟩
    rw[<-hpb]at bi hk3
    have HNE:=Lib.hid (show(Value.slice p n c).ownBlock≠some pb from fun e=>by
     have h2:=hlt3 pb (by rw[<-HNL.out];exact e)
     omega)
    generalize w2.alloc (.cells (bcells x q d).toArray 93)=w3 at *
    have HIN:=Lib.hid (ins_B w3 B (.slice p n c) n (ys.flatMap sB.row) (by have h2:=hr3.own;rw[<-HNL.out]at h2;exact h2) (Shp.flat_one ys) pl hple pb (bcells x q d) (sB.len q d HX.out.ok) (sB.one x q d) hk3 HNE.out hn (Nat.le_trans hB hb3.size))
    have HB3:=Lib.hid hb3
    have HR3:=Lib.hid hr3
    clear hb2 hb23 hk3 hr3 hlt3 hpb hb3 HBS
    go_wp2_with fail
    refine HIN.out.mono ?_
    rintro e w4 ⟨v4,rfl,ho4,hg4,ha4⟩
    have HO4:=Lib.hid ho4
    have HG4:=Lib.hid hg4
    have HA4:=Lib.hid ha4
    clear ho4 hg4 ha4
    go_wp2_with fail
    go_ret2
    have hfl:(ys.flatMap sB.row).take (pl*33)++bcells x q d++(ys.flatMap sB.row).drop (pl*33)=(ys.take pl++(x,q,d)::ys.drop pl).flatMap sB.row:=by
     have h1:=flat_takeS (S:=sB) ys HR.out.ok pl
     have h2:=flat_dropS (S:=sB) ys HR.out.ok pl
     rw[List.flatMap_append,List.flatMap_cons,<-h1,<-h2,List.append_assoc];rfl
    have hty:RowTy w3 (Value.slice p n c).ownBlock 93:=by have h2:=RowTy.of HR3.out.own;rw[<-HNL.out]at h2;exact h2
    have hll:(ys.take pl++(x,q,d)::ys.drop pl).length=n+1:=by
     rw[List.length_append,List.length_cons,List.length_take,List.length_drop,<-HNL.out];omega
    refine⟨v4,ys.take pl++(x,q,d)::ys.drop pl,by rw[<-HPL.out];rfl,⟨?_,?_⟩,?_,?_,?_,?_⟩
    ·rw[hll,<-hfl];exact HO4.out
    ·intro y hy
     have hold:∀y∈ys,sB.Good w4 y.1 y.2.1 y.2.2/\U8 w4 y.2.1 (sB.byt y.1):=fun y hy=>
      ⟨good_grown (HR3.out.good y hy).1 (HR3.out.good y hy).2 HG4.out hty t8_B,u8_grown (HR3.out.good y hy).2 HG4.out hty t8_B⟩
     rcases List.mem_append.1 hy with hy | hy
     ·exact hold y (List.mem_of_mem_take hy)
     ·rcases List.mem_cons.1 hy with rfl | hy
      ·exact⟨good_grown (HX.out.below HB3.out) (HU.out.below HB3.out) HG4.out hty t8_B,u8_grown (HU.out.below HB3.out) HG4.out hty t8_B⟩
      ·exact hold y (List.mem_of_mem_drop hy)
    ·rw[HQ.out,<-HPL.out,HL.out];simp
    ·exact⟨HG4.out.os.trans HB3.out.os,HG4.out.tape.trans HB3.out.tape,HG4.out.output.trans HB3.out.output,Nat.le_trans HB3.out.size HG4.out.size,fun k hk hne=>(HG4.out.block k (Nat.lt_of_lt_of_le hk HB3.out.size) hne).trans (HB3.out.block k hk)⟩
    ·have h2:=RowTy.of HR.out.own
     rw[<-HNL.out]at h2;exact h2
    ·intro g hg
     rcases HA4.out g hg with h2 | h2
     ·exact Or.inl h2
     ·exact Or.inr (Nat.le_trans HB3.out.size h2)
end
section
open Go.RowKit Sha Fct
theorem info2_K:(Tryz.prog.info? 95).map (fun i=>(i.zero,i.size))=some (some (.agg (kcells (0,Fld.zero32) none 0).toArray),33):=by unfold kcells;kernel_rfl
theorem execOp_buildOK (ρ:Operand->Value)(dst:Option Tmp)(len:Nat)(parts:Array (Nat×Operand))(ty:TypeId)(pos:String)(after:Array Edge)(guard:Option (Nat×Bool)):
 execOp ρ {dst:=dst,op:=.buildSlice 42 len parts,type:=ty,pos:=pos,after:=after,guard:=guard}= buildOp 42 len (parts.map fun(i,x)=>(i,ρ x)):=by unfold buildOp;rfl
theorem build_OK (w:World) {x:Int×Fct.Id}(hx:sK.ok x)(q:Option Addr)(c:Nat):(buildOp 42 1 #[(0,.agg (kcells x q c).toArray)]).run Tryz.prog w= .ok (.value (.slice (some ⟨w.heap.size,0,none⟩) 1 1)) (w.alloc (.cells (kcells x q c).toArray 95)):=by
 have hl:(kcells x q c).length=33:=sK.len q c hx
 have:=run_build_items (P:=Tryz.prog) w 42 95 33 _ (by omega) Tryz.underlying42 info2_K [kcells x q c] (by intro d hd;simp at hd;subst hd;exact hl) (by simp)
 exact run_buildOp (by simpa using this)
theorem t8_K:(5:TypeId)≠95:=by decide
def PlcK (w:World)(B:Nat)(v:Value)(l:List (Int×Fct.Id))(x:Int×Fct.Id)(e:Ending)(w':World):Prop:=
 ∃v' zs,e= .returned (.tuple #[v',.int .i64 (Rise.place id klt (id x) l:Nat)])/\Rws sK 95 w' B v' zs/\zs.map (·.1)=Rise.add id klt x l/\w.grownBy w' v.ownBlock/\RowTy w v.ownBlock 95/\(∀g,v'.ownBlock=some g->v.ownBlock=some g\/w.heap.size<=g)
attribute [local go_sem ↓] execOp_loadOK execOp_boxOK execOp_buildOK
theorem place_K (w:World)(B:Nat)(v:Value)(ys:List (Hd (Int×Fct.Id)))(h:Rws sK 95 w B v ys)(hup:Rise.Up id klt (ys.map (·.1)))(x:Int×Fct.Id)(q:Option Addr)(d:Nat)(hx:sK.Good w x q d)(hu:U8 w q (sK.byt x))(hn:ys.length<=1000000000)(hB:B<=w.heap.size):
 Calls Tryz.prog 152 #[v,.agg (kcells x q d).toArray,.func (.func 153) #[] #[]] w (PlcK w B v (ys.map (·.1)) x):=by
 obtain⟨p,c,rfl,ht⟩:=h.told
 obtain⟨n,hnl⟩:∃n,n=ys.length:=⟨_,rfl⟩
 rw[<-hnl]at ht hn
 have bx:=run_boxOp (P:=Tryz.prog) (t:=95) (cs:=(kcells x q d).toArray) w
 have hb1:=(Below.refl w.heap.size w).alloc (Nat.le_refl _) (.cells (kcells x q d).toArray 95)
 have hk1:Blk (w.alloc (.cells (kcells x q d).toArray 95)) w.heap.size (kcells x q d) 95:=Blk.new w _ 95
 obtain⟨w1,hw1⟩:∃v,v=w.alloc (.cells (kcells x q d).toArray 95):=⟨_,rfl⟩
 rw[<-hw1]at bx hb1 hk1
 obtain⟨g0,hg0⟩:∃g,g=w.heap.size:=⟨_,rfl⟩
 rw[<-hg0]at bx hk1
 have HBS:=Lib.hid (bs_K (ys.map (·.1)) p n c w1 (ht.below hb1) hup x q d hx.ok hn)
 obtain⟨l,hl⟩:∃l,l=ys.map (·.1):=⟨_,rfl⟩
 rw[<-hl]at HBS hup ht ⊢
 obtain⟨pl,hpl⟩:∃k,k=Rise.place id klt (id x) l:=⟨_,rfl⟩
 have hple:pl<=n:=by rw[hpl,ht.len];exact Rise.place_le _ _
 have HPL:=Lib.hid hpl
 have HL:=Lib.hid hl
 have HNL:=Lib.hid hnl
 have HB1:=Lib.hid hb1
 have HK:=Lib.hid hk1
 have HR:=Lib.hid h
 have HX:=Lib.hid hx
 have HU:=Lib.hid hu
 rw[<-hpl]at HBS
 rw[<-hnl]
 clear hw1 hg0 hpl hl hnl hb1 hk1 h hup hx hu ht
 cases hf:Rise.found id klt (id x) l with
 | true=>
    rw[hf]at HBS
    have HQ:=Lib.hid (Rise.add_found (x:=x) hf)
    clear hf
    have l1:=load_OK HX.out.ok HK.out.range
    go_enter Tryz.func152,Tryz.ntmps152
    go_wp2_with fail
    refine HBS.out.mono ?_
    rintro e w2 ⟨rfl,hb2⟩
    have HB2:=Lib.hid (HB1.out.trans (hb2.mono HB1.out.size))
    clear hb2
    go_wp2_with fail
    go_ret2
    refine⟨.slice p n c,ys,by rw[<-HPL.out];rfl,?_,by rw[HQ.out,HL.out],⟨HB2.out.os,HB2.out.tape,HB2.out.output,HB2.out.size,fun k hk _=>HB2.out.block k hk⟩,?_,fun g hg=>Or.inl hg⟩
    ·have h2:=HR.out.below HB2.out
     rw[HNL.out];exact h2
    ·have h2:=RowTy.of HR.out.own
     rw[HNL.out];exact h2
 | false=>
    rw[hf]at HBS
    have HQ:=Lib.hid (Rise.add_new (x:=x) hf)
    clear hf
    have l1:=load_OK HX.out.ok HK.out.range
    go_enter Tryz.func152,Tryz.ntmps152
    go_wp2_with fail
    refine HBS.out.mono ?_
    rintro e w2 ⟨rfl,hb2⟩
    have HB2:=Lib.hid (HB1.out.trans (hb2.mono HB1.out.size))
    have HK2:=Lib.hid (HK.out.below hb2 HK.out.lt)
    have HR2:=Lib.hid (HR.out.below HB2.out)
    have lx:=load_OK HX.out.ok HK2.out.range
    have bi:=build_OK w2 HX.out.ok q d
    have hb3:=HB2.out.alloc HB2.out.size (.cells (kcells x q d).toArray 95)
    have hb23:=(Below.refl w2.heap.size w2).alloc (Nat.le_refl _) (.cells (kcells x q d).toArray 95)
    have hk3:Blk (w2.alloc (.cells (kcells x q d).toArray 95)) w2.heap.size (kcells x q d) 95:=Blk.new w2 _ 95
    have hr3:=HR2.out.below hb23
    have hlt3:=fun k hk=>(HR2.out.own.lt k hk).2
    obtain⟨pb,hpb⟩:∃g,g=w2.heap.size:=⟨_,rfl⟩
    rw[<-hpb]at bi hk3
    have HNE:=Lib.hid (show(Value.slice p n c).ownBlock≠some pb from fun e=>by
     have h2:=hlt3 pb (by rw[<-HNL.out];exact e)
     omega)
    generalize w2.alloc (.cells (kcells x q d).toArray 95)=w3 at *
    have HIN:=Lib.hid (ins_K w3 B (.slice p n c) n (ys.flatMap sK.row) (by have h2:=hr3.own;rw[<-HNL.out]at h2;exact h2) (Shp.flat_one ys) pl hple pb (kcells x q d) (sK.len q d HX.out.ok) (sK.one x q d) hk3 HNE.out hn (Nat.le_trans hB hb3.size))
    have HB3:=Lib.hid hb3
    have HR3:=Lib.hid hr3
    clear hb2 hb23 hk3 hr3 hlt3 hpb hb3 HBS
    go_wp2_with fail
    refine HIN.out.mono ?_
    rintro e w4 ⟨v4,rfl,ho4,hg4,ha4⟩
    have HO4:=Lib.hid ho4
    have HG4:=Lib.hid hg4
    have HA4:=Lib.hid ha4
    clear ho4 hg4 ha4
    go_wp2_with fail
    go_ret2
    have hfl:(ys.flatMap sK.row).take (pl*33)++kcells x q d++(ys.flatMap sK.row).drop (pl*33)=(ys.take pl++(x,q,d)::ys.drop pl).flatMap sK.row:=by
     have h1:=flat_takeS (S:=sK) ys HR.out.ok pl
     have h2:=flat_dropS (S:=sK) ys HR.out.ok pl
     rw[List.flatMap_append,List.flatMap_cons,<-h1,<-h2,List.append_assoc];rfl
    have hty:RowTy w3 (Value.slice p n c).ownBlock 95:=by have h2:=RowTy.of HR3.out.own;rw[<-HNL.out]at h2;exact h2
    have hll:(ys.take pl++(x,q,d)::ys.drop pl).length=n+1:=by
     rw[List.length_append,List.length_cons,List.length_take,List.length_drop,<-HNL.out];omega
    refine⟨v4,ys.take pl++(x,q,d)::ys.drop pl,by rw[<-HPL.out];rfl,⟨?_,?_⟩,?_,?_,?_,?_⟩
    ·rw[hll,<-hfl];exact HO4.out
    ·intro y hy
     have hold:∀y∈ys,sK.Good w4 y.1 y.2.1 y.2.2/\U8 w4 y.2.1 (sK.byt y.1):=fun y hy=>
      ⟨good_grown (HR3.out.good y hy).1 (HR3.out.good y hy).2 HG4.out hty t8_K,u8_grown (HR3.out.good y hy).2 HG4.out hty t8_K⟩
     rcases List.mem_append.1 hy with hy | hy
     ·exact hold y (List.mem_of_mem_take hy)
     ·rcases List.mem_cons.1 hy with rfl | hy
      ·exact⟨good_grown (HX.out.below HB3.out) (HU.out.below HB3.out) HG4.out hty t8_K,u8_grown (HU.out.below HB3.out) HG4.out hty t8_K⟩
      ·exact hold y (List.mem_of_mem_drop hy)
    ·rw[HQ.out,<-HPL.out,HL.out];simp
    ·exact⟨HG4.out.os.trans HB3.out.os,HG4.out.tape.trans HB3.out.tape,HG4.out.output.trans HB3.out.output,Nat.le_trans HB3.out.size HG4.out.size,fun k hk hne=>(HG4.out.block k (Nat.lt_of_lt_of_le hk HB3.out.size) hne).trans (HB3.out.block k hk)⟩
    ·have h2:=RowTy.of HR.out.own
     rw[<-HNL.out]at h2;exact h2
    ·intro g hg
     rcases HA4.out g hg with h2 | h2
     ·exact Or.inl h2
     ·exact Or.inr (Nat.le_trans HB3.out.size h2)
end
end Go.Proofs.YtokpabkcaofahaaGreat
