/-
  What stands under factPuts_holds: part 23.
-/
import Derived.Test.YtokpabkcaofahaaGreatPp20
import Derived.Test.YtokpabkcaofahaaGreatPp19
import Derived.Test.YtokpabkcaofahaaGreatPp22
import Derived.Test.YtokpabkcaofahaaGreatPp7
import Derived.Deep.RegionLaw
import Derived.Test.YtokpabkcaofahaaGreatPp21
import Derived.Test.YtokpabkcaofahaaGreatPp2
import Derived.Test.YtokpabkcaofahaaGreatPp4
import Derived.Test.YtokpabkcaofahaaGreatPp3
namespace Go.Proofs.YtokpabkcaofahaaGreat
set_option linter.unusedSimpArgs false
set_option linter.unusedVariables false
set_option maxRecDepth 100000
set_option maxHeartbeats 20000000
section
open Go.RowKit Sha Fct
theorem YA:(Tryz.prog.info? 97).map (fun i=>(i.zero,i.size))=some (some (.agg (hcells (0,0,Fld.zero32) none 0).toArray),34):=by unfold hcells;kernel_rfl
theorem Za (ρ:Operand->Value)(dst:Option Tmp)(len:Nat)(parts:Array (Nat×Operand))(ty:TypeId)(pos:String)(after:Array Edge)(guard:Option (Nat×Bool)):
 execOp ρ {dst:=dst,op:=.buildSlice 43 len parts,type:=ty,pos:=pos,after:=after,guard:=guard}= buildOp 43 len (parts.map fun(i,x)=>(i,ρ x)):=by unfold buildOp;rfl
theorem yQ (w:World) {x:Int×Int×Fct.Id}(hx:sH.ok x)(q:Option Addr)(c:Nat):(buildOp 43 1 #[(0,.agg (hcells x q c).toArray)]).run Tryz.prog w= .ok (.value (.slice (some ⟨w.heap.size,0,none⟩) 1 1)) (w.alloc (.cells (hcells x q c).toArray 97)):=by
 have hl:(hcells x q c).length=34:=sH.len q c hx
 have:=run_build_items (P:=Tryz.prog) w 43 97 34 _ (by omega) Tryz.underlying43 YA [hcells x q c] (by intro d hd;simp at hd;subst hd;exact hl) (by simp)
 exact run_buildOp (by simpa using this)
theorem t8_H:(5:TypeId)≠97:=by decide
def PlcH (w:World)(B:Nat)(v:Value)(l:List (Int×Int×Fct.Id))(x:Int×Int×Fct.Id)(e:Ending)(w':World):Prop:=
 ∃v' zs,e= .returned (.tuple #[v',.int .i64 (Rise.place id hlt (id x) l:Nat)])/\Rws sH 97 w' B v' zs/\zs.map (·.1)=Rise.add id hlt x l/\w.grownBy w' v.ownBlock/\RowTy w v.ownBlock 97/\(∀g,v'.ownBlock=some g->v.ownBlock=some g\/w.heap.size<=g)
attribute [local go_sem ↓] execOp_loadOH execOp_boxOH Za
theorem YB (w:World)(B:Nat)(v:Value)(ys:List (Hd (Int×Int×Fct.Id)))(h:Rws sH 97 w B v ys)(hup:Rise.Up id hlt (ys.map (·.1)))(x:Int×Int×Fct.Id)(q:Option Addr)(d:Nat)(hx:sH.Good w x q d)(hu:U8 w q (sH.byt x))(hn:ys.length<=1000000000)(hB:B<=w.heap.size):
 Calls Tryz.prog 154 #[v,.agg (hcells x q d).toArray,.func (.func 156) #[] #[]] w (PlcH w B v (ys.map (·.1)) x):=by
 obtain⟨p,c,rfl,ht⟩:=h.told
 obtain⟨n,hnl⟩:∃n,n=ys.length:=⟨_,rfl⟩
 rw[<-hnl]at ht hn
 have bx:=run_boxOp (P:=Tryz.prog) (t:=97) (cs:=(hcells x q d).toArray) w
 have hb1:=(qB w.heap.size w).alloc (qD _) (.cells (hcells x q d).toArray 97)
 have hk1:Blk (w.alloc (.cells (hcells x q d).toArray 97)) w.heap.size (hcells x q d) 97:=Blk.new w _ 97
 obtain⟨w1,hw1⟩:∃v,v=w.alloc (.cells (hcells x q d).toArray 97):=⟨_,rfl⟩
 rw[<-hw1]at bx hb1 hk1
 obtain⟨g0,hg0⟩:∃g,g=w.heap.size:=⟨_,rfl⟩
 rw[<-hg0]at bx hk1
 have HBS:=xF (bs_H (ys.map (·.1)) p n c w1 (ht.below hb1) hup x q d hx.ok hn)
 obtain⟨l,hl⟩:∃l,l=ys.map (·.1):=⟨_,rfl⟩
 rw[<-hl]at HBS hup ht ⊢
 obtain⟨pl,hpl⟩:∃k,k=Rise.place id hlt (id x) l:=⟨_,rfl⟩
 have hple:pl<=n:=by rw[hpl,ht.len];exact Rise.place_le _ _
 have HPL:=xF hpl
 have HL:=xF hl
 have HNL:=xF hnl
 have HB1:=xF hb1
 have HK:=xF hk1
 have HR:=xF h
 have HX:=xF hx
 have HU:=xF hu
 rw[<-hpl]at HBS
 rw[<-hnl]
 clear hw1 hg0 hpl hl hnl hb1 hk1 h hup hx hu ht
 cases hf:Rise.found id hlt (id x) l with
 | true=>
    rw[hf]at HBS
    have HQ:=xF (Rise.add_found (x:=x) hf)
    clear hf
    have l1:=load_OH HX.out.ok HK.out.range
    go_enter Tryz.func154,Tryz.ntmps154
    go_wp2_with fail
    refine HBS.out.mono ?_
    rintro e w2 ⟨rfl,hb2⟩
    have HB2:=xF (HB1.out.trans (hb2.mono HB1.out.size))
    clear hb2
    go_wp2_with fail
    go_ret2
    refine⟨.slice p n c,ys,by rw[<-HPL.out];rfl,?_,by rw[HQ.out,HL.out],⟨HB2.out.os,HB2.out.tape,HB2.out.output,HB2.out.size,fun k hk _=>HB2.out.block k hk⟩,?_,fun g hg=>Or.inl hg⟩
    ·have h2:=HR.out.below HB2.out
     rw[HNL.out];exact h2
    ·have h2:=RowTy.of HR.out.own
     rw[HNL.out];exact h2
 | false=>
    rw[hf]at HBS
    have HQ:=xF (Rise.add_new (x:=x) hf)
    clear hf
    have l1:=load_OH HX.out.ok HK.out.range
    go_enter Tryz.func154,Tryz.ntmps154
    go_wp2_with fail
    refine HBS.out.mono ?_
    rintro e w2 ⟨rfl,hb2⟩
    have HB2:=xF (HB1.out.trans (hb2.mono HB1.out.size))
    have HK2:=xF (HK.out.below hb2 HK.out.lt)
    have HR2:=xF (HR.out.below HB2.out)
    have lx:=load_OH HX.out.ok HK2.out.range
    have bi:=yQ w2 HX.out.ok q d
    have hb3:=HB2.out.alloc HB2.out.size (.cells (hcells x q d).toArray 97)
    have hb23:=(qB w2.heap.size w2).alloc (qD _) (.cells (hcells x q d).toArray 97)
    have hk3:Blk (w2.alloc (.cells (hcells x q d).toArray 97)) w2.heap.size (hcells x q d) 97:=Blk.new w2 _ 97
    have hr3:=HR2.out.below hb23
    have hlt3:=fun k hk=>(HR2.out.own.lt k hk).2
    obtain⟨pb,hpb⟩:∃g,g=w2.heap.size:=⟨_,rfl⟩
    rw[<-hpb]at bi hk3
    have HNE:=xF (show(Value.slice p n c).ownBlock≠some pb from fun e=>by
     have h2:=hlt3 pb (by rw[<-HNL.out];exact e)
     omega)
    generalize w2.alloc (.cells (hcells x q d).toArray 97)=w3 at *
    have HIN:=xF (ins_H w3 B (.slice p n c) n (ys.flatMap sH.row) (by have h2:=hr3.own;rw[<-HNL.out]at h2;exact h2) (Shp.flat_one ys) pl hple pb (hcells x q d) (sH.len q d HX.out.ok) (sH.one x q d) hk3 HNE.out hn (Nat.le_trans hB hb3.size))
    have HB3:=xF hb3
    have HR3:=xF hr3
    clear hb2 hb23 hk3 hr3 hlt3 hpb hb3 HBS
    go_wp2_with fail
    refine HIN.out.mono ?_
    rintro e w4 ⟨v4,rfl,ho4,hg4,ha4⟩
    have HO4:=xF ho4
    have HG4:=xF hg4
    have HA4:=xF ha4
    clear ho4 hg4 ha4
    go_wp2_with fail
    go_ret2
    have hfl:(ys.flatMap sH.row).take (pl*34)++hcells x q d++(ys.flatMap sH.row).drop (pl*34)=(ys.take pl++(x,q,d)::ys.drop pl).flatMap sH.row:=by
     have h1:=flat_takeS (S:=sH) ys HR.out.ok pl
     have h2:=flat_dropS (S:=sH) ys HR.out.ok pl
     rw[List.flatMap_append,List.flatMap_cons,<-h1,<-h2,List.append_assoc];rfl
    have hty:RowTy w3 (Value.slice p n c).ownBlock 97:=by have h2:=RowTy.of HR3.out.own;rw[<-HNL.out]at h2;exact h2
    have hll:(ys.take pl++(x,q,d)::ys.drop pl).length=n+1:=by
     rw[qC,List.length_cons,List.length_take,List.length_drop,<-HNL.out];omega
    refine⟨v4,ys.take pl++(x,q,d)::ys.drop pl,by rw[<-HPL.out];rfl,⟨?_,?_⟩,?_,?_,?_,?_⟩
    ·rw[hll,<-hfl];exact HO4.out
    ·intro y hy
     have hold:∀y∈ys,sH.Good w4 y.1 y.2.1 y.2.2/\U8 w4 y.2.1 (sH.byt y.1):=fun y hy=>
      ⟨good_grown (HR3.out.good y hy).1 (HR3.out.good y hy).2 HG4.out hty t8_H,u8_grown (HR3.out.good y hy).2 HG4.out hty t8_H⟩
     rcases List.mem_append.1 hy with hy | hy
     ·exact hold y (List.mem_of_mem_take hy)
     ·rcases List.mem_cons.1 hy with rfl | hy
      ·exact⟨good_grown (HX.out.below HB3.out) (HU.out.below HB3.out) HG4.out hty t8_H,u8_grown (HU.out.below HB3.out) HG4.out hty t8_H⟩
      ·exact hold y (List.mem_of_mem_drop hy)
    ·rw[HQ.out,<-HPL.out,HL.out];simp
    ·exact⟨HG4.out.os.trans HB3.out.os,HG4.out.tape.trans HB3.out.tape,HG4.out.output.trans HB3.out.output,Nat.le_trans HB3.out.size HG4.out.size,fun k hk hne=>(HG4.out.block k (Nat.lt_of_lt_of_le hk HB3.out.size) hne).trans (HB3.out.block k hk)⟩
    ·have h2:=RowTy.of HR.out.own
     rw[<-HNL.out]at h2;exact h2
    ·intro g hg
     rcases HA4.out g hg with h2 | h2
     ·exact Or.inl h2
     ·exact Or.inr (Nat.le_trans HB3.out.size h2)
end
section
open Go.RowKit Sha Fct
attribute [local go_sem ↓] execOp_loadOH execOp_boxOH
def Wth (w:World)(B:Nat)(v:Value)(l:List (Int×Int×Fct.Id))(x:Int×Int×Fct.Id)(e:Ending)(w':World):Prop:=
 ∃v' zs,e= .returned (.tuple #[v',.bool (decide (x∈l))])/\Rws sH 97 w' B v' zs/\zs.map (·.1)=l.filter (fun y=>!decide (y=x))/\w.grownBy w' v.ownBlock
theorem ZL (w:World)(B:Nat)(v:Value)(ys:List (Hd (Int×Int×Fct.Id)))(h:Rws sH 97 w B v ys)(hup:Rise.Up id hlt (ys.map (·.1)))(x:Int×Int×Fct.Id)(q:Option Addr)(d:Nat)(hx:sH.ok x)(hn:ys.length<=1000000000):
 Calls Tryz.prog 157 #[v,.agg (hcells x q d).toArray,.func (.func 156) #[] #[]] w (Wth w B v (ys.map (·.1)) x):=by
 obtain⟨p,c,rfl,ht⟩:=h.told
 have bx:=run_boxOp (P:=Tryz.prog) (t:=97) (cs:=(hcells x q d).toArray) w
 have hb1:=(qB w.heap.size w).alloc (qD _) (.cells (hcells x q d).toArray 97)
 have hk1:Blk (w.alloc (.cells (hcells x q d).toArray 97)) w.heap.size (hcells x q d) 97:=Blk.new w _ 97
 obtain⟨g0,hg0⟩:∃g,g=w.heap.size:=⟨_,rfl⟩
 rw[<-hg0]at bx hk1
 clear hg0
 generalize w.alloc (.cells (hcells x q d).toArray 97)=w1 at *
 have l1:=load_OH hx hk1.range
 have hbs:=bs_H (ys.map (·.1)) p ys.length c w1 (ht.below hb1) hup x q d hx hn
 have hr1:=h.below hb1
 have HB1:=xF hb1
 have HN:=xF hn
 obtain⟨n,hnl⟩:∃n,n=ys.length:=⟨_,rfl⟩
 cases hf:Rise.found id hlt (id x) (ys.map (·.1))with
 | false=>
    rw[hf]at hbs
    have hno:=Rise.Up.look_none hlt_ord hup (Rise.found_no hf)
    have HM:=xF (show decide (x∈ys.map (·.1))=false from decide_eq_false fun hm=>hno x hm rfl)
    have HF:=xF (show(ys.map (·.1)).filter (fun y=>!decide (y=x))=ys.map (·.1)from List.filter_eq_self.2 fun y hy=>by simpa using hno y hy)
    have HR:=xF hr1
    have HBS:=xF hbs
    have HNL:=xF hnl
    clear hbs hf hno h ht hr1 hb1 hk1 hnl hn
    rw[<-HNL.out]at HBS ⊢
    generalize Rise.place id hlt (id x) (ys.map (·.1))=pl at *
    go_enter Tryz.func157,Tryz.ntmps157
    go_wp2_with fail
    refine HBS.out.mono ?_
    rintro e w2 ⟨rfl,hb2⟩
    have HB2:=xF (HB1.out.trans (hb2.mono HB1.out.size))
    have HR2:=xF (HR.out.below hb2)
    clear hb2
    go_wp2_with fail
    go_ret2
    refine⟨_,ys,by rw[HM.out];rfl,?_,HF.out.symm,below_grown HB2.out _⟩
    have:=HR2.out
    rw[<-HNL.out]at this;exact this
 | true=>
    rw[hf]at hbs
    obtain⟨hlt2,hkey⟩:=(Rise.found_iff (key:=id) (lt:=hlt) (id x) (ys.map (·.1))).1 hf
    obtain⟨pl,hpl⟩:∃k,k=Rise.place id hlt (id x) (ys.map (·.1)):=⟨_,rfl⟩
    have hkey2:(ys.map (·.1))[pl]? = some x:=by
     subst hpl
     rw[List.getElem?_eq_getElem hlt2]
     exact congrArg some hkey
    rw[<-hpl]at hbs hlt2
    rw[List.length_map]at hlt2
    have hxm:x∈ys.map (·.1):=List.mem_of_getElem? hkey2
    have HM:=xF (decide_eq_true hxm)
    have hfil:(ys.map (·.1)).filter (fun y=>!decide (y=x))=(ys.map (·.1)).eraseIdx pl:=by
     refine ChangeMaps.filter_eq_eraseIdx (fun y=>decide (y=x)) _ pl x hkey2 (by simp) ?_
     refine hup.imp fun {a b} hab hc=>?_
     have h1:=of_decide_eq_true hc.1
     have h2:=of_decide_eq_true hc.2
     rw[h1,h2]at hab
     have h3:hlt x x=false:=by
      cases e:hlt x x with
      | false=>rfl
      | true=>
         have:=(ordH_neg x x).2 e
         have h4:=(ordH_zero x x).2 rfl
         omega
     simp only[id]at hab
     rw[h3]at hab;cases hab
    have HFI:=xF (show(ys.take pl++ys.drop (pl+1)).map (·.1)=(ys.map (·.1)).filter (fun y=>!decide (y=x)) by
     rw[hfil,List.eraseIdx_eq_take_drop_succ,List.map_append,List.map_take,List.map_drop])
    have HR:=xF hr1
    have HBS:=xF hbs
    have HNL:=xF hnl
    have HH:=xF h
    clear hbs hf h ht hr1 hb1 hk1 hnl hn hfil hkey hkey2 hpl hxm
    have hpl0:pl < n:=by rw[HNL.out];exact hlt2
    obtain⟨m,rfl⟩:∃m,n=m+1:=⟨n - 1,by omega⟩
    have hmm:m<=1000000000:=by have:=HN.out;have:=HNL.out;omega
    rw[<-HNL.out]at HBS ⊢
    go_enter Tryz.func157,Tryz.ntmps157
    go_wp2_with fail
    refine HBS.out.mono ?_
    rintro e w2 ⟨rfl,hb2⟩
    have HB2:=xF (HB1.out.trans (hb2.mono HB1.out.size))
    have hr2:=HR.out.below hb2
    obtain⟨g,cp,rest,hv,hBg,hcp,hmx,hk,hl,hl2⟩:=own_whole hr2.own (by omega)
    have hv2:p=some ⟨g,0,none⟩/\c=cp:=by injection hv with h1 h2 h3;exact⟨h1,h3⟩
    obtain⟨rfl,rfl⟩:=hv2
    rw[flat_el hr2.ok pl hlt2]at hk
    have hA:((ys.take pl).flatMap sH.row).length=pl*34:=by
     rw[flat_len (fun y hy=>hr2.ok y (List.mem_of_mem_take hy)),List.length_take,Nat.min_eq_left (by omega)];rfl
    have hD:((ys.drop (pl+1)).flatMap sH.row).length=(m - pl)*34:=by
     rw[flat_len (fun y hy=>hr2.ok y (List.mem_of_mem_drop hy)),List.length_drop,<-HNL.out,Nat.succ_sub_succ];rfl
    have hre:rest.length=(c - (m+1))*34:=by
     rw[qC,hl,<-HNL.out]at hl2
     have e:sH.n=34:=rfl
     rw[e]at hl2
     rw[Nat.sub_mul];omega
    have hdl:=yP w2 B g m c pl _ _ _ rest hA (sH.len _ _ (hr2.ok _ (List.getElem_mem hlt2))) hD hre (by omega) hmm (by rw[HNL.out];exact hcp) hmx hBg hk (Shp.flat_one _)
    have HDL:=xF hdl
    have HR2:=xF hr2
    clear hdl hk hA hD hre hl hl2 hv hr2 hb2
    go_wp2_with fail
    refine HDL.out.mono ?_
    rintro e w3 ⟨v3,rfl,ho3,hg3⟩
    have HO3:=xF ho3
    have HG3:=xF hg3
    clear ho3 hg3
    go_wp2_with fail
    go_ret2
    have hty:RowTy w2 (some g) 97:=by have h2:=RowTy.of HR2.out.own;exact h2
    refine⟨v3,ys.take pl++ys.drop (pl+1),by rw[HM.out];rfl,⟨?_,?_⟩,HFI.out,grown_trans (below_grown HB2.out _) HG3.out⟩
    ·rw[qC,List.length_take,List.length_drop,<-HNL.out,Nat.min_eq_left (by omega),List.flatMap_append,show pl+(m+1 - (pl+1))=m by omega]
     exact HO3.out
    ·intro y hy
     have hm:y∈ys:=by
      rcases List.mem_append.1 hy with h1 | h1
      ·exact List.mem_of_mem_take h1
      ·exact List.mem_of_mem_drop h1
     exact⟨good_grown (HR2.out.good y hm).1 (HR2.out.good y hm).2 HG3.out hty t8_H,u8_grown (HR2.out.good y hm).2 HG3.out hty t8_H⟩
end
section
open Go.RowKit Sha Fct
attribute [local go_sem ↓] execOp_boxFact execOp_loadFact execOp_loadId
abbrev hOf (f:Fac):Int×Int×Fct.Id:=(f.H,f.S,f.D)
def SetS (s:Ste)(f:Fac):Ste:={s with hints:=s.hints.filter fun y=>!decide (y=hOf f)}
theorem zC (s:Ste) {f:Fac}(hf:f.K=6):s.keeps.filter (goesK f)= []/\s.keeps.filter (fun x=>!goesK f x)=s.keeps:=by
 have h:∀x,goesK f x=false:=fun x=>by unfold goesK;simp[hf]
 exact⟨List.filter_eq_nil_iff.2 fun x _=>by simp[h],List.filter_eq_self.2 fun x _=>by simp[h]⟩
theorem yR {f:Fac}(hf:f.K=6):goesH f=fun y=>decide (y=hOf f):=by funext x;unfold goesH hOf;simp[hf]
theorem yS {s:Ste} {f:Fac}(hf:f.K=6)(hm:hOf f∉s.hints):SetS s f=s.less f:=by
 unfold SetS Ste.less
 simp only[yR hf,(zC s hf).1,(zC s hf).2]
 have h:s.hints.filter (fun y=>decide (y=hOf f))= []:=List.filter_eq_nil_iff.2 fun x hx=>by simp;rintro rfl;exact hm hx
 have hb:s.blobs.filter (fun x=>!needed [] (s.hints.filter fun y=>decide (y=hOf f)) x.1 || needed s.keeps (s.hints.filter fun y=>!decide (y=hOf f)) x.1)=s.blobs:=List.filter_eq_self.2 fun x _=>by rw[h];simp[needed]
 rw[hb]
theorem yn {s:Ste} {f:Fac}(hf:f.K=6)(hm:hOf f∈s.hints):RelP (SetS s f) [f.D] = s.less f:=by
 unfold RelP SetS Ste.less
 simp only[yR hf,(zC s hf).1,(zC s hf).2]
 have hb:∀d,decide (d∈[f.D])=needed [] (s.hints.filter fun y=>decide (y=hOf f)) d:=fun d=>by
  rw[Bool.eq_iff_iff]
  unfold needed
  simp only[decide_eq_true_eq,List.mem_singleton,Bool.or_eq_true,List.any_eq_true,List.mem_filter,List.not_mem_nil,false_and,exists_false,false_or]
  constructor
  ·rintro rfl;exact⟨hOf f,⟨hm,rfl⟩,rfl⟩
  ·rintro⟨x,⟨_,rfl⟩,h⟩;exact h.symm
 simp only[hb]
structure SetR (w:World)(B g gf:Nat)(s:Ste)(r:Rows9)(f:Fac)(q:Option Addr)(c:Nat)(w5:World):Prop where
 so:∃q5 n5 d5 zs,StO w5 B g (SetS s f) {r with vh:=.slice q5 n5 d5,yh:=zs}/\zs.length<=r.yh.length
 fb:Blk w5 gf (fcells f q c) 28
 chg:Chg (fun k=>Own9 w B g k\/False) w w5
theorem YC {w w2 w3:World} {B g gf:Nat} {s:Ste} {r:Rows9} {f:Fac} {q:Option Addr} {c:Nat} {v':Value} {zs:List (Hd (Int×Int×Fct.Id))}(h:StO w B g s r)(hb:Below w.heap.size w w2)(hf:Blk w2 gf (fcells f q c) 28)
 (hr:Rws sH 97 w3 B v' zs) (hz:zs.map (·.1)=(r.yh.map (·.1)).filter (fun y=>!decide (y=hOf f))) (hg:w2.grownBy w3 r.vh.ownBlock):
 w3.cell? ⟨g,4,none⟩=some r.vh/\w3.frozen? ⟨g,4,none⟩=false/\Blk w3 gf (fcells f q c) 28/\SetR w B g gf s r f q c (w3.setCell ⟨g,4,none⟩ v'):=by
 have h2:=h.below hb
 have hc:Chg (fun k=>r.vh.ownBlock=some k\/False) w2 w3:=(Chg.refl _ w2).grown hg fun k hk _=>Or.inl hk
 have hno:∀{k cs t},Blk w2 k cs t->t≠97->¬(r.vh.ownBlock=some k\/False):=by
  rintro k cs t hk ht (e | e)
  ·obtain⟨c2,f2,h3⟩:=RowTy.of h2.h.own k e
   unfold Blk at hk
   rw[hk]at h3;simp at h3;exact ht h3.2.1
  ·exact e
 have hb3:=hc.blk h2.blk (hno h2.blk (by decide))
 have hf3:=hc.blk hf (hno hf (by decide))
 obtain⟨q5,c5,rfl,_⟩:=hr.told
 obtain⟨k1,k2⟩:=h2.setH (X:=fun _=>False) (fun k e=>e.elim) hc hr
 have hfg:gf≠g:=fun e=>by subst e;exact absurd (blk_ty hf h2.blk) (by decide)
 refine⟨hb3.cell 4,hb3.free 4,hf3,⟨q5,zs.length,c5,zs,?_,?_⟩,?_,?_⟩
 ·have e:SetS s f= {s with hints:=zs.map (·.1)}:=by unfold SetS;rw[hz,h.he]
  rw[e];exact k1
 ·have:=congrArg List.length hz
  rw[List.length_map]at this
  rw[this]
  exact Nat.le_trans (List.length_filter_le _ _) (by simp)
 ·exact hf3.setOther _ _ hfg
 ·exact zd ((Chg.refl _ w).grown (below_grown hb none) fun k hk=>by cases hk) k2
theorem ZY (w:World)(B g:Nat)(s:Ste)(r:Rows9)(f:Fac)(q:Option Addr)(c:Nat)(h:StO w B g s r)(hf:f.K=6)(hok:sF.ok f)(hd:idOk f.D)(hup:Rise.Up id hlt s.hints)(hn:r.yb.length<=1000000000)(hn1:r.yk.length<=1000000000)(hn2:r.yh.length<=1000000000):
 Calls Tryz.prog 131 #[.pointer (some ⟨g,0,none⟩),.agg (fcells f q c).toArray] w (StOP B g (fun _=>False) (s.less f) w):=by
 obtain⟨ph,ch,hvh,_⟩:=h.h.told
 obtain⟨nh,hnh⟩:∃n,n=r.yh.length:=⟨_,rfl⟩
 rw[<-hnh]at hvh
 obtain⟨bm,hbm⟩:∃b,b=decide (hOf f∈s.hints):=⟨_,rfl⟩
 obtain⟨w1,hb⟩:=fbx9 w f q c
 have bx:=hb.b1
 have hk1:=hb.k1
 obtain⟨gf,hgf⟩:∃b,b=w.heap.size:=⟨_,rfl⟩
 rw[<-hgf]at bx hk1
 clear hgf
 have v1:w1.cell? ⟨g,4,none⟩=some (.slice ph nh ch):=by rw[(h.below hb.below).blk.cell 4,<-hvh];rfl
 have hD:=hok.len
 have l0:=load_factB (w:=w1.drew) (show Blk w1.drew gf (fcells f q c) 28 from hk1) hD
 have l1:=load_factB hk1 hD
 have HB1:=xF hb.below
 have HH:=xF h
 have HK:=xF hk1
 have HD:=xF hd
 have HOK:=xF hok
 have HVH:=xF hvh
 have HNH:=xF hnh
 have HL:=xF hD
 have HF:=xF hf
 have HN:=xF (⟨hn,hn1,hn2⟩:r.yb.length<=1000000000/\r.yk.length<=1000000000/\r.yh.length<=1000000000)
 have HW:=xF (fun(W:World) (hW:Below w.heap.size w W)=>(show Calls Tryz.prog 157 #[.slice ph nh ch,.agg (hcells (hOf f) none 0).toArray,.func (.func 156) #[] #[]] W (fun e w'=>∃v' zs,e= .returned (.tuple #[v',.bool bm])/\Rws sH 97 w' B v' zs/\zs.map (·.1)=(r.yh.map (·.1)).filter (fun y=>!decide (y=hOf f))/\W.grownBy w' r.vh.ownBlock)from by
  have h2:=ZL W B r.vh r.yh (h.below hW).h (by rw[h.he];exact hup) (hOf f) none 0 ⟨hok.H,hok.S,hd⟩ hn2
  unfold Wth at h2
  rw[h.he,<-hbm]at h2
  rw[hvh,h.he]at *
  exact h2))
 have HBM:=xF hbm
 clear hb h hbm hk1 hd hok hvh hnh hD hf hup hn hn1 hn2
 go_enter Tryz.func131,Tryz.ntmps131
 go_wp2_with fail
 go_region_law ((first
  | (go_simp;go_at_call 155;refine(z9 f q c _ HOK.out HD.out).mono ?_;rintro e w2 ⟨rfl,hb2⟩;(have HB2:=xF (show Below w1.heap.size w1 w2 from(qB _ w1).drew.trans hb2));clear hb2;(have HK2:=xF (HK.out.below HB2.out HK.out.lt));(have v2:w2.cell? ⟨g,4,none⟩=some (.slice ph nh ch):=(HB2.out.cell (p:=⟨g,4,none⟩) (World.block_lt_of_cell? w1 _ v1)).trans v1);(have l2:=load_factB HK2.out HL.out))
  | (go_simp;go_at_call 157;refine(HW.out _ (HB1.out.trans (HB2.out.mono HB1.out.size))).mono ?_;rintro e w3 ⟨v',zs,rfl,hr3,hz3,hg3⟩;(obtain⟨v3a,f3,hk3,hR3⟩:=YC HH.out (HB1.out.trans (HB2.out.mono HB1.out.size)) HK2.out hr3 hz3 hg3);(obtain⟨q5,c5,rfl,_⟩:=hr3.told);(rw[HVH.out]at v3a);(have v3:=v3a);(have HR3:=xF hR3);clear hR3 hr3 hz3 hg3 hk3 v3a;generalize zs.length=n5 at *)))
 all_goals(
  generalize w3.setCell ⟨g,4,none⟩ (.slice q5 n5 c5)=w5 at *
  clear v1 l0 l1 v2 l2 v3 f3 bx
  obtain⟨q6,n6,d6,zs6,hso,hzl⟩:=HR3.out.so
  cases bm with
  | false=>
     have HSO:=xF hso
     clear hso
     go_wp2_with fail
     go_end0
     have hh:=HSO.out
     rw[yS HF.out (of_decide_eq_false HBM.out.symm)]at hh
     exact⟨rfl,_,hh,HR3.out.chg⟩
  | true=>
     have hmm:(Instr.makeMap 215 none).run Tryz.prog w5= .ok (.map (some w5.heap.size)) (w5.alloc (.map #[] 0)):=run_makeMap _ _
     have hb6:=(qB w5.heap.size w5).alloc (qD _) (.map #[] 0)
     have hf6:=HR3.out.fb.below hb6 HR3.out.fb.lt
     have l6:=zB hf6 HL.out
     obtain⟨w7,pu,hT7,hg7⟩:=(Takn.new w5).put HD.out
     have hs6:=hso.below hb6
     have hc7:Chg (fun k=>k=w5.heap.size) (w5.alloc (.map #[] 0)) w7:=(Chg.refl _ _).grown hg7 fun k hk _=>by cases hk;rfl
     have hs7:=ZB hs6 hc7 (Takn.new w5).isMap
     have hwm:w.heap.size<=w5.heap.size:=HR3.out.chg.size
     rw[if_neg (by simp),List.nil_append]at hT7
     have hrl:=zU w7 B g w5.heap.size _ _ [f.D] hs7 hT7 HN.out.1 HN.out.2.1 (Nat.le_trans hzl HN.out.2.2)
     have hcc:Chg (fun k=>Own9 w B g k\/k=w5.heap.size) w w7:=by
      have h1:Chg (fun k=>Own9 w B g k\/k=w5.heap.size) w w5:=HR3.out.chg.mono fun k _ hk=>hk.imp id False.elim
      refine zd h1 ?_
      have h2:Chg (fun k=>Own9 w5 B g k\/k=w5.heap.size) w5 (w5.alloc (.map #[] 0)):=(Chg.refl _ w5).grown (below_grown hb6 none) fun k hk=>by cases hk
      exact zd h2 (hc7.mono fun k _ hk=>Or.inr hk)
     have HRL:=xF hrl
     have HCC:=xF hcc
     have HWM:=xF hwm
     clear hrl hcc hwm hs6 hs7 hc7 hT7 hg7 hso hzl hb6 hf6
     obtain⟨mb,hmb⟩:∃b,b=w5.heap.size:=⟨_,rfl⟩
     rw[<-hmb]at hmm pu HRL HCC HWM
     clear hmb
     generalize w5.alloc (.map #[] 0)=w6 at *
     go_wp2_with fail
     refine HRL.out.mono ?_
     rintro e w8 ⟨rfl,r8,hs8,hk8⟩
     have HS8:=xF hs8
     have HK8:=xF hk8
     clear hs8 hk8
     go_wp2_with fail
     go_end0
     refine⟨rfl,r8,?_,?_⟩
     ·rw[<-yn HF.out (of_decide_eq_true HBM.out.symm)]
      exact HS8.out
     ·exact(zd HCC.out HK8.out).mono fun k hk hc=>hc.imp id fun e=>by have:=HWM.out;omega)
end
section
open Go.RowKit Sha Fct
theorem YD:(Tryz.prog.info? 93).map (fun i=>(i.zero,i.size))=some (some (.agg (bcells (Fld.zero32,[]) none 0).toArray),33):=by unfold bcells;kernel_rfl
theorem Zb (ρ:Operand->Value)(dst:Option Tmp)(len:Nat)(parts:Array (Nat×Operand))(ty:TypeId)(pos:String)(after:Array Edge)(guard:Option (Nat×Bool)):
 execOp ρ {dst:=dst,op:=.buildSlice 41 len parts,type:=ty,pos:=pos,after:=after,guard:=guard}= buildOp 41 len (parts.map fun(i,x)=>(i,ρ x)):=by unfold buildOp;rfl
theorem yT (w:World) {x:Fct.Id×List Int}(hx:sB.ok x)(q:Option Addr)(c:Nat):(buildOp 41 1 #[(0,.agg (bcells x q c).toArray)]).run Tryz.prog w= .ok (.value (.slice (some ⟨w.heap.size,0,none⟩) 1 1)) (w.alloc (.cells (bcells x q c).toArray 93)):=by
 have hl:(bcells x q c).length=33:=sB.len q c hx
 have:=run_build_items (P:=Tryz.prog) w 41 93 33 _ (by omega) Tryz.underlying41 YD [bcells x q c] (by intro d hd;simp at hd;subst hd;exact hl) (by simp)
 exact run_buildOp (by simpa using this)
theorem t8_B:(5:TypeId)≠93:=by decide
def PlcB (w:World)(B:Nat)(v:Value)(l:List (Fct.Id×List Int))(x:Fct.Id×List Int)(e:Ending)(w':World):Prop:=
 ∃v' zs,e= .returned (.tuple #[v',.int .i64 (Rise.place bkey Sha.less (bkey x) l:Nat)])/\Rws sB 93 w' B v' zs/\zs.map (·.1)=Rise.add bkey Sha.less x l/\w.grownBy w' v.ownBlock/\RowTy w v.ownBlock 93/\(∀g,v'.ownBlock=some g->v.ownBlock=some g\/w.heap.size<=g)
attribute [local go_sem ↓] execOp_loadOB execOp_boxOB Zb
theorem YE (w:World)(B:Nat)(v:Value)(ys:List (Hd (Fct.Id×List Int)))(h:Rws sB 93 w B v ys)(hup:Rise.Up bkey Sha.less (ys.map (·.1)))(x:Fct.Id×List Int)(q:Option Addr)(d:Nat)(hx:sB.Good w x q d)(hu:U8 w q (sB.byt x))(hn:ys.length<=1000000000)(hB:B<=w.heap.size):
 Calls Tryz.prog 127 #[v,.agg (bcells x q d).toArray,.func (.func 129) #[] #[]] w (PlcB w B v (ys.map (·.1)) x):=by
 obtain⟨p,c,rfl,ht⟩:=h.told
 obtain⟨n,hnl⟩:∃n,n=ys.length:=⟨_,rfl⟩
 rw[<-hnl]at ht hn
 have bx:=run_boxOp (P:=Tryz.prog) (t:=93) (cs:=(bcells x q d).toArray) w
 have hb1:=(qB w.heap.size w).alloc (qD _) (.cells (bcells x q d).toArray 93)
 have hk1:Blk (w.alloc (.cells (bcells x q d).toArray 93)) w.heap.size (bcells x q d) 93:=Blk.new w _ 93
 obtain⟨w1,hw1⟩:∃v,v=w.alloc (.cells (bcells x q d).toArray 93):=⟨_,rfl⟩
 rw[<-hw1]at bx hb1 hk1
 obtain⟨g0,hg0⟩:∃g,g=w.heap.size:=⟨_,rfl⟩
 rw[<-hg0]at bx hk1
 have HBS:=xF (bs_B (ys.map (·.1)) p n c w1 (ht.below hb1) hup x q d hx.ok hn)
 obtain⟨l,hl⟩:∃l,l=ys.map (·.1):=⟨_,rfl⟩
 rw[<-hl]at HBS hup ht ⊢
 obtain⟨pl,hpl⟩:∃k,k=Rise.place bkey Sha.less (bkey x) l:=⟨_,rfl⟩
 have hple:pl<=n:=by rw[hpl,ht.len];exact Rise.place_le _ _
 have HPL:=xF hpl
 have HL:=xF hl
 have HNL:=xF hnl
 have HB1:=xF hb1
 have HK:=xF hk1
 have HR:=xF h
 have HX:=xF hx
 have HU:=xF hu
 rw[<-hpl]at HBS
 rw[<-hnl]
 clear hw1 hg0 hpl hl hnl hb1 hk1 h hup hx hu ht
 cases hf:Rise.found bkey Sha.less (bkey x) l with
 | true=>
    rw[hf]at HBS
    have HQ:=xF (Rise.add_found (x:=x) hf)
    clear hf
    have l1:=load_OB HX.out.ok HK.out.range
    go_enter Tryz.func127,Tryz.ntmps127
    go_wp2_with fail
    refine HBS.out.mono ?_
    rintro e w2 ⟨rfl,hb2⟩
    have HB2:=xF (HB1.out.trans (hb2.mono HB1.out.size))
    clear hb2
    go_wp2_with fail
    go_ret2
    refine⟨.slice p n c,ys,by rw[<-HPL.out];rfl,?_,by rw[HQ.out,HL.out],⟨HB2.out.os,HB2.out.tape,HB2.out.output,HB2.out.size,fun k hk _=>HB2.out.block k hk⟩,?_,fun g hg=>Or.inl hg⟩
    ·have h2:=HR.out.below HB2.out
     rw[HNL.out];exact h2
    ·have h2:=RowTy.of HR.out.own
     rw[HNL.out];exact h2
 | false=>
    rw[hf]at HBS
    have HQ:=xF (Rise.add_new (x:=x) hf)
    clear hf
    have l1:=load_OB HX.out.ok HK.out.range
    go_enter Tryz.func127,Tryz.ntmps127
    go_wp2_with fail
    refine HBS.out.mono ?_
    rintro e w2 ⟨rfl,hb2⟩
    have HB2:=xF (HB1.out.trans (hb2.mono HB1.out.size))
    have HK2:=xF (HK.out.below hb2 HK.out.lt)
    have HR2:=xF (HR.out.below HB2.out)
    have lx:=load_OB HX.out.ok HK2.out.range
    have bi:=yT w2 HX.out.ok q d
    have hb3:=HB2.out.alloc HB2.out.size (.cells (bcells x q d).toArray 93)
    have hb23:=(qB w2.heap.size w2).alloc (qD _) (.cells (bcells x q d).toArray 93)
    have hk3:Blk (w2.alloc (.cells (bcells x q d).toArray 93)) w2.heap.size (bcells x q d) 93:=Blk.new w2 _ 93
    have hr3:=HR2.out.below hb23
    have hlt3:=fun k hk=>(HR2.out.own.lt k hk).2
    obtain⟨pb,hpb⟩:∃g,g=w2.heap.size:=⟨_,rfl⟩
    rw[<-hpb]at bi hk3
    have HNE:=xF (show(Value.slice p n c).ownBlock≠some pb from fun e=>by
     have h2:=hlt3 pb (by rw[<-HNL.out];exact e)
     omega)
    generalize w2.alloc (.cells (bcells x q d).toArray 93)=w3 at *
    have HIN:=xF (ins_B w3 B (.slice p n c) n (ys.flatMap sB.row) (by have h2:=hr3.own;rw[<-HNL.out]at h2;exact h2) (Shp.flat_one ys) pl hple pb (bcells x q d) (sB.len q d HX.out.ok) (sB.one x q d) hk3 HNE.out hn (Nat.le_trans hB hb3.size))
    have HB3:=xF hb3
    have HR3:=xF hr3
    clear hb2 hb23 hk3 hr3 hlt3 hpb hb3 HBS
    go_wp2_with fail
    refine HIN.out.mono ?_
    rintro e w4 ⟨v4,rfl,ho4,hg4,ha4⟩
    have HO4:=xF ho4
    have HG4:=xF hg4
    have HA4:=xF ha4
    clear ho4 hg4 ha4
    go_wp2_with fail
    go_ret2
    have hfl:(ys.flatMap sB.row).take (pl*33)++bcells x q d++(ys.flatMap sB.row).drop (pl*33)=(ys.take pl++(x,q,d)::ys.drop pl).flatMap sB.row:=by
     have h1:=flat_takeS (S:=sB) ys HR.out.ok pl
     have h2:=flat_dropS (S:=sB) ys HR.out.ok pl
     rw[List.flatMap_append,List.flatMap_cons,<-h1,<-h2,List.append_assoc];rfl
    have hty:RowTy w3 (Value.slice p n c).ownBlock 93:=by have h2:=RowTy.of HR3.out.own;rw[<-HNL.out]at h2;exact h2
    have hll:(ys.take pl++(x,q,d)::ys.drop pl).length=n+1:=by
     rw[qC,List.length_cons,List.length_take,List.length_drop,<-HNL.out];omega
    refine⟨v4,ys.take pl++(x,q,d)::ys.drop pl,by rw[<-HPL.out];rfl,⟨?_,?_⟩,?_,?_,?_,?_⟩
    ·rw[hll,<-hfl];exact HO4.out
    ·intro y hy
     have hold:∀y∈ys,sB.Good w4 y.1 y.2.1 y.2.2/\U8 w4 y.2.1 (sB.byt y.1):=fun y hy=>
      ⟨good_grown (HR3.out.good y hy).1 (HR3.out.good y hy).2 HG4.out hty t8_B,u8_grown (HR3.out.good y hy).2 HG4.out hty t8_B⟩
     rcases List.mem_append.1 hy with hy | hy
     ·exact hold y (List.mem_of_mem_take hy)
     ·rcases List.mem_cons.1 hy with rfl | hy
      ·exact⟨good_grown (HX.out.below HB3.out) (HU.out.below HB3.out) HG4.out hty t8_B,u8_grown (HU.out.below HB3.out) HG4.out hty t8_B⟩
      ·exact hold y (List.mem_of_mem_drop hy)
    ·rw[HQ.out,<-HPL.out,HL.out];simp
    ·exact⟨HG4.out.os.trans HB3.out.os,HG4.out.tape.trans HB3.out.tape,HG4.out.output.trans HB3.out.output,Nat.le_trans HB3.out.size HG4.out.size,fun k hk hne=>(HG4.out.block k (Nat.lt_of_lt_of_le hk HB3.out.size) hne).trans (HB3.out.block k hk)⟩
    ·have h2:=RowTy.of HR.out.own
     rw[<-HNL.out]at h2;exact h2
    ·intro g hg
     rcases HA4.out g hg with h2 | h2
     ·exact Or.inl h2
     ·exact Or.inr (Nat.le_trans HB3.out.size h2)
end
section
open Go.RowKit Sha Fct
theorem YF:(Tryz.prog.info? 95).map (fun i=>(i.zero,i.size))=some (some (.agg (kcells (0,Fld.zero32) none 0).toArray),33):=by unfold kcells;kernel_rfl
theorem Zc (ρ:Operand->Value)(dst:Option Tmp)(len:Nat)(parts:Array (Nat×Operand))(ty:TypeId)(pos:String)(after:Array Edge)(guard:Option (Nat×Bool)):
 execOp ρ {dst:=dst,op:=.buildSlice 42 len parts,type:=ty,pos:=pos,after:=after,guard:=guard}= buildOp 42 len (parts.map fun(i,x)=>(i,ρ x)):=by unfold buildOp;rfl
theorem yU (w:World) {x:Int×Fct.Id}(hx:sK.ok x)(q:Option Addr)(c:Nat):(buildOp 42 1 #[(0,.agg (kcells x q c).toArray)]).run Tryz.prog w= .ok (.value (.slice (some ⟨w.heap.size,0,none⟩) 1 1)) (w.alloc (.cells (kcells x q c).toArray 95)):=by
 have hl:(kcells x q c).length=33:=sK.len q c hx
 have:=run_build_items (P:=Tryz.prog) w 42 95 33 _ (by omega) Tryz.underlying42 YF [kcells x q c] (by intro d hd;simp at hd;subst hd;exact hl) (by simp)
 exact run_buildOp (by simpa using this)
theorem t8_K:(5:TypeId)≠95:=by decide
def PlcK (w:World)(B:Nat)(v:Value)(l:List (Int×Fct.Id))(x:Int×Fct.Id)(e:Ending)(w':World):Prop:=
 ∃v' zs,e= .returned (.tuple #[v',.int .i64 (Rise.place id klt (id x) l:Nat)])/\Rws sK 95 w' B v' zs/\zs.map (·.1)=Rise.add id klt x l/\w.grownBy w' v.ownBlock/\RowTy w v.ownBlock 95/\(∀g,v'.ownBlock=some g->v.ownBlock=some g\/w.heap.size<=g)
attribute [local go_sem ↓] execOp_loadOK execOp_boxOK Zc
theorem YG (w:World)(B:Nat)(v:Value)(ys:List (Hd (Int×Fct.Id)))(h:Rws sK 95 w B v ys)(hup:Rise.Up id klt (ys.map (·.1)))(x:Int×Fct.Id)(q:Option Addr)(d:Nat)(hx:sK.Good w x q d)(hu:U8 w q (sK.byt x))(hn:ys.length<=1000000000)(hB:B<=w.heap.size):
 Calls Tryz.prog 152 #[v,.agg (kcells x q d).toArray,.func (.func 153) #[] #[]] w (PlcK w B v (ys.map (·.1)) x):=by
 obtain⟨p,c,rfl,ht⟩:=h.told
 obtain⟨n,hnl⟩:∃n,n=ys.length:=⟨_,rfl⟩
 rw[<-hnl]at ht hn
 have bx:=run_boxOp (P:=Tryz.prog) (t:=95) (cs:=(kcells x q d).toArray) w
 have hb1:=(qB w.heap.size w).alloc (qD _) (.cells (kcells x q d).toArray 95)
 have hk1:Blk (w.alloc (.cells (kcells x q d).toArray 95)) w.heap.size (kcells x q d) 95:=Blk.new w _ 95
 obtain⟨w1,hw1⟩:∃v,v=w.alloc (.cells (kcells x q d).toArray 95):=⟨_,rfl⟩
 rw[<-hw1]at bx hb1 hk1
 obtain⟨g0,hg0⟩:∃g,g=w.heap.size:=⟨_,rfl⟩
 rw[<-hg0]at bx hk1
 have HBS:=xF (bs_K (ys.map (·.1)) p n c w1 (ht.below hb1) hup x q d hx.ok hn)
 obtain⟨l,hl⟩:∃l,l=ys.map (·.1):=⟨_,rfl⟩
 rw[<-hl]at HBS hup ht ⊢
 obtain⟨pl,hpl⟩:∃k,k=Rise.place id klt (id x) l:=⟨_,rfl⟩
 have hple:pl<=n:=by rw[hpl,ht.len];exact Rise.place_le _ _
 have HPL:=xF hpl
 have HL:=xF hl
 have HNL:=xF hnl
 have HB1:=xF hb1
 have HK:=xF hk1
 have HR:=xF h
 have HX:=xF hx
 have HU:=xF hu
 rw[<-hpl]at HBS
 rw[<-hnl]
 clear hw1 hg0 hpl hl hnl hb1 hk1 h hup hx hu ht
 cases hf:Rise.found id klt (id x) l with
 | true=>
    rw[hf]at HBS
    have HQ:=xF (Rise.add_found (x:=x) hf)
    clear hf
    have l1:=load_OK HX.out.ok HK.out.range
    go_enter Tryz.func152,Tryz.ntmps152
    go_wp2_with fail
    refine HBS.out.mono ?_
    rintro e w2 ⟨rfl,hb2⟩
    have HB2:=xF (HB1.out.trans (hb2.mono HB1.out.size))
    clear hb2
    go_wp2_with fail
    go_ret2
    refine⟨.slice p n c,ys,by rw[<-HPL.out];rfl,?_,by rw[HQ.out,HL.out],⟨HB2.out.os,HB2.out.tape,HB2.out.output,HB2.out.size,fun k hk _=>HB2.out.block k hk⟩,?_,fun g hg=>Or.inl hg⟩
    ·have h2:=HR.out.below HB2.out
     rw[HNL.out];exact h2
    ·have h2:=RowTy.of HR.out.own
     rw[HNL.out];exact h2
 | false=>
    rw[hf]at HBS
    have HQ:=xF (Rise.add_new (x:=x) hf)
    clear hf
    have l1:=load_OK HX.out.ok HK.out.range
    go_enter Tryz.func152,Tryz.ntmps152
    go_wp2_with fail
    refine HBS.out.mono ?_
    rintro e w2 ⟨rfl,hb2⟩
    have HB2:=xF (HB1.out.trans (hb2.mono HB1.out.size))
    have HK2:=xF (HK.out.below hb2 HK.out.lt)
    have HR2:=xF (HR.out.below HB2.out)
    have lx:=load_OK HX.out.ok HK2.out.range
    have bi:=yU w2 HX.out.ok q d
    have hb3:=HB2.out.alloc HB2.out.size (.cells (kcells x q d).toArray 95)
    have hb23:=(qB w2.heap.size w2).alloc (qD _) (.cells (kcells x q d).toArray 95)
    have hk3:Blk (w2.alloc (.cells (kcells x q d).toArray 95)) w2.heap.size (kcells x q d) 95:=Blk.new w2 _ 95
    have hr3:=HR2.out.below hb23
    have hlt3:=fun k hk=>(HR2.out.own.lt k hk).2
    obtain⟨pb,hpb⟩:∃g,g=w2.heap.size:=⟨_,rfl⟩
    rw[<-hpb]at bi hk3
    have HNE:=xF (show(Value.slice p n c).ownBlock≠some pb from fun e=>by
     have h2:=hlt3 pb (by rw[<-HNL.out];exact e)
     omega)
    generalize w2.alloc (.cells (kcells x q d).toArray 95)=w3 at *
    have HIN:=xF (ins_K w3 B (.slice p n c) n (ys.flatMap sK.row) (by have h2:=hr3.own;rw[<-HNL.out]at h2;exact h2) (Shp.flat_one ys) pl hple pb (kcells x q d) (sK.len q d HX.out.ok) (sK.one x q d) hk3 HNE.out hn (Nat.le_trans hB hb3.size))
    have HB3:=xF hb3
    have HR3:=xF hr3
    clear hb2 hb23 hk3 hr3 hlt3 hpb hb3 HBS
    go_wp2_with fail
    refine HIN.out.mono ?_
    rintro e w4 ⟨v4,rfl,ho4,hg4,ha4⟩
    have HO4:=xF ho4
    have HG4:=xF hg4
    have HA4:=xF ha4
    clear ho4 hg4 ha4
    go_wp2_with fail
    go_ret2
    have hfl:(ys.flatMap sK.row).take (pl*33)++kcells x q d++(ys.flatMap sK.row).drop (pl*33)=(ys.take pl++(x,q,d)::ys.drop pl).flatMap sK.row:=by
     have h1:=flat_takeS (S:=sK) ys HR.out.ok pl
     have h2:=flat_dropS (S:=sK) ys HR.out.ok pl
     rw[List.flatMap_append,List.flatMap_cons,<-h1,<-h2,List.append_assoc];rfl
    have hty:RowTy w3 (Value.slice p n c).ownBlock 95:=by have h2:=RowTy.of HR3.out.own;rw[<-HNL.out]at h2;exact h2
    have hll:(ys.take pl++(x,q,d)::ys.drop pl).length=n+1:=by
     rw[qC,List.length_cons,List.length_take,List.length_drop,<-HNL.out];omega
    refine⟨v4,ys.take pl++(x,q,d)::ys.drop pl,by rw[<-HPL.out];rfl,⟨?_,?_⟩,?_,?_,?_,?_⟩
    ·rw[hll,<-hfl];exact HO4.out
    ·intro y hy
     have hold:∀y∈ys,sK.Good w4 y.1 y.2.1 y.2.2/\U8 w4 y.2.1 (sK.byt y.1):=fun y hy=>
      ⟨good_grown (HR3.out.good y hy).1 (HR3.out.good y hy).2 HG4.out hty t8_K,u8_grown (HR3.out.good y hy).2 HG4.out hty t8_K⟩
     rcases List.mem_append.1 hy with hy | hy
     ·exact hold y (List.mem_of_mem_take hy)
     ·rcases List.mem_cons.1 hy with rfl | hy
      ·exact⟨good_grown (HX.out.below HB3.out) (HU.out.below HB3.out) HG4.out hty t8_K,u8_grown (HU.out.below HB3.out) HG4.out hty t8_K⟩
      ·exact hold y (List.mem_of_mem_drop hy)
    ·rw[HQ.out,<-HPL.out,HL.out];simp
    ·exact⟨HG4.out.os.trans HB3.out.os,HG4.out.tape.trans HB3.out.tape,HG4.out.output.trans HB3.out.output,Nat.le_trans HB3.out.size HG4.out.size,fun k hk hne=>(HG4.out.block k (Nat.lt_of_lt_of_le hk HB3.out.size) hne).trans (HB3.out.block k hk)⟩
    ·have h2:=RowTy.of HR.out.own
     rw[<-HNL.out]at h2;exact h2
    ·intro g hg
     rcases HA4.out g hg with h2 | h2
     ·exact Or.inl h2
     ·exact Or.inr (Nat.le_trans HB3.out.size h2)
end
section
open Go.RowKit Sha Fct
theorem ZZ:(Tryz.prog.info? 62).map (fun i=>(i.zero,i.size,i.bytes))=some (some (.agg (vcells ⟨0,0,0,0,0,[]⟩ none 0).toArray),6,64):=by unfold vcells;kernel_rfl
theorem zw:(Tryz.prog.info? 62).map (fun i=>i.size)=some 6:=by
 have h:=ZZ
 cases hq:Tryz.prog.info? 62 with
 | none=>rw[hq]at h;cases h
 | some i=>rw[hq]at h;simp at h;simp[h.2.1]
theorem xe:(vcells ⟨0,0,0,0,0,[]⟩ none 0).length=6:=by unfold vcells;simp[Fld.zero32]
theorem yg:(Value.agg (vcells ⟨0,0,0,0,0,[]⟩ none 0).toArray).cells.size=6:=by simp only[Value.cells,List.size_toArray];exact xe
theorem Zo (ρ:Operand->Value)(dst:Option Tmp)(x:Operand)(lo hi:Option Operand)(ty:TypeId)(pos:String)(after:Array Edge)(guard:Option (Nat×Bool)):
 execOp ρ {dst:=dst,op:=.slice 44 x lo hi none,type:=ty,pos:=pos,after:=after,guard:=guard}= sliceOp 44 (ρ x) (lo.map ρ) (hi.map ρ):=by unfold sliceOp;rfl
def InsV (w:World)(B:Nat)(v:Value)(n:Nat)(xs:List Value)(e:Ending)(w':World):Prop:=
 ∃v',e= .returned v'/\w'.ownsRow B 62 6 v' n xs/\w.grownBy w' v.ownBlock/\(∀g,v'.ownBlock=some g->v.ownBlock=some g\/w.heap.size<=g)
attribute [local go_sem ↓] Zo
theorem zO (p:Option Addr)(len cap k:Nat)(hk:k<=len)(hc:len<=cap)(w:World):(sliceOp 44 (.slice p len cap) (some (.int .i64 k)) none).run Tryz.prog w= .ok (.value (.slice (if cap=k then p else p.map (·.add (k*6))) (len - k) (cap - k))) w:=
 run_sliceOp (run_cutS_l Tryz.underlying44 zw p len cap k hk hc w)
theorem yV (p:Option Addr)(len cap k:Nat)(hk:k<=cap)(w:World):(sliceOp 44 (.slice p len cap) none (some (.int .i64 k))).run Tryz.prog w= .ok (.value (.slice p k cap)) w:=
 run_sliceOp (run_cutS_h Tryz.underlying44 zw p len cap k hk w)
theorem yW (w:World)(B:Nat)(v:Value)(n:Nat)(xs:List Value)(ho:w.ownsRow B 62 6 v n xs)(pb:Nat)(c:List Value)(hc:c.length=6)(h1:∀u∈c,u.oneCell'=true)(hb:Blk w pb c 62)(hn:n<=1000000000)(hB:B<=w.heap.size):
 Calls Tryz.prog 181 #[v,.int .i64 n,.slice (some ⟨pb,0,none⟩) 1 1] w (InsV w B v (n+1) (xs++c)):=by
 obtain⟨p,cap,rfl,hle,hmx,hA,hB2,hnil⟩:=own_at_s ho
 have k1:=zO p n cap n (qD _) hle w
 generalize(if cap=n then p else p.map (·.add (n*6)))=p1 at *
 have HO:=xF ho
 have hA1:=xF (show At w (some ⟨pb,0,none⟩) c from At.ofBlk (rest:=[]) (by simpa using hb))
 have HC:=xF hc
 have H1:=xF h1
 clear ho hc h1 hb hA hB2 hnil
 unfold maxLen at hmx
 go_enter Tryz.func181,Tryz.ntmps181
 go_wp2_with (at_builtin;refine wpList_app_s rfl (.tmp 23) (.tmp 24) 44 rfl B 62 (size:=6) (by omega) Tryz.underlying44 ZZ yg _ n xs rfl HO.out (some ⟨pb,0,none⟩) 1 1 c rfl hA1.out (by rw[HC.out]) (fun h=>by cases h) (qD _) H1.out (by omega) (by unfold maxLen;omega) hB ?_;intro v7 w7 hown7 hg7 hat7;have O7:=xF hown7;have G7:=xF hg7;have A7:=xF hat7;clear hown7 hg7 hat7)
 go_ret
 exact⟨v7,rfl,O7.out,G7.out,A7.out⟩
theorem xf (w:World)(pb g o lb cb:Nat) {c cs:List Value} {tp tg:TypeId}(hp:Blk w pb c tp)(hg:Blk w g cs tg)(hne:pb≠g)(hcs:cs≠[]):
 (callFunc 193 #[.slice (some ⟨pb,0,none⟩) 1 1,.slice (some ⟨g,o,none⟩) lb cb]).run Tryz.prog w= .ok (.value (.bool false)) w:=by
 have hsz:=zw
 rw[run_callFunc_extern Tryz.func193 (by kernel_rfl) (by kernel_rfl) (by kernel_rfl) (e:=Extern.SlicesOverlaps.overlaps #[44,44] #[4]) (by kernel_rfl),
  Lib.run_overlaps_apart w 44 4 62 Tryz.underlying44 6 (size_ofS zw) ⟨pb,0,none⟩ ⟨g,o,none⟩ 1 1 lb cb hne tp tg c.length cs.length (by unfold World.shape?;rw[hp];rfl) (by unfold World.shape?;rw[hg];rfl) (by simpa using hcs) (hp.free 0) (hp.free _)]
 rfl
theorem YH (w:World)(B g n cap i:Nat)(A D R:List Value)(hA:A.length=i*6)(hD:D.length=(n - i)*6)(hR:R.length=(cap - n)*6)(hi:i < n)(hcap:n+1<=cap)(hm:cap<=maxLen)(hBg:B<=g)(hg:Blk w g (A++D++R) 62)
 (hAD1:∀u∈A++D,u.oneCell'=true) (pb:Nat) (c:List Value) (hc:c.length=6) (h1:∀u∈c,u.oneCell'=true) (hb:Blk w pb c 62) (hne:pb≠g):
 Calls Tryz.prog 181 #[.slice (some ⟨g,0,none⟩) n cap,.int .i64 i,.slice (some ⟨pb,0,none⟩) 1 1] w (InsV w B (.slice (some ⟨g,0,none⟩) n cap) (n+1) (A++c++D)):=by
 unfold maxLen at hm
 have hDR:(D++R).length=(cap - i)*6:=by rw[qC,hD,hR,<-Nat.add_mul];congr 1;omega
 -- the room is parted
 have hL1:((D++R).take 6).length=6:=by rw[List.length_take,hDR];have:1*6<=(cap - i)*6:=Nat.mul_le_mul_right _ (by omega);omega
 have hL2:(((D++R).drop 6).take D.length).length=D.length:=by
  rw[List.length_take,List.length_drop,hDR,hD]
  have:(n - i)*6+1*6<=(cap - i)*6:=by rw[<-Nat.add_mul];exact Nat.mul_le_mul_right _ (by omega)
  omega
 have hparts:A++D++R=(A++(D++R).take 6)++((D++R).drop 6).take D.length++((D++R).drop 6).drop D.length:=by
  rw[List.append_assoc (A++_),List.take_append_drop,List.append_assoc A ((D++R).take _),List.take_append_drop,List.append_assoc]
 generalize(D++R).take 6=L1 at *
 generalize((D++R).drop 6).take D.length=L2 at *
 generalize((D++R).drop 6).drop D.length=L3 at *
 have hgd:Blk w.drew g (A++D++R) 62:=hg
 have hgp:=hgd
 rw[hparts]at hgp
 have hg2:Blk (w.drew.setCells g ((i+1)*6) D) g ((A++L1)++D++L3) 62:=Blk.setCells D _ _ _ _ _ hgp (by rw[qC,hA,hL1,Nat.add_mul,Nat.one_mul]) hL2
 have hg2':Blk (w.drew.setCells g ((i+1)*6) D) g (A++L1++(D++L3)) 62:=by rw[<-List.append_assoc];exact hg2
 have hg3:Blk ((w.drew.setCells g ((i+1)*6) D).setCells g (i*6) c) g (A++c++(D++L3)) 62:=Blk.setCells c _ _ _ _ _ hg2' hA (by rw[hL1,hc])
 have hpb2:Blk (w.drew.setCells g ((i+1)*6) D) pb c 62:=by
  unfold Blk;rw[setCells_heap g D _ w.drew pb hne];exact hb
 have hlen2:((A++L1)++D++L3).length=(A++D++R).length:=by rw[hparts];simp[hL2]
 have hlenW:(A++D++R).length=cap*6:=by
  rw[List.append_assoc,qC,hA,hDR,<-Nat.add_mul];congr 1;omega
 have cp1:=run_copyS (P:=Tryz.prog) w.drew Tryz.underlying44 zw g ((i+1)*6) (n+1 - (i+1)) (cap - (i+1)) ⟨g,i*6,none⟩ (n+1 - i) (cap - i) (n - i) D (by simp only[Nat.min_def];split<;>omega) hD (cells_in hgd hA)
  (hgd.there _ _ (by rw[hlenW,hD,<-Nat.add_mul];exact Nat.mul_le_mul_right _ (by omega))) (fun u hu=>hAD1 u (List.mem_append_right _ hu))
 have cp2:=run_copyS (P:=Tryz.prog) (w.drew.setCells g ((i+1)*6) D) Tryz.underlying44 zw g (i*6) (n+1 - i) (cap - i) ⟨pb,0,none⟩ 1 1 1 c (by simp only[Nat.min_def];split<;>omega) (by rw[hc,Nat.one_mul]) (cells_in (pre:=[]) (post:=[]) (by simpa using hpb2) rfl)
  (hg2.there _ _ (by rw[hlen2,hlenW,hc,<-Nat.succ_mul];exact Nat.mul_le_mul_right _ (by omega))) h1
 have k0:=zO (some ⟨g,0,none⟩) n cap i (by omega) (by omega) w
 have k1:∀W,(sliceOp 44 (.slice (some ⟨g,0,none⟩) n cap) none (some (.int .i64 ((n:Int)+1)))).run Tryz.prog W= .ok (.value (.slice (some ⟨g,0,none⟩) (n+1) cap)) W:=fun W=>yV (some ⟨g,0,none⟩) n cap (n+1) hcap W
 have k2:∀W,(sliceOp 44 (.slice (some ⟨g,0,none⟩) (n+1) cap) (some (.int .i64 ((i:Int)+1))) none).run Tryz.prog W= .ok (.value (.slice (some ⟨g,(i+1)*6,none⟩) (n+1 - (i+1)) (cap - (i+1)))) W:=fun W=>by
  have h:=zO (some ⟨g,0,none⟩) (n+1) cap (i+1) (by omega) hcap W
  rw[if_neg (by omega)]at h
  simpa[Addr.add_mid]using h
 have k3:∀W,(sliceOp 44 (.slice (some ⟨g,0,none⟩) (n+1) cap) (some (.int .i64 (i:Int))) none).run Tryz.prog W= .ok (.value (.slice (some ⟨g,i*6,none⟩) (n+1 - i) (cap - i))) W:=fun W=>by
  have h:=zO (some ⟨g,0,none⟩) (n+1) cap i (by omega) hcap W
  rw[if_neg (by omega)]at h
  simpa[Addr.add_mid]using h
 have hov:=xf w pb g ((i+1)*6) (n+1 - (i+1)) (cap - (i+1)) hb hg hne (by
  intro h0;rw[h0]at hlenW
  have:1*6<=cap*6:=Nat.mul_le_mul_right _ (by omega)
  simp at hlenW;omega)
 generalize(if cap=i then(some (⟨g,0,none⟩:Addr))else(some (⟨g,0,none⟩:Addr)).map (·.add (i*6)))=p0 at *
 have hwr1:IntKind.i64.wrap ((i:Int)+1)=(i:Int)+1:=by rw[IntKind.wrap_i64];omega
 have hni:((i:Int) == (n:Int))=false:=by rw[beq_eq_false_iff_ne];omega
 have hroom:decide ((cap:Int) < (n:Int)+1)=false:=by rw[decide_eq_false_iff_not];omega
 have hgr:w.grownBy ((w.drew.setCells g ((i+1)*6) D).setCells g (i*6) c) (some g):=by
  have h2:=setCells_below (a:=w.drew) (B:=g) (qD _) D ((i+1)*6) w.drew (qB _ _)
  have h3:=setCells_below (a:=w.drew) (B:=g) (qD _) c (i*6) _ h2
  exact⟨h3.os,h3.tape,h3.output,h3.size,fun k hk hn=>by
   have hkg:k≠g:=fun e=>hn (by rw[e])
   rw[setCells_heap g c _ _ k hkg,setCells_heap g D _ _ k hkg];rfl⟩
 have hown:=own_ofBlk (B:=B) (n:=n+1) (s:=6) (cap:=cap) (xs:=A++c++D) (rest:=L3) hBg (by rw[List.append_assoc (A++c)];exact hg3) hcap (by unfold maxLen;exact hm)
  (by rw[qC,qC,hA,hc,hD,<-Nat.succ_mul,<-Nat.add_mul];congr 1;omega)
  (by rw[<-hlenW,<-hlen2];simp[hL1,hc]<;>omega)
 have HG:=xF hgr
 have HO:=xF hown
 clear hgr hown hg3 hg2 hg2' hgp hgd hg hpb2 hb hparts hlen2 hlenW hL1 hL2 hDR hR hD hA hAD1 h1 hc hne
 generalize w.drew.setCells g ((i+1)*6) D=w1 at *
 generalize w1.setCells g (i*6) c=w2 at *
 generalize n+1 - (i+1)=l2 at *
 generalize cap - (i+1)=c2 at *
 generalize n+1 - i=l3 at *
 generalize cap - i=c3 at *
 go_enter Tryz.func181,Tryz.ntmps181
 go_wp2_with (simp only[hov])
 go_region_law (refine copy_step rfl (.tmp 73) (.tmp 76) 44 44 rfl _ _ (by simp[Act.eval,Act.put]) (by simp[Act.eval,Act.put]) (cp1 _) ?_)
 all_goals
  go_wp2_with (at_builtin;refine copy_law _ rfl (.tmp 80) (.tmp 81) 44 44 rfl _ _ rfl rfl (cp2 _) ?_)
  go_ret
  exact⟨_,rfl,HO.out,HG.out,fun k hk=>Or.inl hk⟩
theorem yo (w:World)(B g n cap i:Nat)(A D R:List Value)(hA:A.length=i*6)(hD:D.length=(n - i)*6)(hi:i < n)(hn:n<=1000000000)(hle:n<=cap)(hcap:cap < n+1)(hg:Blk w g (A++D++R) 62)
 (hAD1:∀u∈A++D,u.oneCell'=true) (pb:Nat) (c:List Value) (hc:c.length=6) (h1:∀u∈c,u.oneCell'=true) (hb:Blk w pb c 62) (hB:B<=w.heap.size):
 Calls Tryz.prog 181 #[.slice (some ⟨g,0,none⟩) n cap,.int .i64 i,.slice (some ⟨pb,0,none⟩) 1 1] w (InsV w B (.slice (some ⟨g,0,none⟩) n cap) (n+1) (A++c++D)):=by
 obtain⟨i0,hi0,hz0,hz1,hz2⟩:=info_parts ZZ
 obtain⟨G,hG⟩:∃G,G=grownCap w (n+1) cap 62:=⟨_,rfl⟩
 obtain⟨N,hN⟩:∃N,N=w.heap.size:=⟨_,rfl⟩
 obtain⟨zz,hzz⟩:∃zz:Value,zz= .agg (vcells ⟨0,0,0,0,0,[]⟩ none 0).toArray:=⟨_,rfl⟩
 rw[<-hzz]at hz0
 have hzs:zz.cells.size=6:=by rw[hzz];exact yg
 have hGn:n+1<=G:=by rw[hG];exact grownCap_ge w _ _ _
 have hGm:G<=maxLen:=by rw[hG];exact grownCap_le_maxLen w (n+1) cap 62 (by unfold maxLen;omega)
 have hap:∀ty,(Builtin.append_ #[44,3] ty #[.slice (some ⟨g,0,none⟩) i cap,.int .i64 ((n:Int)+1 - (i:Int))]).run Tryz.prog w =
  .ok (.slice (some ⟨N,0,none⟩) (n+1) G) (w.drew.alloc (.cells (A.toArray++Builtin.zeroCells zz.cells (n+1 - i)++Builtin.zeroCells zz.cells (G - (n+1))) 62)):=fun ty=>by
  have h:=Lib.run_append_grow_zeros (P:=Tryz.prog) w 44 3 ty 62 i0 zz .i64 .i64 Tryz.underlying44 Tryz.underlying3 hi0 hz0 (some ⟨g,0,none⟩) i cap A
   (by rw[hz1];exact run_firstCells_some w.drew 6 i ⟨g,0,none⟩ i cap A hA (cells_in (w:=w.drew) (pre:=[]) (post:=D++R) (by have h9:Blk w.drew g (A++D++R) 62:=hg;simpa using h9) rfl))
   (n+1 - i) (by omega) (by rw[hz1];omega) (by omega) (by omega) (by rw[hz2];omega) (by rw[hz2];exact growslice_fits (by omega) (by omega))
  rw[show i+(n+1 - i)=n+1 by omega]at h
  rw[show(n:Int)+1 - (i:Int)=((n+1 - i:Nat):Int) by omega,hG,hN]
  exact h
 obtain⟨Z1,hZ1⟩:∃Z1,Z1=(Builtin.zeroCells zz.cells (n+1 - i)).toList:=⟨_,rfl⟩
 obtain⟨Z2,hZ2⟩:∃Z2,Z2=(Builtin.zeroCells zz.cells (G - (n+1))).toList:=⟨_,rfl⟩
 have lZ1:Z1.length=(n+1 - i)*6:=by rw[hZ1,Array.length_toList,size_zeroCells,hzs]
 have lZ2:Z2.length=(G - (n+1))*6:=by rw[hZ2,Array.length_toList,size_zeroCells,hzs]
 have hrow:A.toArray++Builtin.zeroCells zz.cells (n+1 - i)++Builtin.zeroCells zz.cells (G - (n+1))=(A++Z1++Z2).toArray:=by
  rw[hZ1,hZ2];simp
 rw[hrow]at hap
 have b1:Blk (w.drew.alloc (.cells (A++Z1++Z2).toArray 62)) N (A++Z1++Z2) 62:=by rw[hN];exact Blk.new w.drew _ 62
 have g1:Blk (w.drew.alloc (.cells (A++Z1++Z2).toArray 62)) g (A++D++R) 62:=Blk.old (w:=w.drew) hg _
 have p1:Blk (w.drew.alloc (.cells (A++Z1++Z2).toArray 62)) pb c 62:=Blk.old (w:=w.drew) hb _
 have hgN:g≠N:=by have:=hg.lt;omega
 have hpN:pb≠N:=by have:=hb.lt;omega
 have hbw1:Below w.heap.size w (w.drew.alloc (.cells (A++Z1++Z2).toArray 62)):=(qB _ w).drew.alloc (qD _) _
 generalize w.drew.alloc (.cells (A++Z1++Z2).toArray 62)=w1 at *
 have l1:(Z1.take 6).length=6:=by rw[List.length_take,lZ1];have:1*6<=(n+1 - i)*6:=Nat.mul_le_mul_right _ (by omega);omega
 have l2:(Z1.drop 6).length=D.length:=by
  rw[List.length_drop,lZ1,hD,show n+1 - i=(n - i)+1 by omega,Nat.succ_mul,Nat.add_sub_cancel]
 have b1':Blk w1 N (A++Z1.take 6++(Z1.drop 6++Z2)) 62:=by
  rw[List.append_assoc A,<-List.append_assoc (Z1.take _),List.take_append_drop,<-List.append_assoc];exact b1
 have b2:Blk (w1.setCells N (i*6) c) N (A++c++(Z1.drop 6++Z2)) 62:=Blk.setCells c _ _ _ _ _ b1' hA (by rw[l1,hc])
 have g2:Blk (w1.setCells N (i*6) c) g (A++D++R) 62:=by unfold Blk;rw[setCells_heap N c _ w1 g hgN];exact g1
 have lN:(A++Z1++Z2).length=G*6:=by
  rw[qC,qC,hA,lZ1,lZ2,<-Nat.add_mul,<-Nat.add_mul];congr 1;omega
 have lN2:(A++c++(Z1.drop 6++Z2)).length=G*6:=by
  rw[qC,qC,qC,hA,hc,l2,hD,lZ2,<-Nat.succ_mul,<-Nat.add_mul,<-Nat.add_mul];congr 1;omega
 have cp1:=run_copyS (P:=Tryz.prog) w1 Tryz.underlying44 zw N (i*6) (n+1 - i) (G - i) ⟨pb,0,none⟩ 1 1 1 c (by simp only[Nat.min_def];split<;>omega) (by rw[hc,Nat.one_mul]) (cells_in (pre:=[]) (post:=[]) (by simpa using p1) rfl)
  (b1.there _ _ (by rw[lN,hc,<-Nat.succ_mul];exact Nat.mul_le_mul_right _ (by omega))) h1
 have b2d:Blk (w1.setCells N (i*6) c).drew N (A++c++(Z1.drop 6++Z2)) 62:=b2
 have g2d:Blk (w1.setCells N (i*6) c).drew g (A++D++R) 62:=g2
 have cp2:=run_copyS (P:=Tryz.prog) (w1.setCells N (i*6) c).drew Tryz.underlying44 zw N ((i+1)*6) (n+1 - (i+1)) (G - (i+1)) ⟨g,i*6,none⟩ (n - i) (cap - i) (n - i) D (by simp only[Nat.min_def];split<;>omega) hD (cells_in g2d hA)
  (b2d.there _ _ (by rw[lN2,hD,<-Nat.add_mul];exact Nat.mul_le_mul_right _ (by omega))) (fun u hu=>hAD1 u (List.mem_append_right _ hu))
 have b3:Blk ((w1.setCells N (i*6) c).drew.setCells N ((i+1)*6) D) N ((A++c)++D++Z2) 62:=
  Blk.setCells D _ _ _ _ _ (by rw[<-List.append_assoc]at b2d;exact b2d) (by rw[qC,hA,hc,Nat.succ_mul]) l2
 have hown:=own_ofBlk (B:=B) (n:=n+1) (s:=6) (cap:=G) (xs:=A++c++D) (rest:=Z2) (by omega) b3 hGn hGm
  (by rw[qC,qC,hA,hc,hD,<-Nat.succ_mul,<-Nat.add_mul];congr 1;omega)
  (by rw[qC,qC,qC,hA,hc,hD,lZ2,<-Nat.succ_mul,<-Nat.add_mul,<-Nat.add_mul];congr 1;omega)
 have hgr:w.grownBy ((w1.setCells N (i*6) c).drew.setCells N ((i+1)*6) D) (some g):=by
  have h2:=setCells_below (a:=w) (B:=w.heap.size) (b:=N) (by omega) c (i*6) w1 hbw1
  have h3:=setCells_below (a:=w) (B:=w.heap.size) (b:=N) (by omega) D ((i+1)*6) _ h2.drew
  exact⟨h3.os,h3.tape,h3.output,h3.size,fun k hk _=>h3.block k hk⟩
 have k0:=zO (some ⟨g,0,none⟩) n cap i (by omega) (by omega)
 have hci:¬(cap=i):=by omega
 simp only[if_neg hci,Option.map_some,Addr.add_mid,Nat.zero_add]at k0
 have k1:=yV (some ⟨g,0,none⟩) n cap i (by omega)
 have k2:=zO (some ⟨N,0,none⟩) (n+1) G i (by omega) hGn
 simp only[if_neg (show¬(G=i) by omega),Option.map_some,Addr.add_mid,Nat.zero_add]at k2
 have k3:∀W,(sliceOp 44 (.slice (some ⟨N,0,none⟩) (n+1) G) (some (.int .i64 ((i:Int)+1))) none).run Tryz.prog W= .ok (.value (.slice (some ⟨N,(i+1)*6,none⟩) (n+1 - (i+1)) (G - (i+1)))) W:=fun W=>by
  have h:=zO (some ⟨N,0,none⟩) (n+1) G (i+1) (by omega) hGn W
  rw[if_neg (by omega)]at h
  simpa[Addr.add_mid]using h
 have hwr1:IntKind.i64.wrap ((i:Int)+1)=(i:Int)+1:=by rw[IntKind.wrap_i64];omega
 have hni:((i:Int) == (n:Int))=false:=by rw[beq_eq_false_iff_ne];omega
 have hroom:decide ((cap:Int) < (n:Int)+1)=true:=by rw[decide_eq_true_iff];omega
 have HG:=xF hgr
 have HO:=xF hown
 have HNW:=xF hN
 have HNS:=xF (show w.heap.size<=N by omega)
 clear hgr hown b3 b2 b2d g2 g2d b1 b1' g1 p1 l1 l2 lZ1 lZ2 lN lN2 hgN hpN hrow hZ1 hZ2 hN hG hGm hzz hz0 hz1 hz2 hzs hi0 hbw1 hg hb hA hD hAD1 hc h1
 generalize w1.setCells N (i*6) c=w2 at *
 generalize w2.drew.setCells N ((i+1)*6) D=w3 at *
 generalize n+1 - (i+1)=l2 at *
 generalize G - (i+1)=c2 at *
 generalize n+1 - i=l3 at *
 generalize G - i=c3 at *
 generalize n - i=l4 at *
 generalize cap - i=c4 at *
 go_enter Tryz.func181,Tryz.ntmps181
 go_wp2_with (first | (at_builtin;refine Lib.wpList_append_run _ rfl (.tmp 34) (.tmp 39) _ _ rfl _ _ rfl rfl _ _ (hap _) ?_) | (refine copy_law _ rfl (.tmp 43) (.tmp 44) 44 44 rfl _ _ rfl rfl (cp1 _) ?_))
 go_region_law (refine copy_step rfl (.tmp 50) (.tmp 53) 44 44 rfl _ _ (by simp[Act.eval,Act.put]) (by simp[Act.eval,Act.put]) (cp2 _) ?_)
 all_goals
  go_wp2_with fail
  go_ret
  exact⟨_,rfl,HO.out,HG.out,fun k hk=>Or.inr (by cases hk;exact HNS.out)⟩
theorem ins_V (w:World)(B:Nat)(v:Value)(n:Nat)(xs:List Value)(ho:w.ownsRow B 62 6 v n xs)(hx1:∀u∈xs,u.oneCell'=true)(i:Nat)(hi:i<=n)(pb:Nat)(c:List Value)(hc:c.length=6)(h1:∀u∈c,u.oneCell'=true)(hb:Blk w pb c 62)(hne:v.ownBlock≠some pb)(hn:n<=1000000000)(hB:B<=w.heap.size):
 Calls Tryz.prog 181 #[v,.int .i64 i,.slice (some ⟨pb,0,none⟩) 1 1] w (InsV w B v (n+1) (xs.take (i*6)++c++xs.drop (i*6))):=by
 by_cases he:i=n
 ·subst he
  have hxl:=ho.1
  rw[List.take_of_length_le (by omega),List.drop_eq_nil_of_le (by omega),List.append_nil]
  exact yW w B v i xs ho pb c hc h1 hb hn hB
 ·obtain⟨g,cap,rest,rfl,hg,hle,hm,hk,hl,hl2⟩:=own_whole ho (by omega)
  have hpg:pb≠g:=fun e=>hne (by rw[e];rfl)
  have hA:(xs.take (i*6)).length=i*6:=by rw[List.length_take,hl];have:i*6<=n*6:=Nat.mul_le_mul_right _ hi;omega
  have hD:(xs.drop (i*6)).length=(n - i)*6:=by rw[List.length_drop,hl,<-Nat.sub_mul]
  have hR:rest.length=(cap - n)*6:=by rw[qC,hl]at hl2;rw[Nat.sub_mul];omega
  have hk':Blk w g (xs.take (i*6)++xs.drop (i*6)++rest) 62:=by rw[List.take_append_drop];exact hk
  have h1':∀u∈xs.take (i*6)++xs.drop (i*6),u.oneCell'=true:=by rw[List.take_append_drop];exact hx1
  by_cases hc2:n+1<=cap
  ·exact YH w B g n cap i _ _ rest hA hD hR (by omega) hc2 hm hg hk' h1' pb c hc h1 hb hpg
  ·exact yo w B g n cap i _ _ rest hA hD (by omega) hn hle (by omega) hk' h1' pb c hc h1 hb hB
end
end Go.Proofs.YtokpabkcaofahaaGreat
