/-
  What stands under factPuts_holds: part 24.
-/
import Derived.Test.YtokpabkcaofahaaGreatPp23
import Derived.Test.YtokpabkcaofahaaGreatPp7
import Derived.Test.YtokpabkcaofahaaGreatPp19
import Derived.Test.YtokpabkcaofahaaGreatPp2
import Derived.Test.YtokpabkcaofahaaGreatPp4
import Derived.Test.YtokpabkcaofahaaGreatPp3
import Derived.Deep.RegionLaw
namespace Go.Proofs.YtokpabkcaofahaaGreat
set_option linter.unusedSimpArgs false
set_option linter.unusedVariables false
set_option maxRecDepth 100000
set_option maxHeartbeats 20000000
section
open Go.RowKit Sha Fct
theorem yX (x y:Vot)(q r:Option Addr)(c d:Nat)(w:World)(hx:sV.ok x)(hy:sV.ok y):
 Calls Tryz.prog 160 #[.agg (vcells x q c).toArray,.agg (vcells y r d).toArray] w fun e w'=>e= .returned (.int .i64 (ordV x y))/\Below w.heap.size w w':=votes_any x y q r c d w
theorem xg (x y:Vot):ordV x y < 0↔ilt (vkey x) (vkey y)=true:=cmpI_neg x.S y.S
theorem xh (x y:Vot):ordV x y=0↔vkey x=vkey y:=cmpI_zero x.S y.S
theorem zL (ρ:Operand->Value)(dst:Option Tmp)(x:Operand)(ty:TypeId)(pos:String)(after:Array Edge)(guard:Option (Nat×Bool)):
 execOp ρ {dst:=dst,op:=.load 62 x,type:=ty,pos:=pos,after:=after,guard:=guard}= loadOp 62 (ρ x):=by unfold loadOp;rfl
theorem zE {w:World} {g o:Nat} {x:Vot}(hx:sV.ok x) {q:Option Addr} {c:Nat}(h:w.rangeAt g o (vcells x q c)):(loadOp 62 (.pointer (some ⟨g,o,none⟩))).run Tryz.prog w= .ok (.value (.agg (vcells x q c).toArray)) w:=
 run_loadOp (run_loadAt_mid w g o 62 _ _ h Tryz.underlying62 rfl (by rw[zw];exact congrArg some (sV.len q c hx).symm))
attribute [local go_sem ↓] zL execOp_boxOV
theorem bs_V (l:List (Vot))(p:Option Addr)(n c:Nat)(w:World)(h:sV.Told w p n c l)(hup:Rise.Up vkey ilt l)(x:Vot)(q:Option Addr)(d:Nat)(hx:sV.ok x)(hn:n<=1000000000):
 Calls Tryz.prog 180 #[.slice p n c,.agg (vcells x q d).toArray,.func (.func 160) #[] #[]] w fun e w'=>
  e= .returned (.tuple #[.int .i64 (Rise.place vkey ilt (vkey x) l:Nat),.bool (Rise.found vkey ilt (vkey x) l)])/\Below w.heap.size w w':=by
 have bx:=run_boxOp (P:=Tryz.prog) (t:=62) (cs:=(vcells x q d).toArray) w
 have hb1:=(qB w.heap.size w).alloc (qD _) (.cells (vcells x q d).toArray 62)
 have hk1:Blk (w.alloc (.cells (vcells x q d).toArray 62)) w.heap.size (vcells x q d) 62:=Blk.new w _ 62
 obtain⟨w1,hw1⟩:∃v,v=w.alloc (.cells (vcells x q d).toArray 62):=⟨_,rfl⟩
 rw[<-hw1]at bx hb1 hk1
 obtain⟨g0,hg0⟩:∃g,g=w.heap.size:=⟨_,rfl⟩
 rw[<-hg0]at bx hk1
 obtain⟨pl,hpl⟩:∃k,k=Rise.place vkey ilt (vkey x) l:=⟨_,rfl⟩
 have hple:pl<=n:=by rw[hpl,h.len];exact Rise.place_le _ _
 have HPL:=xF hpl
 have HB1:=xF hb1
 have HK:=xF hk1
 have HT:=xF (h.below hb1)
 have HX:=xF hx
 have HUP:=xF hup
 have HN:=xF (show n=l.length from h.len)
 rw[<-hpl]
 obtain⟨fd,hfd⟩:∃f,f=Rise.found vkey ilt (vkey x) l:=⟨_,rfl⟩
 have HFD:=xF hfd
 rw[<-hfd]
 clear hfd hw1 hg0 hpl hb1 hk1 h hup hx
 go_enter Tryz.func180,Tryz.ntmps180
 go_wp2_with fail
 go_loopw [9,10] (fun i j wr=>∃a b:Nat,i= .int .i64 a/\j= .int .i64 b/\a<=pl/\pl<=b/\b<=n/\Hid (Below w1.heap.size w1 wr)) (fun i j _=>(intOf j).toNat - (intOf i).toNat)
 case atStart=>exact⟨0,n,rfl,rfl,by omega,hple,by omega,xF (qB _ _)⟩
 case round=>
  obtain⟨a,b,rfl,rfl,ha,hb,hbn,HBR⟩:=hrel
  by_cases hab:a < b
  ·obtain⟨m,hm⟩:∃m,m=(a+b) / 2:=⟨_,rfl⟩
   have hma:a<=m/\m < b:=by omega
   have hm2:((a:Int)+(b:Int)) / 2=(m:Int):=by omega
   have hml:m < l.length:=by rw[<-HN.out];omega
   obtain⟨b0,off,q2,c2,hp,hr,hgd⟩:=(HT.out.below HBR.out).rows.get m hml
   obtain⟨y,hy⟩:∃y,y=l[m]:=⟨_,rfl⟩
   have hlo:=fun h=>Rise.place_lt (key:=vkey) (lt:=ilt) (vkey x) l m hml (by rw[<-HPL.out];exact h)
   have hhi:=fun h=>Rise.place_ge ilt_ord (vkey x) l HUP.out m hml (by rw[<-HPL.out];exact h)
   rw[<-hy]at hr hgd hlo hhi
   subst hp
   have hr2:wr.rangeAt b0 (off+m*6) (vcells y q2 c2):=hr
   obtain⟨I,W,hC⟩:=cls_of wr
   have hne:Nonempty I:=hC.ne
   have lM:=fun n=>zE hgd.ok (range_below hr2 (hC.back n))
   have lX:=fun n=>zE HX.out ((HK.out.below HBR.out HK.out.lt).below (hC.back n) (HK.out.below HBR.out HK.out.lt).lt).range
   have QS:=xF (hC.call (P:=Tryz.prog) (f:=160) (args:=#[.agg (vcells y q2 c2).toArray,.agg (vcells x q d).toArray]) (v:=.int .i64 (ordV y x)) (fun w' hb=>yX y x q2 q c2 d w' hgd.ok HX.out))
   have hjn:(0:Int)<=(m:Int)/\(m:Int) < (n:Int):=by omega
   have HC:=xF hC
   have HDN:=xF (xg y x)
   generalize hod:ordV y x=od at *
   clear hod hr hr2 hgd hy hml hm hC
   by_cases hpm:m < pl
   ·have t1:decide (od < 0)=true:=by rw[decide_eq_true_iff];exact HDN.out.2 (hlo hpm)
    clear hlo hhi HDN
    go_wp2_with fail
    refine wp_region_cls W (by kernel_rfl) (by kernel_rfl) HC.out.one ?_
    repeat go_big_quiet_step ((go_at_call 160;exact QS.out _))
    refine wpQuiet_nil ?_
    rintro _ ⟨nq,rfl⟩
    have HB2:=xF (HBR.out.trans ((HC.out.back nq).mono HBR.out.size))
    clear lM lX QS hm2
    go_wp2_with fail
    go_roundw
    case rel=>exact⟨m+1,b,by go_num,rfl,by omega,hb,hbn,HB2⟩
    case measure=>simp[intOf];omega
   ·have t1:decide (od < 0)=false:=by
     rw[decide_eq_false_iff_not]
     intro h
     have h2:=HDN.out.1 h
     rw[hhi (by omega)]at h2;cases h2
    clear hlo hhi HDN
    go_wp2_with fail
    refine wp_region_cls W (by kernel_rfl) (by kernel_rfl) HC.out.one ?_
    repeat go_big_quiet_step ((go_at_call 160;exact QS.out _))
    refine wpQuiet_nil ?_
    rintro _ ⟨nq,rfl⟩
    have HB2:=xF (HBR.out.trans ((HC.out.back nq).mono HBR.out.size))
    clear lM lX QS hm2
    go_wp2_with fail
    go_roundw
    case rel=>exact⟨a,m,rfl,rfl,ha,by omega,by omega,HB2⟩
    case measure=>simp[intOf];omega
  ·obtain rfl:a=pl:=by omega
   obtain rfl:b=a:=by omega
   by_cases hbl:b < n
   ·have hml:b < l.length:=by rw[<-HN.out];omega
    obtain⟨b0,off,q2,c2,hp,hr,hgd⟩:=(HT.out.below HBR.out).rows.get b hml
    have hfi:fd=true↔vkey l[b] = vkey x:=by
     have h2:=Rise.found_iff (key:=vkey) (lt:=ilt) (vkey x) l
     rw[<-HFD.out]at h2
     rw[h2]
     have h3:=HPL.out
     constructor
     ·rintro⟨_,h⟩;simpa only[<-h3]using h
     ·intro h;exact⟨by rw[<-h3];exact hml,by simpa only[<-h3]using h⟩
    obtain⟨y,hy⟩:∃y,y=l[b]:=⟨_,rfl⟩
    rw[<-hy]at hr hgd hfi
    subst hp
    have hr2:wr.rangeAt b0 (off+b*6) (vcells y q2 c2):=hr
    obtain⟨I,W,hC⟩:=cls_of wr
    have hne:Nonempty I:=hC.ne
    have lM:=fun n=>zE hgd.ok (range_below hr2 (hC.back n))
    have lX:=fun n=>zE HX.out ((HK.out.below HBR.out HK.out.lt).below (hC.back n) (HK.out.below HBR.out HK.out.lt).lt).range
    have QS:=xF (hC.call (P:=Tryz.prog) (f:=160) (args:=#[.agg (vcells y q2 c2).toArray,.agg (vcells x q d).toArray]) (v:=.int .i64 (ordV y x)) (fun w' hb=>yX y x q2 q c2 d w' hgd.ok HX.out))
    have hjn:(0:Int)<=(b:Int)/\(b:Int) < (n:Int):=by omega
    have HC:=xF hC
    have hdz:=xh y x
    have t1:(ordV y x == 0)=fd:=by
     rw[Bool.eq_iff_iff,beq_iff_eq,hdz];exact hfi.symm
    have tg:decide ((b:Int) < (n:Int))=true:=by simpa using hbl
    generalize ordV y x=od at *
    clear hdz hr hr2 hgd hy hml hC hfi
    go_wp2_with fail
    refine wp_region_cls W (by kernel_rfl) (by kernel_rfl) HC.out.one ?_
    repeat go_big_quiet_step ((go_at_call 160;exact QS.out _))
    refine wpQuiet_nil ?_
    rintro _ ⟨nq,rfl⟩
    have HB2:=xF (HB1.out.trans ((HBR.out.trans ((HC.out.back nq).mono HBR.out.size)).mono HB1.out.size))
    clear lM lX QS
    go_wp2_with fail
    go_ret2
    exact⟨rfl,HB2.out⟩
   ·have hf2:fd=false:=by
     rw[Bool.eq_false_iff]
     intro h
     rw[HFD.out,Rise.found_iff]at h
     obtain⟨h2,_⟩:=h
     rw[<-HPL.out,<-HN.out]at h2
     exact hbl h2
    subst hf2
    have tg:decide ((b:Int) < (n:Int))=false:=by simpa using hbl
    obtain⟨I,W,hC⟩:=cls_of wr
    have hne:Nonempty I:=hC.ne
    have HC:=xF hC
    clear hC
    go_wp2_with fail
    refine wp_region_cls W (by kernel_rfl) (by kernel_rfl) HC.out.one ?_
    repeat go_big_quiet_step (fail)
    refine wpQuiet_nil ?_
    rintro _ ⟨nq,rfl⟩
    have HB2:=xF (HB1.out.trans ((HBR.out.trans ((HC.out.back nq).mono HBR.out.size)).mono HB1.out.size))
    go_wp2_with fail
    go_ret2
    exact⟨rfl,HB2.out⟩
end
section
open Go.RowKit Sha Fct
theorem YI:(Tryz.prog.info? 62).map (fun i=>(i.zero,i.size))=some (some (.agg (vcells ⟨0,0,0,0,0,[]⟩ none 0).toArray),6):=by unfold vcells;kernel_rfl
theorem Zd (ρ:Operand->Value)(dst:Option Tmp)(len:Nat)(parts:Array (Nat×Operand))(ty:TypeId)(pos:String)(after:Array Edge)(guard:Option (Nat×Bool)):
 execOp ρ {dst:=dst,op:=.buildSlice 44 len parts,type:=ty,pos:=pos,after:=after,guard:=guard}= buildOp 44 len (parts.map fun(i,x)=>(i,ρ x)):=by unfold buildOp;rfl
theorem yY (w:World) {x:Vot}(hx:sV.ok x)(q:Option Addr)(c:Nat):(buildOp 44 1 #[(0,.agg (vcells x q c).toArray)]).run Tryz.prog w= .ok (.value (.slice (some ⟨w.heap.size,0,none⟩) 1 1)) (w.alloc (.cells (vcells x q c).toArray 62)):=by
 have hl:(vcells x q c).length=6:=sV.len q c hx
 have:=run_build_items (P:=Tryz.prog) w 44 62 6 _ (by omega) Tryz.underlying44 YI [vcells x q c] (by intro d hd;simp at hd;subst hd;exact hl) (by simp)
 exact run_buildOp (by simpa using this)
theorem t8_V:(5:TypeId)≠62:=by decide
def PlcV (w:World)(B:Nat)(v:Value)(l:List (Vot))(x:Vot)(e:Ending)(w':World):Prop:=
 ∃v' zs,e= .returned (.tuple #[v',.int .i64 (Rise.place vkey ilt (vkey x) l:Nat)])/\Rws sV 62 w' B v' zs/\zs.map (·.1)=Rise.add vkey ilt x l/\w.grownBy w' v.ownBlock/\RowTy w v.ownBlock 62/\(∀g,v'.ownBlock=some g->v.ownBlock=some g\/w.heap.size<=g)
attribute [local go_sem ↓] zL execOp_boxOV Zd
theorem YJ (w:World)(B:Nat)(v:Value)(ys:List (Hd (Vot)))(h:Rws sV 62 w B v ys)(hup:Rise.Up vkey ilt (ys.map (·.1)))(x:Vot)(q:Option Addr)(d:Nat)(hx:sV.Good w x q d)(hu:U8 w q (sV.byt x))(hn:ys.length<=1000000000)(hB:B<=w.heap.size):
 Calls Tryz.prog 159 #[v,.agg (vcells x q d).toArray,.func (.func 160) #[] #[]] w (PlcV w B v (ys.map (·.1)) x):=by
 obtain⟨p,c,rfl,ht⟩:=h.told
 obtain⟨n,hnl⟩:∃n,n=ys.length:=⟨_,rfl⟩
 rw[<-hnl]at ht hn
 have bx:=run_boxOp (P:=Tryz.prog) (t:=62) (cs:=(vcells x q d).toArray) w
 have hb1:=(qB w.heap.size w).alloc (qD _) (.cells (vcells x q d).toArray 62)
 have hk1:Blk (w.alloc (.cells (vcells x q d).toArray 62)) w.heap.size (vcells x q d) 62:=Blk.new w _ 62
 obtain⟨w1,hw1⟩:∃v,v=w.alloc (.cells (vcells x q d).toArray 62):=⟨_,rfl⟩
 rw[<-hw1]at bx hb1 hk1
 obtain⟨g0,hg0⟩:∃g,g=w.heap.size:=⟨_,rfl⟩
 rw[<-hg0]at bx hk1
 have HBS:=xF (bs_V (ys.map (·.1)) p n c w1 (ht.below hb1) hup x q d hx.ok hn)
 obtain⟨l,hl⟩:∃l,l=ys.map (·.1):=⟨_,rfl⟩
 rw[<-hl]at HBS hup ht ⊢
 obtain⟨pl,hpl⟩:∃k,k=Rise.place vkey ilt (vkey x) l:=⟨_,rfl⟩
 have hple:pl<=n:=by rw[hpl,ht.len];exact Rise.place_le _ _
 have HPL:=xF hpl
 have HL:=xF hl
 have HNL:=xF hnl
 have HB1:=xF hb1
 have HK:=xF hk1
 have HR:=xF h
 have HX:=xF hx
 have HU:=xF hu
 rw[<-hpl]at HBS
 rw[<-hnl]
 clear hw1 hg0 hpl hl hnl hb1 hk1 h hup hx hu ht
 cases hf:Rise.found vkey ilt (vkey x) l with
 | true=>
    rw[hf]at HBS
    have HQ:=xF (Rise.add_found (x:=x) hf)
    clear hf
    have l1:=zE HX.out.ok HK.out.range
    go_enter Tryz.func159,Tryz.ntmps159
    go_wp2_with fail
    refine HBS.out.mono ?_
    rintro e w2 ⟨rfl,hb2⟩
    have HB2:=xF (HB1.out.trans (hb2.mono HB1.out.size))
    clear hb2
    go_wp2_with fail
    go_ret2
    refine⟨.slice p n c,ys,by rw[<-HPL.out];rfl,?_,by rw[HQ.out,HL.out],⟨HB2.out.os,HB2.out.tape,HB2.out.output,HB2.out.size,fun k hk _=>HB2.out.block k hk⟩,?_,fun g hg=>Or.inl hg⟩
    ·have h2:=HR.out.below HB2.out
     rw[HNL.out];exact h2
    ·have h2:=RowTy.of HR.out.own
     rw[HNL.out];exact h2
 | false=>
    rw[hf]at HBS
    have HQ:=xF (Rise.add_new (x:=x) hf)
    clear hf
    have l1:=zE HX.out.ok HK.out.range
    go_enter Tryz.func159,Tryz.ntmps159
    go_wp2_with fail
    refine HBS.out.mono ?_
    rintro e w2 ⟨rfl,hb2⟩
    have HB2:=xF (HB1.out.trans (hb2.mono HB1.out.size))
    have HK2:=xF (HK.out.below hb2 HK.out.lt)
    have HR2:=xF (HR.out.below HB2.out)
    have lx:=zE HX.out.ok HK2.out.range
    have bi:=yY w2 HX.out.ok q d
    have hb3:=HB2.out.alloc HB2.out.size (.cells (vcells x q d).toArray 62)
    have hb23:=(qB w2.heap.size w2).alloc (qD _) (.cells (vcells x q d).toArray 62)
    have hk3:Blk (w2.alloc (.cells (vcells x q d).toArray 62)) w2.heap.size (vcells x q d) 62:=Blk.new w2 _ 62
    have hr3:=HR2.out.below hb23
    have hlt3:=fun k hk=>(HR2.out.own.lt k hk).2
    obtain⟨pb,hpb⟩:∃g,g=w2.heap.size:=⟨_,rfl⟩
    rw[<-hpb]at bi hk3
    have HNE:=xF (show(Value.slice p n c).ownBlock≠some pb from fun e=>by
     have h2:=hlt3 pb (by rw[<-HNL.out];exact e)
     omega)
    generalize w2.alloc (.cells (vcells x q d).toArray 62)=w3 at *
    have HIN:=xF (ins_V w3 B (.slice p n c) n (ys.flatMap sV.row) (by have h2:=hr3.own;rw[<-HNL.out]at h2;exact h2) (Shp.flat_one ys) pl hple pb (vcells x q d) (sV.len q d HX.out.ok) (sV.one x q d) hk3 HNE.out hn (Nat.le_trans hB hb3.size))
    have HB3:=xF hb3
    have HR3:=xF hr3
    clear hb2 hb23 hk3 hr3 hlt3 hpb hb3 HBS
    go_wp2_with fail
    refine HIN.out.mono ?_
    rintro e w4 ⟨v4,rfl,ho4,hg4,ha4⟩
    have HO4:=xF ho4
    have HG4:=xF hg4
    have HA4:=xF ha4
    clear ho4 hg4 ha4
    go_wp2_with fail
    go_ret2
    have hfl:(ys.flatMap sV.row).take (pl*6)++vcells x q d++(ys.flatMap sV.row).drop (pl*6)=(ys.take pl++(x,q,d)::ys.drop pl).flatMap sV.row:=by
     have h1:=flat_takeS (S:=sV) ys HR.out.ok pl
     have h2:=flat_dropS (S:=sV) ys HR.out.ok pl
     rw[List.flatMap_append,List.flatMap_cons,<-h1,<-h2,List.append_assoc];rfl
    have hty:RowTy w3 (Value.slice p n c).ownBlock 62:=by have h2:=RowTy.of HR3.out.own;rw[<-HNL.out]at h2;exact h2
    have hll:(ys.take pl++(x,q,d)::ys.drop pl).length=n+1:=by
     rw[qC,List.length_cons,List.length_take,List.length_drop,<-HNL.out];omega
    refine⟨v4,ys.take pl++(x,q,d)::ys.drop pl,by rw[<-HPL.out];rfl,⟨?_,?_⟩,?_,?_,?_,?_⟩
    ·rw[hll,<-hfl];exact HO4.out
    ·intro y hy
     have hold:∀y∈ys,sV.Good w4 y.1 y.2.1 y.2.2/\U8 w4 y.2.1 (sV.byt y.1):=fun y hy=>
      ⟨good_grown (HR3.out.good y hy).1 (HR3.out.good y hy).2 HG4.out hty t8_V,u8_grown (HR3.out.good y hy).2 HG4.out hty t8_V⟩
     rcases List.mem_append.1 hy with hy | hy
     ·exact hold y (List.mem_of_mem_take hy)
     ·rcases List.mem_cons.1 hy with rfl | hy
      ·exact⟨good_grown (HX.out.below HB3.out) (HU.out.below HB3.out) HG4.out hty t8_V,u8_grown (HU.out.below HB3.out) HG4.out hty t8_V⟩
      ·exact hold y (List.mem_of_mem_drop hy)
    ·rw[HQ.out,<-HPL.out,HL.out];simp
    ·exact⟨HG4.out.os.trans HB3.out.os,HG4.out.tape.trans HB3.out.tape,HG4.out.output.trans HB3.out.output,Nat.le_trans HB3.out.size HG4.out.size,fun k hk hne=>(HG4.out.block k (Nat.lt_of_lt_of_le hk HB3.out.size) hne).trans (HB3.out.block k hk)⟩
    ·have h2:=RowTy.of HR.out.own
     rw[<-HNL.out]at h2;exact h2
    ·intro g hg
     rcases HA4.out g hg with h2 | h2
     ·exact Or.inl h2
     ·exact Or.inr (Nat.le_trans HB3.out.size h2)
end
section
open Go.RowKit Sha Fct
theorem Z0:(Tryz.prog.info? 73).map (fun i=>(i.zero,i.size,i.bytes))=some (some (.agg (dcells9 (0,[]) none 0).toArray),2,32):=by unfold dcells9;kernel_rfl
theorem zx:(Tryz.prog.info? 73).map (fun i=>i.size)=some 2:=by
 have h:=Z0
 cases hq:Tryz.prog.info? 73 with
 | none=>rw[hq]at h;cases h
 | some i=>rw[hq]at h;simp at h;simp[h.2.1]
theorem xi:(dcells9 (0,[]) none 0).length=2:=by unfold dcells9;simp[Fld.zero32]
theorem yj:(Value.agg (dcells9 (0,[]) none 0).toArray).cells.size=2:=by simp only[Value.cells,List.size_toArray];exact xi
theorem Zp (ρ:Operand->Value)(dst:Option Tmp)(x:Operand)(lo hi:Option Operand)(ty:TypeId)(pos:String)(after:Array Edge)(guard:Option (Nat×Bool)):
 execOp ρ {dst:=dst,op:=.slice 45 x lo hi none,type:=ty,pos:=pos,after:=after,guard:=guard}= sliceOp 45 (ρ x) (lo.map ρ) (hi.map ρ):=by unfold sliceOp;rfl
def InsD (w:World)(B:Nat)(v:Value)(n:Nat)(xs:List Value)(e:Ending)(w':World):Prop:=
 ∃v',e= .returned v'/\w'.ownsRow B 73 2 v' n xs/\w.grownBy w' v.ownBlock/\(∀g,v'.ownBlock=some g->v.ownBlock=some g\/w.heap.size<=g)
attribute [local go_sem ↓] Zp
theorem zP (p:Option Addr)(len cap k:Nat)(hk:k<=len)(hc:len<=cap)(w:World):(sliceOp 45 (.slice p len cap) (some (.int .i64 k)) none).run Tryz.prog w= .ok (.value (.slice (if cap=k then p else p.map (·.add (k*2))) (len - k) (cap - k))) w:=
 run_sliceOp (run_cutS_l Tryz.underlying45 zx p len cap k hk hc w)
theorem yZ (p:Option Addr)(len cap k:Nat)(hk:k<=cap)(w:World):(sliceOp 45 (.slice p len cap) none (some (.int .i64 k))).run Tryz.prog w= .ok (.value (.slice p k cap)) w:=
 run_sliceOp (run_cutS_h Tryz.underlying45 zx p len cap k hk w)
theorem y6 (w:World)(B:Nat)(v:Value)(n:Nat)(xs:List Value)(ho:w.ownsRow B 73 2 v n xs)(pb:Nat)(c:List Value)(hc:c.length=2)(h1:∀u∈c,u.oneCell'=true)(hb:Blk w pb c 73)(hn:n<=1000000000)(hB:B<=w.heap.size):
 Calls Tryz.prog 162 #[v,.int .i64 n,.slice (some ⟨pb,0,none⟩) 1 1] w (InsD w B v (n+1) (xs++c)):=by
 obtain⟨p,cap,rfl,hle,hmx,hA,hB2,hnil⟩:=own_at_s ho
 have k1:=zP p n cap n (qD _) hle w
 generalize(if cap=n then p else p.map (·.add (n*2)))=p1 at *
 have HO:=xF ho
 have hA1:=xF (show At w (some ⟨pb,0,none⟩) c from At.ofBlk (rest:=[]) (by simpa using hb))
 have HC:=xF hc
 have H1:=xF h1
 clear ho hc h1 hb hA hB2 hnil
 unfold maxLen at hmx
 go_enter Tryz.func162,Tryz.ntmps162
 go_wp2_with (at_builtin;refine wpList_app_s rfl (.tmp 23) (.tmp 24) 45 rfl B 73 (size:=2) (by omega) Tryz.underlying45 Z0 yj _ n xs rfl HO.out (some ⟨pb,0,none⟩) 1 1 c rfl hA1.out (by rw[HC.out]) (fun h=>by cases h) (qD _) H1.out (by omega) (by unfold maxLen;omega) hB ?_;intro v7 w7 hown7 hg7 hat7;have O7:=xF hown7;have G7:=xF hg7;have A7:=xF hat7;clear hown7 hg7 hat7)
 go_ret
 exact⟨v7,rfl,O7.out,G7.out,A7.out⟩
theorem xj (w:World)(pb g o lb cb:Nat) {c cs:List Value} {tp tg:TypeId}(hp:Blk w pb c tp)(hg:Blk w g cs tg)(hne:pb≠g)(hcs:cs≠[]):
 (callFunc 182 #[.slice (some ⟨pb,0,none⟩) 1 1,.slice (some ⟨g,o,none⟩) lb cb]).run Tryz.prog w= .ok (.value (.bool false)) w:=by
 have hsz:=zx
 rw[run_callFunc_extern Tryz.func182 (by kernel_rfl) (by kernel_rfl) (by kernel_rfl) (e:=Extern.SlicesOverlaps.overlaps #[45,45] #[4]) (by kernel_rfl),
  Lib.run_overlaps_apart w 45 4 73 Tryz.underlying45 2 (size_ofS zx) ⟨pb,0,none⟩ ⟨g,o,none⟩ 1 1 lb cb hne tp tg c.length cs.length (by unfold World.shape?;rw[hp];rfl) (by unfold World.shape?;rw[hg];rfl) (by simpa using hcs) (hp.free 0) (hp.free _)]
 rfl
theorem YK (w:World)(B g n cap i:Nat)(A D R:List Value)(hA:A.length=i*2)(hD:D.length=(n - i)*2)(hR:R.length=(cap - n)*2)(hi:i < n)(hcap:n+1<=cap)(hm:cap<=maxLen)(hBg:B<=g)(hg:Blk w g (A++D++R) 73)
 (hAD1:∀u∈A++D,u.oneCell'=true) (pb:Nat) (c:List Value) (hc:c.length=2) (h1:∀u∈c,u.oneCell'=true) (hb:Blk w pb c 73) (hne:pb≠g):
 Calls Tryz.prog 162 #[.slice (some ⟨g,0,none⟩) n cap,.int .i64 i,.slice (some ⟨pb,0,none⟩) 1 1] w (InsD w B (.slice (some ⟨g,0,none⟩) n cap) (n+1) (A++c++D)):=by
 unfold maxLen at hm
 have hDR:(D++R).length=(cap - i)*2:=by rw[qC,hD,hR,<-Nat.add_mul];congr 1;omega
 -- the room is parted
 have hL1:((D++R).take 2).length=2:=by rw[List.length_take,hDR];have:1*2<=(cap - i)*2:=Nat.mul_le_mul_right _ (by omega);omega
 have hL2:(((D++R).drop 2).take D.length).length=D.length:=by
  rw[List.length_take,List.length_drop,hDR,hD]
  have:(n - i)*2+1*2<=(cap - i)*2:=by rw[<-Nat.add_mul];exact Nat.mul_le_mul_right _ (by omega)
  omega
 have hparts:A++D++R=(A++(D++R).take 2)++((D++R).drop 2).take D.length++((D++R).drop 2).drop D.length:=by
  rw[List.append_assoc (A++_),List.take_append_drop,List.append_assoc A ((D++R).take _),List.take_append_drop,List.append_assoc]
 generalize(D++R).take 2=L1 at *
 generalize((D++R).drop 2).take D.length=L2 at *
 generalize((D++R).drop 2).drop D.length=L3 at *
 have hgd:Blk w.drew g (A++D++R) 73:=hg
 have hgp:=hgd
 rw[hparts]at hgp
 have hg2:Blk (w.drew.setCells g ((i+1)*2) D) g ((A++L1)++D++L3) 73:=Blk.setCells D _ _ _ _ _ hgp (by rw[qC,hA,hL1,Nat.add_mul,Nat.one_mul]) hL2
 have hg2':Blk (w.drew.setCells g ((i+1)*2) D) g (A++L1++(D++L3)) 73:=by rw[<-List.append_assoc];exact hg2
 have hg3:Blk ((w.drew.setCells g ((i+1)*2) D).setCells g (i*2) c) g (A++c++(D++L3)) 73:=Blk.setCells c _ _ _ _ _ hg2' hA (by rw[hL1,hc])
 have hpb2:Blk (w.drew.setCells g ((i+1)*2) D) pb c 73:=by
  unfold Blk;rw[setCells_heap g D _ w.drew pb hne];exact hb
 have hlen2:((A++L1)++D++L3).length=(A++D++R).length:=by rw[hparts];simp[hL2]
 have hlenW:(A++D++R).length=cap*2:=by
  rw[List.append_assoc,qC,hA,hDR,<-Nat.add_mul];congr 1;omega
 have cp1:=run_copyS (P:=Tryz.prog) w.drew Tryz.underlying45 zx g ((i+1)*2) (n+1 - (i+1)) (cap - (i+1)) ⟨g,i*2,none⟩ (n+1 - i) (cap - i) (n - i) D (by simp only[Nat.min_def];split<;>omega) hD (cells_in hgd hA)
  (hgd.there _ _ (by rw[hlenW,hD,<-Nat.add_mul];exact Nat.mul_le_mul_right _ (by omega))) (fun u hu=>hAD1 u (List.mem_append_right _ hu))
 have cp2:=run_copyS (P:=Tryz.prog) (w.drew.setCells g ((i+1)*2) D) Tryz.underlying45 zx g (i*2) (n+1 - i) (cap - i) ⟨pb,0,none⟩ 1 1 1 c (by simp only[Nat.min_def];split<;>omega) (by rw[hc,Nat.one_mul]) (cells_in (pre:=[]) (post:=[]) (by simpa using hpb2) rfl)
  (hg2.there _ _ (by rw[hlen2,hlenW,hc,<-Nat.succ_mul];exact Nat.mul_le_mul_right _ (by omega))) h1
 have k0:=zP (some ⟨g,0,none⟩) n cap i (by omega) (by omega) w
 have k1:∀W,(sliceOp 45 (.slice (some ⟨g,0,none⟩) n cap) none (some (.int .i64 ((n:Int)+1)))).run Tryz.prog W= .ok (.value (.slice (some ⟨g,0,none⟩) (n+1) cap)) W:=fun W=>yZ (some ⟨g,0,none⟩) n cap (n+1) hcap W
 have k2:∀W,(sliceOp 45 (.slice (some ⟨g,0,none⟩) (n+1) cap) (some (.int .i64 ((i:Int)+1))) none).run Tryz.prog W= .ok (.value (.slice (some ⟨g,(i+1)*2,none⟩) (n+1 - (i+1)) (cap - (i+1)))) W:=fun W=>by
  have h:=zP (some ⟨g,0,none⟩) (n+1) cap (i+1) (by omega) hcap W
  rw[if_neg (by omega)]at h
  simpa[Addr.add_mid]using h
 have k3:∀W,(sliceOp 45 (.slice (some ⟨g,0,none⟩) (n+1) cap) (some (.int .i64 (i:Int))) none).run Tryz.prog W= .ok (.value (.slice (some ⟨g,i*2,none⟩) (n+1 - i) (cap - i))) W:=fun W=>by
  have h:=zP (some ⟨g,0,none⟩) (n+1) cap i (by omega) hcap W
  rw[if_neg (by omega)]at h
  simpa[Addr.add_mid]using h
 have hov:=xj w pb g ((i+1)*2) (n+1 - (i+1)) (cap - (i+1)) hb hg hne (by
  intro h0;rw[h0]at hlenW
  have:1*2<=cap*2:=Nat.mul_le_mul_right _ (by omega)
  simp at hlenW;omega)
 generalize(if cap=i then(some (⟨g,0,none⟩:Addr))else(some (⟨g,0,none⟩:Addr)).map (·.add (i*2)))=p0 at *
 have hwr1:IntKind.i64.wrap ((i:Int)+1)=(i:Int)+1:=by rw[IntKind.wrap_i64];omega
 have hni:((i:Int) == (n:Int))=false:=by rw[beq_eq_false_iff_ne];omega
 have hroom:decide ((cap:Int) < (n:Int)+1)=false:=by rw[decide_eq_false_iff_not];omega
 have hgr:w.grownBy ((w.drew.setCells g ((i+1)*2) D).setCells g (i*2) c) (some g):=by
  have h2:=setCells_below (a:=w.drew) (B:=g) (qD _) D ((i+1)*2) w.drew (qB _ _)
  have h3:=setCells_below (a:=w.drew) (B:=g) (qD _) c (i*2) _ h2
  exact⟨h3.os,h3.tape,h3.output,h3.size,fun k hk hn=>by
   have hkg:k≠g:=fun e=>hn (by rw[e])
   rw[setCells_heap g c _ _ k hkg,setCells_heap g D _ _ k hkg];rfl⟩
 have hown:=own_ofBlk (B:=B) (n:=n+1) (s:=2) (cap:=cap) (xs:=A++c++D) (rest:=L3) hBg (by rw[List.append_assoc (A++c)];exact hg3) hcap (by unfold maxLen;exact hm)
  (by rw[qC,qC,hA,hc,hD,<-Nat.succ_mul,<-Nat.add_mul];congr 1;omega)
  (by rw[<-hlenW,<-hlen2];simp[hL1,hc]<;>omega)
 have HG:=xF hgr
 have HO:=xF hown
 clear hgr hown hg3 hg2 hg2' hgp hgd hg hpb2 hb hparts hlen2 hlenW hL1 hL2 hDR hR hD hA hAD1 h1 hc hne
 generalize w.drew.setCells g ((i+1)*2) D=w1 at *
 generalize w1.setCells g (i*2) c=w2 at *
 generalize n+1 - (i+1)=l2 at *
 generalize cap - (i+1)=c2 at *
 generalize n+1 - i=l3 at *
 generalize cap - i=c3 at *
 go_enter Tryz.func162,Tryz.ntmps162
 go_wp2_with (simp only[hov])
 go_region_law (refine copy_step rfl (.tmp 73) (.tmp 76) 45 45 rfl _ _ (by simp[Act.eval,Act.put]) (by simp[Act.eval,Act.put]) (cp1 _) ?_)
 all_goals
  go_wp2_with (at_builtin;refine copy_law _ rfl (.tmp 80) (.tmp 81) 45 45 rfl _ _ rfl rfl (cp2 _) ?_)
  go_ret
  exact⟨_,rfl,HO.out,HG.out,fun k hk=>Or.inl hk⟩
theorem yp (w:World)(B g n cap i:Nat)(A D R:List Value)(hA:A.length=i*2)(hD:D.length=(n - i)*2)(hi:i < n)(hn:n<=1000000000)(hle:n<=cap)(hcap:cap < n+1)(hg:Blk w g (A++D++R) 73)
 (hAD1:∀u∈A++D,u.oneCell'=true) (pb:Nat) (c:List Value) (hc:c.length=2) (h1:∀u∈c,u.oneCell'=true) (hb:Blk w pb c 73) (hB:B<=w.heap.size):
 Calls Tryz.prog 162 #[.slice (some ⟨g,0,none⟩) n cap,.int .i64 i,.slice (some ⟨pb,0,none⟩) 1 1] w (InsD w B (.slice (some ⟨g,0,none⟩) n cap) (n+1) (A++c++D)):=by
 obtain⟨i0,hi0,hz0,hz1,hz2⟩:=info_parts Z0
 obtain⟨G,hG⟩:∃G,G=grownCap w (n+1) cap 73:=⟨_,rfl⟩
 obtain⟨N,hN⟩:∃N,N=w.heap.size:=⟨_,rfl⟩
 obtain⟨zz,hzz⟩:∃zz:Value,zz= .agg (dcells9 (0,[]) none 0).toArray:=⟨_,rfl⟩
 rw[<-hzz]at hz0
 have hzs:zz.cells.size=2:=by rw[hzz];exact yj
 have hGn:n+1<=G:=by rw[hG];exact grownCap_ge w _ _ _
 have hGm:G<=maxLen:=by rw[hG];exact grownCap_le_maxLen w (n+1) cap 73 (by unfold maxLen;omega)
 have hap:∀ty,(Builtin.append_ #[45,3] ty #[.slice (some ⟨g,0,none⟩) i cap,.int .i64 ((n:Int)+1 - (i:Int))]).run Tryz.prog w =
  .ok (.slice (some ⟨N,0,none⟩) (n+1) G) (w.drew.alloc (.cells (A.toArray++Builtin.zeroCells zz.cells (n+1 - i)++Builtin.zeroCells zz.cells (G - (n+1))) 73)):=fun ty=>by
  have h:=Lib.run_append_grow_zeros (P:=Tryz.prog) w 45 3 ty 73 i0 zz .i64 .i64 Tryz.underlying45 Tryz.underlying3 hi0 hz0 (some ⟨g,0,none⟩) i cap A
   (by rw[hz1];exact run_firstCells_some w.drew 2 i ⟨g,0,none⟩ i cap A hA (cells_in (w:=w.drew) (pre:=[]) (post:=D++R) (by have h9:Blk w.drew g (A++D++R) 73:=hg;simpa using h9) rfl))
   (n+1 - i) (by omega) (by rw[hz1];omega) (by omega) (by omega) (by rw[hz2];omega) (by rw[hz2];exact growslice_fits (by omega) (by omega))
  rw[show i+(n+1 - i)=n+1 by omega]at h
  rw[show(n:Int)+1 - (i:Int)=((n+1 - i:Nat):Int) by omega,hG,hN]
  exact h
 obtain⟨Z1,hZ1⟩:∃Z1,Z1=(Builtin.zeroCells zz.cells (n+1 - i)).toList:=⟨_,rfl⟩
 obtain⟨Z2,hZ2⟩:∃Z2,Z2=(Builtin.zeroCells zz.cells (G - (n+1))).toList:=⟨_,rfl⟩
 have lZ1:Z1.length=(n+1 - i)*2:=by rw[hZ1,Array.length_toList,size_zeroCells,hzs]
 have lZ2:Z2.length=(G - (n+1))*2:=by rw[hZ2,Array.length_toList,size_zeroCells,hzs]
 have hrow:A.toArray++Builtin.zeroCells zz.cells (n+1 - i)++Builtin.zeroCells zz.cells (G - (n+1))=(A++Z1++Z2).toArray:=by
  rw[hZ1,hZ2];simp
 rw[hrow]at hap
 have b1:Blk (w.drew.alloc (.cells (A++Z1++Z2).toArray 73)) N (A++Z1++Z2) 73:=by rw[hN];exact Blk.new w.drew _ 73
 have g1:Blk (w.drew.alloc (.cells (A++Z1++Z2).toArray 73)) g (A++D++R) 73:=Blk.old (w:=w.drew) hg _
 have p1:Blk (w.drew.alloc (.cells (A++Z1++Z2).toArray 73)) pb c 73:=Blk.old (w:=w.drew) hb _
 have hgN:g≠N:=by have:=hg.lt;omega
 have hpN:pb≠N:=by have:=hb.lt;omega
 have hbw1:Below w.heap.size w (w.drew.alloc (.cells (A++Z1++Z2).toArray 73)):=(qB _ w).drew.alloc (qD _) _
 generalize w.drew.alloc (.cells (A++Z1++Z2).toArray 73)=w1 at *
 have l1:(Z1.take 2).length=2:=by rw[List.length_take,lZ1];have:1*2<=(n+1 - i)*2:=Nat.mul_le_mul_right _ (by omega);omega
 have l2:(Z1.drop 2).length=D.length:=by
  rw[List.length_drop,lZ1,hD,show n+1 - i=(n - i)+1 by omega,Nat.succ_mul,Nat.add_sub_cancel]
 have b1':Blk w1 N (A++Z1.take 2++(Z1.drop 2++Z2)) 73:=by
  rw[List.append_assoc A,<-List.append_assoc (Z1.take _),List.take_append_drop,<-List.append_assoc];exact b1
 have b2:Blk (w1.setCells N (i*2) c) N (A++c++(Z1.drop 2++Z2)) 73:=Blk.setCells c _ _ _ _ _ b1' hA (by rw[l1,hc])
 have g2:Blk (w1.setCells N (i*2) c) g (A++D++R) 73:=by unfold Blk;rw[setCells_heap N c _ w1 g hgN];exact g1
 have lN:(A++Z1++Z2).length=G*2:=by
  rw[qC,qC,hA,lZ1,lZ2,<-Nat.add_mul,<-Nat.add_mul];congr 1;omega
 have lN2:(A++c++(Z1.drop 2++Z2)).length=G*2:=by
  rw[qC,qC,qC,hA,hc,l2,hD,lZ2,<-Nat.succ_mul,<-Nat.add_mul,<-Nat.add_mul];congr 1;omega
 have cp1:=run_copyS (P:=Tryz.prog) w1 Tryz.underlying45 zx N (i*2) (n+1 - i) (G - i) ⟨pb,0,none⟩ 1 1 1 c (by simp only[Nat.min_def];split<;>omega) (by rw[hc,Nat.one_mul]) (cells_in (pre:=[]) (post:=[]) (by simpa using p1) rfl)
  (b1.there _ _ (by rw[lN,hc,<-Nat.succ_mul];exact Nat.mul_le_mul_right _ (by omega))) h1
 have b2d:Blk (w1.setCells N (i*2) c).drew N (A++c++(Z1.drop 2++Z2)) 73:=b2
 have g2d:Blk (w1.setCells N (i*2) c).drew g (A++D++R) 73:=g2
 have cp2:=run_copyS (P:=Tryz.prog) (w1.setCells N (i*2) c).drew Tryz.underlying45 zx N ((i+1)*2) (n+1 - (i+1)) (G - (i+1)) ⟨g,i*2,none⟩ (n - i) (cap - i) (n - i) D (by simp only[Nat.min_def];split<;>omega) hD (cells_in g2d hA)
  (b2d.there _ _ (by rw[lN2,hD,<-Nat.add_mul];exact Nat.mul_le_mul_right _ (by omega))) (fun u hu=>hAD1 u (List.mem_append_right _ hu))
 have b3:Blk ((w1.setCells N (i*2) c).drew.setCells N ((i+1)*2) D) N ((A++c)++D++Z2) 73:=
  Blk.setCells D _ _ _ _ _ (by rw[<-List.append_assoc]at b2d;exact b2d) (by rw[qC,hA,hc,Nat.succ_mul]) l2
 have hown:=own_ofBlk (B:=B) (n:=n+1) (s:=2) (cap:=G) (xs:=A++c++D) (rest:=Z2) (by omega) b3 hGn hGm
  (by rw[qC,qC,hA,hc,hD,<-Nat.succ_mul,<-Nat.add_mul];congr 1;omega)
  (by rw[qC,qC,qC,hA,hc,hD,lZ2,<-Nat.succ_mul,<-Nat.add_mul,<-Nat.add_mul];congr 1;omega)
 have hgr:w.grownBy ((w1.setCells N (i*2) c).drew.setCells N ((i+1)*2) D) (some g):=by
  have h2:=setCells_below (a:=w) (B:=w.heap.size) (b:=N) (by omega) c (i*2) w1 hbw1
  have h3:=setCells_below (a:=w) (B:=w.heap.size) (b:=N) (by omega) D ((i+1)*2) _ h2.drew
  exact⟨h3.os,h3.tape,h3.output,h3.size,fun k hk _=>h3.block k hk⟩
 have k0:=zP (some ⟨g,0,none⟩) n cap i (by omega) (by omega)
 have hci:¬(cap=i):=by omega
 simp only[if_neg hci,Option.map_some,Addr.add_mid,Nat.zero_add]at k0
 have k1:=yZ (some ⟨g,0,none⟩) n cap i (by omega)
 have k2:=zP (some ⟨N,0,none⟩) (n+1) G i (by omega) hGn
 simp only[if_neg (show¬(G=i) by omega),Option.map_some,Addr.add_mid,Nat.zero_add]at k2
 have k3:∀W,(sliceOp 45 (.slice (some ⟨N,0,none⟩) (n+1) G) (some (.int .i64 ((i:Int)+1))) none).run Tryz.prog W= .ok (.value (.slice (some ⟨N,(i+1)*2,none⟩) (n+1 - (i+1)) (G - (i+1)))) W:=fun W=>by
  have h:=zP (some ⟨N,0,none⟩) (n+1) G (i+1) (by omega) hGn W
  rw[if_neg (by omega)]at h
  simpa[Addr.add_mid]using h
 have hwr1:IntKind.i64.wrap ((i:Int)+1)=(i:Int)+1:=by rw[IntKind.wrap_i64];omega
 have hni:((i:Int) == (n:Int))=false:=by rw[beq_eq_false_iff_ne];omega
 have hroom:decide ((cap:Int) < (n:Int)+1)=true:=by rw[decide_eq_true_iff];omega
 have HG:=xF hgr
 have HO:=xF hown
 have HNW:=xF hN
 have HNS:=xF (show w.heap.size<=N by omega)
 clear hgr hown b3 b2 b2d g2 g2d b1 b1' g1 p1 l1 l2 lZ1 lZ2 lN lN2 hgN hpN hrow hZ1 hZ2 hN hG hGm hzz hz0 hz1 hz2 hzs hi0 hbw1 hg hb hA hD hAD1 hc h1
 generalize w1.setCells N (i*2) c=w2 at *
 generalize w2.drew.setCells N ((i+1)*2) D=w3 at *
 generalize n+1 - (i+1)=l2 at *
 generalize G - (i+1)=c2 at *
 generalize n+1 - i=l3 at *
 generalize G - i=c3 at *
 generalize n - i=l4 at *
 generalize cap - i=c4 at *
 go_enter Tryz.func162,Tryz.ntmps162
 go_wp2_with (first | (at_builtin;refine Lib.wpList_append_run _ rfl (.tmp 34) (.tmp 39) _ _ rfl _ _ rfl rfl _ _ (hap _) ?_) | (refine copy_law _ rfl (.tmp 43) (.tmp 44) 45 45 rfl _ _ rfl rfl (cp1 _) ?_))
 go_region_law (refine copy_step rfl (.tmp 50) (.tmp 53) 45 45 rfl _ _ (by simp[Act.eval,Act.put]) (by simp[Act.eval,Act.put]) (cp2 _) ?_)
 all_goals
  go_wp2_with fail
  go_ret
  exact⟨_,rfl,HO.out,HG.out,fun k hk=>Or.inr (by cases hk;exact HNS.out)⟩
theorem ins_D (w:World)(B:Nat)(v:Value)(n:Nat)(xs:List Value)(ho:w.ownsRow B 73 2 v n xs)(hx1:∀u∈xs,u.oneCell'=true)(i:Nat)(hi:i<=n)(pb:Nat)(c:List Value)(hc:c.length=2)(h1:∀u∈c,u.oneCell'=true)(hb:Blk w pb c 73)(hne:v.ownBlock≠some pb)(hn:n<=1000000000)(hB:B<=w.heap.size):
 Calls Tryz.prog 162 #[v,.int .i64 i,.slice (some ⟨pb,0,none⟩) 1 1] w (InsD w B v (n+1) (xs.take (i*2)++c++xs.drop (i*2))):=by
 by_cases he:i=n
 ·subst he
  have hxl:=ho.1
  rw[List.take_of_length_le (by omega),List.drop_eq_nil_of_le (by omega),List.append_nil]
  exact y6 w B v i xs ho pb c hc h1 hb hn hB
 ·obtain⟨g,cap,rest,rfl,hg,hle,hm,hk,hl,hl2⟩:=own_whole ho (by omega)
  have hpg:pb≠g:=fun e=>hne (by rw[e];rfl)
  have hA:(xs.take (i*2)).length=i*2:=by rw[List.length_take,hl];have:i*2<=n*2:=Nat.mul_le_mul_right _ hi;omega
  have hD:(xs.drop (i*2)).length=(n - i)*2:=by rw[List.length_drop,hl,<-Nat.sub_mul]
  have hR:rest.length=(cap - n)*2:=by rw[qC,hl]at hl2;rw[Nat.sub_mul];omega
  have hk':Blk w g (xs.take (i*2)++xs.drop (i*2)++rest) 73:=by rw[List.take_append_drop];exact hk
  have h1':∀u∈xs.take (i*2)++xs.drop (i*2),u.oneCell'=true:=by rw[List.take_append_drop];exact hx1
  by_cases hc2:n+1<=cap
  ·exact YK w B g n cap i _ _ rest hA hD hR (by omega) hc2 hm hg hk' h1' pb c hc h1 hb hpg
  ·exact yp w B g n cap i _ _ rest hA hD (by omega) hn hle (by omega) hk' h1' pb c hc h1 hb hB
end
section
open Go.RowKit Sha Fct
theorem y7 (x y:Int×List Int)(q r:Option Addr)(c d:Nat)(w:World)(hx:sD.ok x)(hy:sD.ok y):
 Calls Tryz.prog 134 #[.agg (dcells9 x q c).toArray,.agg (dcells9 y r d).toArray] w fun e w'=>e= .returned (.int .i64 (ordD x y))/\Below w.heap.size w w':=decisions_any x y q r c d w
theorem xk (x y:Int×List Int):ordD x y < 0↔ilt (dkey x) (dkey y)=true:=cmpI_neg x.1 y.1
theorem xl (x y:Int×List Int):ordD x y=0↔dkey x=dkey y:=cmpI_zero x.1 y.1
theorem zM (ρ:Operand->Value)(dst:Option Tmp)(x:Operand)(ty:TypeId)(pos:String)(after:Array Edge)(guard:Option (Nat×Bool)):
 execOp ρ {dst:=dst,op:=.load 73 x,type:=ty,pos:=pos,after:=after,guard:=guard}= loadOp 73 (ρ x):=by unfold loadOp;rfl
theorem zF {w:World} {g o:Nat} {x:Int×List Int}(hx:sD.ok x) {q:Option Addr} {c:Nat}(h:w.rangeAt g o (dcells9 x q c)):(loadOp 73 (.pointer (some ⟨g,o,none⟩))).run Tryz.prog w= .ok (.value (.agg (dcells9 x q c).toArray)) w:=
 run_loadOp (run_loadAt_mid w g o 73 _ _ h Tryz.underlying73 rfl (by rw[zx];exact congrArg some (sD.len q c hx).symm))
attribute [local go_sem ↓] zM execOp_boxOD
theorem bs_D (l:List (Int×List Int))(p:Option Addr)(n c:Nat)(w:World)(h:sD.Told w p n c l)(hup:Rise.Up dkey ilt l)(x:Int×List Int)(q:Option Addr)(d:Nat)(hx:sD.ok x)(hn:n<=1000000000):
 Calls Tryz.prog 161 #[.slice p n c,.agg (dcells9 x q d).toArray,.func (.func 134) #[] #[]] w fun e w'=>
  e= .returned (.tuple #[.int .i64 (Rise.place dkey ilt (dkey x) l:Nat),.bool (Rise.found dkey ilt (dkey x) l)])/\Below w.heap.size w w':=by
 have bx:=run_boxOp (P:=Tryz.prog) (t:=73) (cs:=(dcells9 x q d).toArray) w
 have hb1:=(qB w.heap.size w).alloc (qD _) (.cells (dcells9 x q d).toArray 73)
 have hk1:Blk (w.alloc (.cells (dcells9 x q d).toArray 73)) w.heap.size (dcells9 x q d) 73:=Blk.new w _ 73
 obtain⟨w1,hw1⟩:∃v,v=w.alloc (.cells (dcells9 x q d).toArray 73):=⟨_,rfl⟩
 rw[<-hw1]at bx hb1 hk1
 obtain⟨g0,hg0⟩:∃g,g=w.heap.size:=⟨_,rfl⟩
 rw[<-hg0]at bx hk1
 obtain⟨pl,hpl⟩:∃k,k=Rise.place dkey ilt (dkey x) l:=⟨_,rfl⟩
 have hple:pl<=n:=by rw[hpl,h.len];exact Rise.place_le _ _
 have HPL:=xF hpl
 have HB1:=xF hb1
 have HK:=xF hk1
 have HT:=xF (h.below hb1)
 have HX:=xF hx
 have HUP:=xF hup
 have HN:=xF (show n=l.length from h.len)
 rw[<-hpl]
 obtain⟨fd,hfd⟩:∃f,f=Rise.found dkey ilt (dkey x) l:=⟨_,rfl⟩
 have HFD:=xF hfd
 rw[<-hfd]
 clear hfd hw1 hg0 hpl hb1 hk1 h hup hx
 go_enter Tryz.func161,Tryz.ntmps161
 go_wp2_with fail
 go_loopw [9,10] (fun i j wr=>∃a b:Nat,i= .int .i64 a/\j= .int .i64 b/\a<=pl/\pl<=b/\b<=n/\Hid (Below w1.heap.size w1 wr)) (fun i j _=>(intOf j).toNat - (intOf i).toNat)
 case atStart=>exact⟨0,n,rfl,rfl,by omega,hple,by omega,xF (qB _ _)⟩
 case round=>
  obtain⟨a,b,rfl,rfl,ha,hb,hbn,HBR⟩:=hrel
  by_cases hab:a < b
  ·obtain⟨m,hm⟩:∃m,m=(a+b) / 2:=⟨_,rfl⟩
   have hma:a<=m/\m < b:=by omega
   have hm2:((a:Int)+(b:Int)) / 2=(m:Int):=by omega
   have hml:m < l.length:=by rw[<-HN.out];omega
   obtain⟨b0,off,q2,c2,hp,hr,hgd⟩:=(HT.out.below HBR.out).rows.get m hml
   obtain⟨y,hy⟩:∃y,y=l[m]:=⟨_,rfl⟩
   have hlo:=fun h=>Rise.place_lt (key:=dkey) (lt:=ilt) (dkey x) l m hml (by rw[<-HPL.out];exact h)
   have hhi:=fun h=>Rise.place_ge ilt_ord (dkey x) l HUP.out m hml (by rw[<-HPL.out];exact h)
   rw[<-hy]at hr hgd hlo hhi
   subst hp
   have hr2:wr.rangeAt b0 (off+m*2) (dcells9 y q2 c2):=hr
   obtain⟨I,W,hC⟩:=cls_of wr
   have hne:Nonempty I:=hC.ne
   have lM:=fun n=>zF hgd.ok (range_below hr2 (hC.back n))
   have lX:=fun n=>zF HX.out ((HK.out.below HBR.out HK.out.lt).below (hC.back n) (HK.out.below HBR.out HK.out.lt).lt).range
   have QS:=xF (hC.call (P:=Tryz.prog) (f:=134) (args:=#[.agg (dcells9 y q2 c2).toArray,.agg (dcells9 x q d).toArray]) (v:=.int .i64 (ordD y x)) (fun w' hb=>y7 y x q2 q c2 d w' hgd.ok HX.out))
   have hjn:(0:Int)<=(m:Int)/\(m:Int) < (n:Int):=by omega
   have HC:=xF hC
   have HDN:=xF (xk y x)
   generalize hod:ordD y x=od at *
   clear hod hr hr2 hgd hy hml hm hC
   by_cases hpm:m < pl
   ·have t1:decide (od < 0)=true:=by rw[decide_eq_true_iff];exact HDN.out.2 (hlo hpm)
    clear hlo hhi HDN
    go_wp2_with fail
    refine wp_region_cls W (by kernel_rfl) (by kernel_rfl) HC.out.one ?_
    repeat go_big_quiet_step ((go_at_call 134;exact QS.out _))
    refine wpQuiet_nil ?_
    rintro _ ⟨nq,rfl⟩
    have HB2:=xF (HBR.out.trans ((HC.out.back nq).mono HBR.out.size))
    clear lM lX QS hm2
    go_wp2_with fail
    go_roundw
    case rel=>exact⟨m+1,b,by go_num,rfl,by omega,hb,hbn,HB2⟩
    case measure=>simp[intOf];omega
   ·have t1:decide (od < 0)=false:=by
     rw[decide_eq_false_iff_not]
     intro h
     have h2:=HDN.out.1 h
     rw[hhi (by omega)]at h2;cases h2
    clear hlo hhi HDN
    go_wp2_with fail
    refine wp_region_cls W (by kernel_rfl) (by kernel_rfl) HC.out.one ?_
    repeat go_big_quiet_step ((go_at_call 134;exact QS.out _))
    refine wpQuiet_nil ?_
    rintro _ ⟨nq,rfl⟩
    have HB2:=xF (HBR.out.trans ((HC.out.back nq).mono HBR.out.size))
    clear lM lX QS hm2
    go_wp2_with fail
    go_roundw
    case rel=>exact⟨a,m,rfl,rfl,ha,by omega,by omega,HB2⟩
    case measure=>simp[intOf];omega
  ·obtain rfl:a=pl:=by omega
   obtain rfl:b=a:=by omega
   by_cases hbl:b < n
   ·have hml:b < l.length:=by rw[<-HN.out];omega
    obtain⟨b0,off,q2,c2,hp,hr,hgd⟩:=(HT.out.below HBR.out).rows.get b hml
    have hfi:fd=true↔dkey l[b] = dkey x:=by
     have h2:=Rise.found_iff (key:=dkey) (lt:=ilt) (dkey x) l
     rw[<-HFD.out]at h2
     rw[h2]
     have h3:=HPL.out
     constructor
     ·rintro⟨_,h⟩;simpa only[<-h3]using h
     ·intro h;exact⟨by rw[<-h3];exact hml,by simpa only[<-h3]using h⟩
    obtain⟨y,hy⟩:∃y,y=l[b]:=⟨_,rfl⟩
    rw[<-hy]at hr hgd hfi
    subst hp
    have hr2:wr.rangeAt b0 (off+b*2) (dcells9 y q2 c2):=hr
    obtain⟨I,W,hC⟩:=cls_of wr
    have hne:Nonempty I:=hC.ne
    have lM:=fun n=>zF hgd.ok (range_below hr2 (hC.back n))
    have lX:=fun n=>zF HX.out ((HK.out.below HBR.out HK.out.lt).below (hC.back n) (HK.out.below HBR.out HK.out.lt).lt).range
    have QS:=xF (hC.call (P:=Tryz.prog) (f:=134) (args:=#[.agg (dcells9 y q2 c2).toArray,.agg (dcells9 x q d).toArray]) (v:=.int .i64 (ordD y x)) (fun w' hb=>y7 y x q2 q c2 d w' hgd.ok HX.out))
    have hjn:(0:Int)<=(b:Int)/\(b:Int) < (n:Int):=by omega
    have HC:=xF hC
    have hdz:=xl y x
    have t1:(ordD y x == 0)=fd:=by
     rw[Bool.eq_iff_iff,beq_iff_eq,hdz];exact hfi.symm
    have tg:decide ((b:Int) < (n:Int))=true:=by simpa using hbl
    generalize ordD y x=od at *
    clear hdz hr hr2 hgd hy hml hC hfi
    go_wp2_with fail
    refine wp_region_cls W (by kernel_rfl) (by kernel_rfl) HC.out.one ?_
    repeat go_big_quiet_step ((go_at_call 134;exact QS.out _))
    refine wpQuiet_nil ?_
    rintro _ ⟨nq,rfl⟩
    have HB2:=xF (HB1.out.trans ((HBR.out.trans ((HC.out.back nq).mono HBR.out.size)).mono HB1.out.size))
    clear lM lX QS
    go_wp2_with fail
    go_ret2
    exact⟨rfl,HB2.out⟩
   ·have hf2:fd=false:=by
     rw[Bool.eq_false_iff]
     intro h
     rw[HFD.out,Rise.found_iff]at h
     obtain⟨h2,_⟩:=h
     rw[<-HPL.out,<-HN.out]at h2
     exact hbl h2
    subst hf2
    have tg:decide ((b:Int) < (n:Int))=false:=by simpa using hbl
    obtain⟨I,W,hC⟩:=cls_of wr
    have hne:Nonempty I:=hC.ne
    have HC:=xF hC
    clear hC
    go_wp2_with fail
    refine wp_region_cls W (by kernel_rfl) (by kernel_rfl) HC.out.one ?_
    repeat go_big_quiet_step (fail)
    refine wpQuiet_nil ?_
    rintro _ ⟨nq,rfl⟩
    have HB2:=xF (HB1.out.trans ((HBR.out.trans ((HC.out.back nq).mono HBR.out.size)).mono HB1.out.size))
    go_wp2_with fail
    go_ret2
    exact⟨rfl,HB2.out⟩
end
section
open Go.RowKit Sha Fct
theorem YL:(Tryz.prog.info? 73).map (fun i=>(i.zero,i.size))=some (some (.agg (dcells9 (0,[]) none 0).toArray),2):=by unfold dcells9;kernel_rfl
theorem Ze (ρ:Operand->Value)(dst:Option Tmp)(len:Nat)(parts:Array (Nat×Operand))(ty:TypeId)(pos:String)(after:Array Edge)(guard:Option (Nat×Bool)):
 execOp ρ {dst:=dst,op:=.buildSlice 45 len parts,type:=ty,pos:=pos,after:=after,guard:=guard}= buildOp 45 len (parts.map fun(i,x)=>(i,ρ x)):=by unfold buildOp;rfl
theorem y8 (w:World) {x:Int×List Int}(hx:sD.ok x)(q:Option Addr)(c:Nat):(buildOp 45 1 #[(0,.agg (dcells9 x q c).toArray)]).run Tryz.prog w= .ok (.value (.slice (some ⟨w.heap.size,0,none⟩) 1 1)) (w.alloc (.cells (dcells9 x q c).toArray 73)):=by
 have hl:(dcells9 x q c).length=2:=sD.len q c hx
 have:=run_build_items (P:=Tryz.prog) w 45 73 2 _ (by omega) Tryz.underlying45 YL [dcells9 x q c] (by intro d hd;simp at hd;subst hd;exact hl) (by simp)
 exact run_buildOp (by simpa using this)
theorem t8_D:(5:TypeId)≠73:=by decide
def PlcD (w:World)(B:Nat)(v:Value)(l:List (Int×List Int))(x:Int×List Int)(e:Ending)(w':World):Prop:=
 ∃v' zs,e= .returned (.tuple #[v',.int .i64 (Rise.place dkey ilt (dkey x) l:Nat)])/\Rws sD 73 w' B v' zs/\zs.map (·.1)=Rise.add dkey ilt x l/\w.grownBy w' v.ownBlock/\RowTy w v.ownBlock 73/\(∀g,v'.ownBlock=some g->v.ownBlock=some g\/w.heap.size<=g)
attribute [local go_sem ↓] zM execOp_boxOD Ze
theorem YM (w:World)(B:Nat)(v:Value)(ys:List (Hd (Int×List Int)))(h:Rws sD 73 w B v ys)(hup:Rise.Up dkey ilt (ys.map (·.1)))(x:Int×List Int)(q:Option Addr)(d:Nat)(hx:sD.Good w x q d)(hu:U8 w q (sD.byt x))(hn:ys.length<=1000000000)(hB:B<=w.heap.size):
 Calls Tryz.prog 133 #[v,.agg (dcells9 x q d).toArray,.func (.func 134) #[] #[]] w (PlcD w B v (ys.map (·.1)) x):=by
 obtain⟨p,c,rfl,ht⟩:=h.told
 obtain⟨n,hnl⟩:∃n,n=ys.length:=⟨_,rfl⟩
 rw[<-hnl]at ht hn
 have bx:=run_boxOp (P:=Tryz.prog) (t:=73) (cs:=(dcells9 x q d).toArray) w
 have hb1:=(qB w.heap.size w).alloc (qD _) (.cells (dcells9 x q d).toArray 73)
 have hk1:Blk (w.alloc (.cells (dcells9 x q d).toArray 73)) w.heap.size (dcells9 x q d) 73:=Blk.new w _ 73
 obtain⟨w1,hw1⟩:∃v,v=w.alloc (.cells (dcells9 x q d).toArray 73):=⟨_,rfl⟩
 rw[<-hw1]at bx hb1 hk1
 obtain⟨g0,hg0⟩:∃g,g=w.heap.size:=⟨_,rfl⟩
 rw[<-hg0]at bx hk1
 have HBS:=xF (bs_D (ys.map (·.1)) p n c w1 (ht.below hb1) hup x q d hx.ok hn)
 obtain⟨l,hl⟩:∃l,l=ys.map (·.1):=⟨_,rfl⟩
 rw[<-hl]at HBS hup ht ⊢
 obtain⟨pl,hpl⟩:∃k,k=Rise.place dkey ilt (dkey x) l:=⟨_,rfl⟩
 have hple:pl<=n:=by rw[hpl,ht.len];exact Rise.place_le _ _
 have HPL:=xF hpl
 have HL:=xF hl
 have HNL:=xF hnl
 have HB1:=xF hb1
 have HK:=xF hk1
 have HR:=xF h
 have HX:=xF hx
 have HU:=xF hu
 rw[<-hpl]at HBS
 rw[<-hnl]
 clear hw1 hg0 hpl hl hnl hb1 hk1 h hup hx hu ht
 cases hf:Rise.found dkey ilt (dkey x) l with
 | true=>
    rw[hf]at HBS
    have HQ:=xF (Rise.add_found (x:=x) hf)
    clear hf
    have l1:=zF HX.out.ok HK.out.range
    go_enter Tryz.func133,Tryz.ntmps133
    go_wp2_with fail
    refine HBS.out.mono ?_
    rintro e w2 ⟨rfl,hb2⟩
    have HB2:=xF (HB1.out.trans (hb2.mono HB1.out.size))
    clear hb2
    go_wp2_with fail
    go_ret2
    refine⟨.slice p n c,ys,by rw[<-HPL.out];rfl,?_,by rw[HQ.out,HL.out],⟨HB2.out.os,HB2.out.tape,HB2.out.output,HB2.out.size,fun k hk _=>HB2.out.block k hk⟩,?_,fun g hg=>Or.inl hg⟩
    ·have h2:=HR.out.below HB2.out
     rw[HNL.out];exact h2
    ·have h2:=RowTy.of HR.out.own
     rw[HNL.out];exact h2
 | false=>
    rw[hf]at HBS
    have HQ:=xF (Rise.add_new (x:=x) hf)
    clear hf
    have l1:=zF HX.out.ok HK.out.range
    go_enter Tryz.func133,Tryz.ntmps133
    go_wp2_with fail
    refine HBS.out.mono ?_
    rintro e w2 ⟨rfl,hb2⟩
    have HB2:=xF (HB1.out.trans (hb2.mono HB1.out.size))
    have HK2:=xF (HK.out.below hb2 HK.out.lt)
    have HR2:=xF (HR.out.below HB2.out)
    have lx:=zF HX.out.ok HK2.out.range
    have bi:=y8 w2 HX.out.ok q d
    have hb3:=HB2.out.alloc HB2.out.size (.cells (dcells9 x q d).toArray 73)
    have hb23:=(qB w2.heap.size w2).alloc (qD _) (.cells (dcells9 x q d).toArray 73)
    have hk3:Blk (w2.alloc (.cells (dcells9 x q d).toArray 73)) w2.heap.size (dcells9 x q d) 73:=Blk.new w2 _ 73
    have hr3:=HR2.out.below hb23
    have hlt3:=fun k hk=>(HR2.out.own.lt k hk).2
    obtain⟨pb,hpb⟩:∃g,g=w2.heap.size:=⟨_,rfl⟩
    rw[<-hpb]at bi hk3
    have HNE:=xF (show(Value.slice p n c).ownBlock≠some pb from fun e=>by
     have h2:=hlt3 pb (by rw[<-HNL.out];exact e)
     omega)
    generalize w2.alloc (.cells (dcells9 x q d).toArray 73)=w3 at *
    have HIN:=xF (ins_D w3 B (.slice p n c) n (ys.flatMap sD.row) (by have h2:=hr3.own;rw[<-HNL.out]at h2;exact h2) (Shp.flat_one ys) pl hple pb (dcells9 x q d) (sD.len q d HX.out.ok) (sD.one x q d) hk3 HNE.out hn (Nat.le_trans hB hb3.size))
    have HB3:=xF hb3
    have HR3:=xF hr3
    clear hb2 hb23 hk3 hr3 hlt3 hpb hb3 HBS
    go_wp2_with fail
    refine HIN.out.mono ?_
    rintro e w4 ⟨v4,rfl,ho4,hg4,ha4⟩
    have HO4:=xF ho4
    have HG4:=xF hg4
    have HA4:=xF ha4
    clear ho4 hg4 ha4
    go_wp2_with fail
    go_ret2
    have hfl:(ys.flatMap sD.row).take (pl*2)++dcells9 x q d++(ys.flatMap sD.row).drop (pl*2)=(ys.take pl++(x,q,d)::ys.drop pl).flatMap sD.row:=by
     have h1:=flat_takeS (S:=sD) ys HR.out.ok pl
     have h2:=flat_dropS (S:=sD) ys HR.out.ok pl
     rw[List.flatMap_append,List.flatMap_cons,<-h1,<-h2,List.append_assoc];rfl
    have hty:RowTy w3 (Value.slice p n c).ownBlock 73:=by have h2:=RowTy.of HR3.out.own;rw[<-HNL.out]at h2;exact h2
    have hll:(ys.take pl++(x,q,d)::ys.drop pl).length=n+1:=by
     rw[qC,List.length_cons,List.length_take,List.length_drop,<-HNL.out];omega
    refine⟨v4,ys.take pl++(x,q,d)::ys.drop pl,by rw[<-HPL.out];rfl,⟨?_,?_⟩,?_,?_,?_,?_⟩
    ·rw[hll,<-hfl];exact HO4.out
    ·intro y hy
     have hold:∀y∈ys,sD.Good w4 y.1 y.2.1 y.2.2/\U8 w4 y.2.1 (sD.byt y.1):=fun y hy=>
      ⟨good_grown (HR3.out.good y hy).1 (HR3.out.good y hy).2 HG4.out hty t8_D,u8_grown (HR3.out.good y hy).2 HG4.out hty t8_D⟩
     rcases List.mem_append.1 hy with hy | hy
     ·exact hold y (List.mem_of_mem_take hy)
     ·rcases List.mem_cons.1 hy with rfl | hy
      ·exact⟨good_grown (HX.out.below HB3.out) (HU.out.below HB3.out) HG4.out hty t8_D,u8_grown (HU.out.below HB3.out) HG4.out hty t8_D⟩
      ·exact hold y (List.mem_of_mem_drop hy)
    ·rw[HQ.out,<-HPL.out,HL.out];simp
    ·exact⟨HG4.out.os.trans HB3.out.os,HG4.out.tape.trans HB3.out.tape,HG4.out.output.trans HB3.out.output,Nat.le_trans HB3.out.size HG4.out.size,fun k hk hne=>(HG4.out.block k (Nat.lt_of_lt_of_le hk HB3.out.size) hne).trans (HB3.out.block k hk)⟩
    ·have h2:=RowTy.of HR.out.own
     rw[<-HNL.out]at h2;exact h2
    ·intro g hg
     rcases HA4.out g hg with h2 | h2
     ·exact Or.inl h2
     ·exact Or.inr (Nat.le_trans HB3.out.size h2)
end
section
open Go.RowKit Sha Fct
theorem xm {w w2 w3:World} {B g:Nat} {s:Ste} {r:Rows9} {v':Value} {zs:List (Hd _)}(h:StO w B g s r)(hb:Below w.heap.size w w2)(hr:Rws sB 93 w3 B v' zs)(hg:w2.grownBy w3 r.vb.ownBlock):
 w3.cell? ⟨g,2,none⟩=some r.vb/\w3.frozen? ⟨g,2,none⟩=false/\StO (w3.setCell ⟨g,2,none⟩ v') B g {s with blobs:=zs.map (·.1)} {r with vb:=v',yb:=zs}/\Chg (fun k=>Own9 w B g k\/False) w (w3.setCell ⟨g,2,none⟩ v')/\
  ∀{gf cs},Blk w2 gf cs 28->Blk (w3.setCell ⟨g,2,none⟩ v') gf cs 28:=by
 have h2:=h.below hb
 have hc:Chg (fun k=>r.vb.ownBlock=some k\/False) w2 w3:=(Chg.refl _ w2).grown hg fun k hk _=>Or.inl hk
 have hno:∀{k cs t},Blk w2 k cs t->t≠93->¬(r.vb.ownBlock=some k\/False):=by
  rintro k cs t hk ht (e | e)
  ·obtain⟨c2,f2,h3⟩:=RowTy.of h2.b.own k e
   unfold Blk at hk
   rw[hk]at h3;simp at h3;exact ht h3.2.1
  ·exact e
 have hb3:=hc.blk h2.blk (hno h2.blk (by decide))
 obtain⟨k1,k2⟩:=h2.setB (X:=fun _=>False) (fun k e=>e.elim) hc hr
 refine⟨hb3.cell 2,hb3.free 2,k1,zd ((Chg.refl _ w).grown (below_grown hb none) fun k hk=>by cases hk) k2,fun {gf cs} hf=>?_⟩
 have hfg:gf≠g:=fun e=>by subst e;exact absurd (blk_ty hf h2.blk) (by decide)
 exact(hc.blk hf (hno hf (by decide))).setOther _ _ hfg
theorem xo {w w2 w3:World} {B g:Nat} {s:Ste} {r:Rows9} {v':Value} {zs:List (Hd _)}(h:StO w B g s r)(hb:Below w.heap.size w w2)(hr:Rws sK 95 w3 B v' zs)(hg:w2.grownBy w3 r.vk.ownBlock):
 w3.cell? ⟨g,3,none⟩=some r.vk/\w3.frozen? ⟨g,3,none⟩=false/\StO (w3.setCell ⟨g,3,none⟩ v') B g {s with keeps:=zs.map (·.1)} {r with vk:=v',yk:=zs}/\Chg (fun k=>Own9 w B g k\/False) w (w3.setCell ⟨g,3,none⟩ v')/\
  ∀{gf cs},Blk w2 gf cs 28->Blk (w3.setCell ⟨g,3,none⟩ v') gf cs 28:=by
 have h2:=h.below hb
 have hc:Chg (fun k=>r.vk.ownBlock=some k\/False) w2 w3:=(Chg.refl _ w2).grown hg fun k hk _=>Or.inl hk
 have hno:∀{k cs t},Blk w2 k cs t->t≠95->¬(r.vk.ownBlock=some k\/False):=by
  rintro k cs t hk ht (e | e)
  ·obtain⟨c2,f2,h3⟩:=RowTy.of h2.k.own k e
   unfold Blk at hk
   rw[hk]at h3;simp at h3;exact ht h3.2.1
  ·exact e
 have hb3:=hc.blk h2.blk (hno h2.blk (by decide))
 obtain⟨k1,k2⟩:=h2.setK (X:=fun _=>False) (fun k e=>e.elim) hc hr
 refine⟨hb3.cell 3,hb3.free 3,k1,zd ((Chg.refl _ w).grown (below_grown hb none) fun k hk=>by cases hk) k2,fun {gf cs} hf=>?_⟩
 have hfg:gf≠g:=fun e=>by subst e;exact absurd (blk_ty hf h2.blk) (by decide)
 exact(hc.blk hf (hno hf (by decide))).setOther _ _ hfg
theorem xp {w w2 w3:World} {B g:Nat} {s:Ste} {r:Rows9} {v':Value} {zs:List (Hd _)}(h:StO w B g s r)(hb:Below w.heap.size w w2)(hr:Rws sH 97 w3 B v' zs)(hg:w2.grownBy w3 r.vh.ownBlock):
 w3.cell? ⟨g,4,none⟩=some r.vh/\w3.frozen? ⟨g,4,none⟩=false/\StO (w3.setCell ⟨g,4,none⟩ v') B g {s with hints:=zs.map (·.1)} {r with vh:=v',yh:=zs}/\Chg (fun k=>Own9 w B g k\/False) w (w3.setCell ⟨g,4,none⟩ v')/\
  ∀{gf cs},Blk w2 gf cs 28->Blk (w3.setCell ⟨g,4,none⟩ v') gf cs 28:=by
 have h2:=h.below hb
 have hc:Chg (fun k=>r.vh.ownBlock=some k\/False) w2 w3:=(Chg.refl _ w2).grown hg fun k hk _=>Or.inl hk
 have hno:∀{k cs t},Blk w2 k cs t->t≠97->¬(r.vh.ownBlock=some k\/False):=by
  rintro k cs t hk ht (e | e)
  ·obtain⟨c2,f2,h3⟩:=RowTy.of h2.h.own k e
   unfold Blk at hk
   rw[hk]at h3;simp at h3;exact ht h3.2.1
  ·exact e
 have hb3:=hc.blk h2.blk (hno h2.blk (by decide))
 obtain⟨k1,k2⟩:=h2.setH (X:=fun _=>False) (fun k e=>e.elim) hc hr
 refine⟨hb3.cell 4,hb3.free 4,k1,zd ((Chg.refl _ w).grown (below_grown hb none) fun k hk=>by cases hk) k2,fun {gf cs} hf=>?_⟩
 have hfg:gf≠g:=fun e=>by subst e;exact absurd (blk_ty hf h2.blk) (by decide)
 exact(hc.blk hf (hno hf (by decide))).setOther _ _ hfg
theorem xr {w w2 w3:World} {B g:Nat} {s:Ste} {r:Rows9} {v':Value} {zs:List (Hd _)}(h:StO w B g s r)(hb:Below w.heap.size w w2)(hr:Rws sV 62 w3 B v' zs)(hg:w2.grownBy w3 r.vv.ownBlock):
 w3.cell? ⟨g,5,none⟩=some r.vv/\w3.frozen? ⟨g,5,none⟩=false/\StO (w3.setCell ⟨g,5,none⟩ v') B g {s with votes:=zs.map (·.1)} {r with vv:=v',yv:=zs}/\Chg (fun k=>Own9 w B g k\/False) w (w3.setCell ⟨g,5,none⟩ v')/\
  ∀{gf cs},Blk w2 gf cs 28->Blk (w3.setCell ⟨g,5,none⟩ v') gf cs 28:=by
 have h2:=h.below hb
 have hc:Chg (fun k=>r.vv.ownBlock=some k\/False) w2 w3:=(Chg.refl _ w2).grown hg fun k hk _=>Or.inl hk
 have hno:∀{k cs t},Blk w2 k cs t->t≠62->¬(r.vv.ownBlock=some k\/False):=by
  rintro k cs t hk ht (e | e)
  ·obtain⟨c2,f2,h3⟩:=RowTy.of h2.v.own k e
   unfold Blk at hk
   rw[hk]at h3;simp at h3;exact ht h3.2.1
  ·exact e
 have hb3:=hc.blk h2.blk (hno h2.blk (by decide))
 obtain⟨k1,k2⟩:=h2.setV (X:=fun _=>False) (fun k e=>e.elim) hc hr
 refine⟨hb3.cell 5,hb3.free 5,k1,zd ((Chg.refl _ w).grown (below_grown hb none) fun k hk=>by cases hk) k2,fun {gf cs} hf=>?_⟩
 have hfg:gf≠g:=fun e=>by subst e;exact absurd (blk_ty hf h2.blk) (by decide)
 exact(hc.blk hf (hno hf (by decide))).setOther _ _ hfg
theorem xt {w w2 w3:World} {B g:Nat} {s:Ste} {r:Rows9} {v':Value} {zs:List (Hd _)}(h:StO w B g s r)(hb:Below w.heap.size w w2)(hr:Rws sD 73 w3 B v' zs)(hg:w2.grownBy w3 r.vd.ownBlock):
 w3.cell? ⟨g,6,none⟩=some r.vd/\w3.frozen? ⟨g,6,none⟩=false/\StO (w3.setCell ⟨g,6,none⟩ v') B g {s with decs:=zs.map (·.1)} {r with vd:=v',yd:=zs}/\Chg (fun k=>Own9 w B g k\/False) w (w3.setCell ⟨g,6,none⟩ v')/\
  ∀{gf cs},Blk w2 gf cs 28->Blk (w3.setCell ⟨g,6,none⟩ v') gf cs 28:=by
 have h2:=h.below hb
 have hc:Chg (fun k=>r.vd.ownBlock=some k\/False) w2 w3:=(Chg.refl _ w2).grown hg fun k hk _=>Or.inl hk
 have hno:∀{k cs t},Blk w2 k cs t->t≠73->¬(r.vd.ownBlock=some k\/False):=by
  rintro k cs t hk ht (e | e)
  ·obtain⟨c2,f2,h3⟩:=RowTy.of h2.d.own k e
   unfold Blk at hk
   rw[hk]at h3;simp at h3;exact ht h3.2.1
  ·exact e
 have hb3:=hc.blk h2.blk (hno h2.blk (by decide))
 obtain⟨k1,k2⟩:=h2.setD (X:=fun _=>False) (fun k e=>e.elim) hc hr
 refine⟨hb3.cell 6,hb3.free 6,k1,zd ((Chg.refl _ w).grown (below_grown hb none) fun k hk=>by cases hk) k2,fun {gf cs} hf=>?_⟩
 have hfg:gf≠g:=fun e=>by subst e;exact absurd (blk_ty hf h2.blk) (by decide)
 exact(hc.blk hf (hno hf (by decide))).setOther _ _ hfg
end
end Go.Proofs.YtokpabkcaofahaaGreat
