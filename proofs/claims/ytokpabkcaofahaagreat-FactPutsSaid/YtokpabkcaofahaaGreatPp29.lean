/-
  What stands under factPuts_holds: part 29.
-/
import Derived.Test.YtokpabkcaofahaaGreatPp18
import Derived.Test.YtokpabkcaofahaaGreatPp6
import Derived.Test.YtokpabkcaofahaaGreatPp16
import Derived.Test.YtokpabkcaofahaaGreatPp28
import Derived.Test.YtokpabkcaofahaaGreatPp1
import Derived.ProofKit
import Derived.OpenShut
import Derived.Test.YtokpabkcaofahaaGreatRows
import Derived.ChangeSlices
import Derived.Deep.Slices
import Derived.Deep.Strs
import Derived.Test.YtokpabkcaofahaaGreatPp3
namespace Go.Proofs.YtokpabkcaofahaaGreat
set_option linter.unusedSimpArgs false
set_option linter.unusedVariables false
set_option maxRecDepth 100000
set_option maxHeartbeats 20000000
section
open Go.RowKit Sha Fct
theorem ye {x:Fac}(h:x.ok):∀n∈(Fct.put x).1,0<=n/\n<=255:=by
 by_cases hc:Fct.Can x
 ·obtain⟨⟨b,er⟩,hr⟩:∃r,r=Fct.put x:=⟨_,rfl⟩
  have he:er=0:=by have:=put_can hc;rw[<-hr]at this;exact(Prod.mk.inj this).2
  subst he
  rw[<-hr]
  have hf:Fld.put (letters x.K) (iN x.K::items x)=(b,0):=by have h1:=hr;unfold Fct.put at h1;rw[if_pos ((can_iff x).2 hc)]at h1;exact h1.symm
  exact(Fld.put_walk (items_ok h) hf).2.1
 ·rw[put_not hc];simp
attribute [local go_sem ↓] execOp_allocFact execOp_storeFact execOp_boxFact execOp_loadFact execOp_buildFacts
theorem yL (F:FactsFold)(x:Fac)(q:Option Addr)(c:Nat)(w:World)(hx:sF.Good w x q c):
 Calls Tryz.prog 3 #[.agg (fcells x q c).toArray] w fun e w'=>e= .returned (.bool true)/\Below w.heap.size w w':=by
 have hF:=fbox_of hx
 have bx:=run_boxOp (P:=Tryz.prog) (t:=28) (cs:=(fcells x q c).toArray) w
 obtain⟨w1,hw1⟩:∃v,v=w.alloc (.cells (fcells x q c).toArray 28):=⟨_,rfl⟩
 rw[<-hw1]at hF bx
 obtain⟨g,hg⟩:∃g,g=w.heap.size:=⟨_,rfl⟩
 rw[<-hg]at hF bx
 have HF:=xF hF
 have HG:=xF hg
 obtain⟨m,hm⟩:∃m,m=x.B.length:=⟨_,rfl⟩
 have c5:w1.cell? ⟨g,37,none⟩=some (.slice q m c):=by rw[hm];exact(hF.blk.cell 37).trans (fcells_B hF.x.ok.len q c)
 have HM:=xF hm
 clear hx hw1 hg hF hm
 by_cases h5:(m:Int) > 5000
 ·have d5:decide ((m:Int) > 5000)=true:=decide_eq_true h5
  clear h5
  go_enter Tryz.func3,Tryz.ntmps3
  go_wp2_with fail
  refine(awake_any F w1).mono ?_
  rintro e w2 ⟨rfl,hb⟩
  have B2:=xF (HF.out.below.trans (hb.mono HF.out.below.size))
  clear hb
  go_wp2_with fail
  go_ret
  exact⟨rfl,B2.out⟩
 have d5:decide ((m:Int) > 5000)=false:=decide_eq_false h5
 have hm5:x.B.length<=5000:=by have:=HM.out;omega
 have HM5:=xF hm5
 have hxl:=HF.out.x.ok.len
 have ld1:=load_factB HF.out.blk hxl
 have bf:(buildOp 30 1 #[(0,Value.agg (fcells x q c).toArray)]).run Tryz.prog w1= .ok (.value (.slice (some ⟨w1.heap.size,0,none⟩) 1 1)) (w1.alloc (.cells (([(x,q,c)]:List (Hd Fac)).map sF.row).flatten.toArray 28)):=build_facts w1 [(x,q,c)] (by intro y hy;rw[List.mem_singleton.1 hy];exact hxl) (by simp)
 have tf:=told_facts w1 [(x,q,c)] (by intro y hy;rw[List.mem_singleton.1 hy];exact HF.out.x) (by simp)
 have hb:=(qB w1.heap.size w1).alloc (qD _) (Obj.cells (([(x,q,c)]:List (Hd Fac)).map sF.row).flatten.toArray 28)
 obtain⟨w2,hw2⟩:∃y,y=w1.alloc (.cells (([(x,q,c)]:List (Hd Fac)).map sF.row).flatten.toArray 28):=⟨_,rfl⟩
 rw[<-hw2]at bf tf hb
 have HF2:=xF (HF.out.on hb)
 have T2:=xF (show sF.Told w2 (some ⟨w1.heap.size,0,none⟩) 1 1 [x]from tf)
 clear tf hb hw2 h5 hm5
 go_enter Tryz.func3,Tryz.ntmps3
 go_wp2_with fail
 refine(copyFacts_any [x] _ 1 1 w2 T2.out (by omega) (by intro y hy;rw[List.mem_singleton.1 hy];have:=HM5.out;omega)).mono ?_
 rintro e w3 ⟨qc,cc,rfl,ht3,hb3⟩
 obtain⟨b,off,q3,d3,rfl,hr3,hg3⟩:=ht3.rows.get 0 (by simp)
 have HF3:=xF (HF2.out.on hb3)
 have X3:=xF (show sF.Good w3 x q3 d3 from hg3)
 have ld3:(loadOp 28 (.pointer (some ⟨b,off,none⟩))).run Tryz.prog w3= .ok (.value (.agg (fcells x q3 d3).toArray)) w3:=load_fact hxl (by have h:=hr3;simp only[Nat.zero_mul,Nat.add_zero]at h;exact h)
 have al:=alloc_fact w3
 have st:=store_fact1 w3 (x:=x) (q:=q3) (c:=d3) hxl
 obtain⟨w4,hw4⟩:∃y,y=w3.alloc (.cells (fcells x q3 d3).toArray 28):=⟨_,rfl⟩
 have hb4:=(qB w3.heap.size w3).alloc (qD _) (Obj.cells (fcells x q3 d3).toArray 28)
 have hk4:=Blk.new w3 (fcells x q3 d3).toArray 28
 rw[<-hw4]at hb4 hk4 st
 have HF4:=xF (HF3.out.on hb4)
 have X4:=xF (X3.out.below hb4)
 obtain⟨g3,hg3'⟩:∃y,y=w3.heap.size:=⟨_,rfl⟩
 rw[<-hg3']at hk4 al st
 have K4:=xF (show Blk w4 g3 (fcells x q3 d3) 28 from hk4)
 have HG3:=xF hg3'
 clear hr3 hg3 ht3 hb3 ld1 bf bx hb4 hk4 hw4 hg3'
 have ld4:=load_factB K4.out hxl
 go_wp2_with fail
 refine(F.put x q3 d3 w4 X4.out (by have:=HM5.out;have h9:dataMost=1000000000000:=rfl;omega)).mono ?_
 rintro e w5 ⟨v,rfl,ho5,hb5⟩
 obtain⟨pa,ca,rfl,_,_,hA5,_,_⟩:=own_at ho5.row
 have HF5:=xF (HF4.out.on hb5)
 have K5:=xF (K4.out.below hb5 K4.out.lt)
 have O5:=xF ho5
 have A5:=xF hA5
 have B5:=xF hb5
 have ld5:=load_factB HF5.out.blk hxl
 obtain⟨zs,hzs⟩:∃r,r=(Fct.put x).1:=⟨_,rfl⟩
 obtain⟨er,her⟩:∃r,r=(Fct.put x).2:=⟨_,rfl⟩
 rw[<-hzs]at O5 A5 ⊢
 rw[<-her]
 obtain⟨k,hk⟩:∃k,k=zs.length:=⟨_,rfl⟩
 rw[<-hk]at O5 ⊢
 have HZ:=xF hzs
 have HE:=xF her
 have HK:=xF hk
 clear ho5 hb5 hA5 ld4 hzs her hk
 go_wp2_with fail
 refine(rput9_any x q c w5 HF5.out.x (by have:=HM5.out;omega)).mono ?_
 rintro e w6 ⟨v6,rfl,ho6,hb6⟩
 obtain⟨pb,cb,rfl,_,_,hA6,_,_⟩:=own_at ho6.row
 rw[<-HZ.out]at hA6
 rw[<-HZ.out,<-HE.out,<-HK.out]
 have HF6:=xF (HF5.out.on hb6)
 have K6:=xF (K5.out.below hb6 K5.out.lt)
 have X6:=xF (X4.out.below (B5.out.trans (hb6.mono B5.out.size)))
 have B6:=xF (B5.out.trans (hb6.mono B5.out.size))
 have O6:=xF (show Own8 w6 w4.heap.size 5 (.slice pa k ca) k (zs.map v8)from⟨row_below_s O5.out.row hb6,O5.out.ints.carry fun g hg=>hb6.block g (O5.out.row.lt g hg).2⟩)
 have A6:=xF (A5.out.below hb6)
 have A6b:=xF hA6
 have HZB:=xF (show∀n∈zs,0<=n/\n<=255 from by rw[HZ.out];exact ye HF5.out.x.ok)
 clear ho6 hb6 hA6 ld5
 have HSAME:=xF (fun W (hb:Below w6.heap.size w6 W)=>show Calls Tryz.prog 14 #[.slice pa k ca,.slice pb k cb] W (fun e w'=>e= .returned (.bool true)/\w'=W)from by
  refine(same_any zs zs k k pa pb ca cb W HK.out.symm HK.out.symm (A6.out.below hb) (A6b.out.below hb) HZB.out HZB.out).mono ?_
  rintro e w' ⟨he,hw⟩
  rw[decide_eq_true rfl]at he
  exact⟨he,hw.symm⟩)
 obtain⟨ck,hck⟩:∃r,r=Fct.check x:=⟨_,rfl⟩
 have HCA:=xF (fun W (hb:Below w6.heap.size w6 W)=>F.check x q3 d3 W (X6.out.below hb) (by have:=HM5.out;have h9:dataMost=1000000000000:=rfl;omega))
 have HCB:=xF (fun W (hb:Below w6.heap.size w6 W)=>rcheck9_any x q c W (HF6.out.x.below hb) (by have:=HM5.out;omega))
 rw[<-hck]at HCA HCB
 have E1:=xF (fun W (hb:Below w6.heap.size w6 W)=>load_factB (HF6.out.blk.below hb HF6.out.blk.lt) hxl)
 have E2:=xF (fun W (hb:Below w6.heap.size w6 W)=>load_factB (K6.out.below hb K6.out.lt) hxl)
 have t1:(er == er)=true:=beq_self_eq_true _
 have t2:(ck == ck)=true:=beq_self_eq_true _
 clear hck
 go_wp2_with fail
 go_region_held3 (fun w'=>Below w6.heap.size w6 w'/\(loadOp 28 (.pointer (some ⟨g,0,none⟩))).run Tryz.prog w'= .ok (.value (.agg (fcells x q c).toArray)) w'/\(loadOp 28 (.pointer (some ⟨g3,0,none⟩))).run Tryz.prog w'= .ok (.value (.agg (fcells x q3 d3).toArray)) w')
  (exact⟨by(repeat(first | exact qB _ _ | assumption | refine Below.drew ?_ | refine below_alloc9 ?_ _)),E1.out _ (by(repeat(first | exact qB _ _ | assumption | refine Below.drew ?_ | refine below_alloc9 ?_ _))),E2.out _ (by(repeat(first | exact qB _ _ | assumption | refine Below.drew ?_ | refine below_alloc9 ?_ _)))⟩)
  ((first
    | (go_at_call 14;refine(HSAME.out _ (by(repeat(first | exact qB _ _ | assumption | refine Below.drew ?_ | refine below_alloc9 ?_ _)))).mono ?_;rintro e w7 ⟨rfl,rfl⟩)
    | (go_at_call 15;refine(HCA.out _ (by(repeat(first | exact qB _ _ | assumption | refine Below.drew ?_ | refine below_alloc9 ?_ _)))).mono ?_;rintro e w8 ⟨rfl,hb⟩;(have hbw8:Below w6.heap.size w6 w8:=below_next9 (by(repeat(first | exact qB _ _ | assumption | refine Below.drew ?_ | refine below_alloc9 ?_ _))) hb);(have l1:=E1.out _ hbw8);(have l2:=E2.out _ hbw8);clear hb)
    | (go_at_call 16;refine(HCB.out _ (by(repeat(first | exact qB _ _ | assumption | refine Below.drew ?_ | refine below_alloc9 ?_ _)))).mono ?_;rintro e w9 ⟨rfl,hb⟩;(have hbw9:Below w6.heap.size w6 w9:=below_next9 (by(repeat(first | exact qB _ _ | assumption | refine Below.drew ?_ | refine below_alloc9 ?_ _))) hb);(have m1:=E1.out _ hbw9);(have m2:=E2.out _ hbw9);clear hb)))
 have B9:=xF hbw9
 have O9:=xF (show Own8 w9 w4.heap.size 5 (.slice pa k ca) k (zs.map v8)from⟨row_below_s O6.out.row hbw9,O6.out.ints.carry fun i hi=>hbw9.block i (O6.out.row.lt i hi).2⟩)
 clear HSAME HCA HCB E1 E2 l1 l2 m1 m2 hbw8 hbw9
 go_wp2_with fail
 refine(over_any _ _ _ _ w9 O9.out).mono ?_
 rintro e w10 ⟨rfl,hb10⟩
 have B10:=xF ((B6.out.trans (B9.out.mono B6.out.size)).trans hb10)
 have ldA:=load_factB (HF4.out.blk.below B10.out HF4.out.blk.lt) hxl
 have ldB:=load_factB (K4.out.below B10.out K4.out.lt) hxl
 have SF:=xF (sameFact_any x x q3 q d3 c w10 (X4.out.below B10.out) (HF4.out.x.below B10.out))
 rw[decide_eq_true rfl]at SF
 have BB:=xF (HF4.out.below.trans (B10.out.mono HF4.out.below.size))
 clear hb10
 go_wp2_with fail
 refine SF.out.mono ?_
 rintro e w11 ⟨rfl,hb11⟩
 have B11:=xF (BB.out.trans (hb11.mono BB.out.size))
 clear hb11 ldA ldB
 go_wp2_with fail
 refine(awake_any F w11).mono ?_
 rintro e w12 ⟨rfl,hb12⟩
 have B12:=xF (B11.out.trans (hb12.mono B11.out.size))
 clear hb12
 go_wp2_with fail
 go_ret
 exact⟨rfl,B12.out⟩
end
section
open Go.RowKit Sha Fct
theorem ZG (x:Fac)(q:Option Addr)(c:Nat)(w:World)(hx:sF.Good w x q c):
 Calls Tryz.prog 3 #[.agg (fcells x q c).toArray] w fun e w'=>e= .returned (.bool true)/\Below w.heap.size w w':=yL Yq x q c w hx
end
section
open Go.ChangeShapes Go.WideShapes Go.ChangeAt Go.RowKit
section
variable {H:Type} {enc:TypeId×Value->H} {P:Program}
theorem zN {W W':World}(hl:laidOutB P=true)(hb:Below W.heap.size W W'):
 ∀{ts:List TypeId} {vs:List Value} {ds:List (DataW H)} {ps:List MemPlace},DataW.TrodAll enc P W 0 (fun _=>true) true ts vs ds ps->(∀t∈ts,P.readableRec t=true/\t < P.types.size)->(∀x∈ps,x.block < W.heap.size)->
  DataW.TrodAll enc P W' 0 (fun b=>decide (b < W.heap.size)) true ts vs ds ps
 | [],vs,ds,ps,h,_,_=>by
    obtain⟨rfl,rfl,rfl⟩:=trodAll_nil h
    exact trodAll_mk0
 | t::ts,vs,ds,ps,h,hr,hp=>by
    obtain⟨v,vs',d,ds',p,p',rfl,rfl,rfl,h1,h2⟩:=trodAll_cons h
    exact⟨p,p',Below.trod hl (hr t (by simp)).1 (hr t (by simp)).2 h1 hb (fun x hx=>hp x (by simp[hx])),zN hl hb h2 (fun t ht=>hr t (by simp[ht])) (fun x hx=>hp x (by simp[hx])),rfl⟩
theorem Yr {f:Func} {s:ChangeSpec} {W W':World} {args:Array Value} {ds:List (DataW H)} {before:List MemPlace} {tb:TypeId}
 (hW:DataW.Whole enc P f.params.toList s.vars false W args.toList ds [] before) (hv:s.vars= []) (hfn:s.fn H (ds++[])= {results:=[.lit (.bool true)],args:=ds})
 (hr:f.resultTypes=#[tb]) (hu:P.underlying tb=some .bool) (hl:laidOutB P=true) (hps:∀t∈f.params.toList,P.readableRec t=true/\t < P.types.size) (hb:Below W.heap.size W W'):
 s.post enc P f false true false false W args (.bool true) W':=by
 have hlt:∀p∈before,p.block < W.heap.size:=fun p hp=>hW.lt p hp
 have hW2:=hW
 obtain⟨p,q,hA,hV,hbe,_,_⟩:=hW2
 rw[hv]at hV
 obtain⟨_,hq⟩:=trodVars_none hV
 have hbp:before=p:=by rw[hbe,hq,List.append_nil]
 refine⟨ds,[],before,[],p,[],hW,?_,?_,?_,?_,fun h=>by cases h⟩
 ·rw[hr,hfn]
  exact trodAll_mk1 (shut_bool hu true)
 ·rw[hfn]
  exact zN hl hb hA hps (fun x hx=>hlt x (by rw[hbp];exact hx))
 ·rw[hv,hfn];rfl
 ·refine World.keptBut_mono (fun x hx=>⟨hx,?_⟩) (hb.frame (· ∈before))
  right;left
  rw[<-hbp];exact hx
end
end
section
open Go.ChangeShapes Go.WideShapes Go.ChangeAt Go.RowKit
theorem Tryz.own:ownKnob Tryz.prog.godebug=none:=by kernel_rfl
theorem Tryz.laidOut:laidOutB Tryz.prog=true:=by kernel_rfl
section
variable {H:Type} {enc:TypeId×Value->H} {P:Program} {w:World} {base:Nat} {spare:Nat->Bool} {held:Bool}
end
end
section
open Go.ChangeShapes Go.WideShapes Go.ChangeAt Go.RowKit Sha
section
variable {H:Type} {enc:TypeId×Value->H} {P:Program} {w:World} {base:Nat} {spare:Nat->Bool} {held:Bool}
theorem ZH {t e:TypeId} {fuel:Nat} {cs:List Value} {x:DataW H×List MemPlace}(ht:P.underlying t=some (.slice e))(he:P.underlying e=some (.int .u8))(hc:P.cellsOf e=1)
 (hf:DataW.trod enc P w base spare held fuel t cs=some x):
 ∃(q:Option Addr) (xs:List Int) (cap:Nat),cs= [.slice q xs.length cap]/\At w q (xs.map v8)/\xs.length<=cap/\cap<=maxLen/\(q=none->cap=0)/\(∀n∈xs,0<=n/\n<=255):=by
 rcases open_ints ht he hc hf with⟨hcs,hx⟩ | ⟨a,len,cap,zs,hcs,_,hl,hm,hz,hx,hcell,hwz⟩
 ·exact⟨none,[],0,hcs,At.nil _ _,qD _,by simp[maxLen],fun _=>rfl,by simp⟩
 ·have hzl:len<=zs.length:=by rw[hz];split<;>omega
  have hlen:(zs.take len).length=len:=by simp;omega
  refine⟨some a,zs.take len,cap,by rw[hlen];exact hcs,?_,by rw[hlen];exact hl,hm,(fun h=>by cases h),fun n hn=>bounds_u8 (hwz n (List.mem_of_mem_take hn))⟩
  by_cases h0:len=0
  ·subst h0;simp;exact At.nil _ _
  ·have h1:=hcell 0 (by omega)
   have hsp:a.spot=none:=by
    have:a.add 0=a:=by simp[Addr.add]
    rw[this]at h1
    cases hs:a.spot with
    | none=>rfl
    | some s=>
       unfold World.cell? at h1
       split at h1
       ·simp[hs]at h1
       ·cases h1
   obtain⟨b,off,sp⟩:=a
   simp only at hsp
   subst hsp
   refine Or.inr ⟨b,off,rfl,fun i v hi=>?_⟩
   rw[List.getElem?_map]at hi
   rcases Nat.lt_or_ge i len with hlt | hge
   ·rw[List.getElem?_take,if_pos hlt,List.getElem?_eq_getElem (by omega)]at hi
    simp at hi
    subst hi
    have:=hcell i (by omega)
    rw[Addr.add_mid]at this
    rw[this];simp[v8,List.getElem?_eq_getElem (show i < zs.length by omega)]
   ·rw[List.getElem?_eq_none (by simp;omega)]at hi;cases hi
end
end
section
set_option maxRecDepth 100000
open Go.ChangeShapes Go.WideShapes Go.ChangeAt Go.RowKit Sha Fct
section
variable {H:Type} {enc:TypeId×Value->H} {P:Program} {w:World} {base:Nat} {spare:Nat->Bool} {held:Bool}
theorem ZI {t e:TypeId} {n fuel:Nat} {cs:List Value} {x:DataW H×List MemPlace}(ht:P.underlying t=some (.array n e))(he:P.underlying e=some (.int .u8))(hce:P.cellsOf e=1)(hct:P.cellsOf t=n)
 (hf:DataW.trod enc P w base spare held fuel t cs=some x):
 ∃xs:List Int,cs=xs.map v8/\xs.length=n/\(∀m∈xs,0<=m/\m<=255):=by
 obtain⟨ys,m,_,hx,hl,hyl,hel⟩:=DataW.trod_array ht hf
 simp only[hce,Nat.mul_one]at hel
 have hcl:cs.length=n:=by rw[hl,hct]
 have each:∀i,i < n->∃z,cs[i]? = some (.int .u8 z)/\0<=z/\z<=255:=by
  intro i hi
  have h1:=hel i hi
  obtain⟨y,hy⟩:∃y,ys[i]? = some y:=⟨ys[i],List.getElem?_eq_getElem (by omega)⟩
  rw[hy]at h1
  obtain⟨z,hc,rfl,hwf⟩:=DataW.trod_int he h1
  refine⟨z,?_,bounds_u8 hwf⟩
  have:=congrArg (·[0]?) hc
  simpa[List.getElem?_take,List.getElem?_drop]using this
 refine⟨(cs.map fun c=>match c with | .int _ z=>z | _=>0),?_,by simpa using hcl,?_⟩
 ·simp only[List.map_map]
  apply List.ext_getElem?
  intro i
  rw[List.getElem?_map]
  by_cases hi:i < n
  ·obtain⟨z,hz,_⟩:=each i hi
   simp[hz,v8]
  ·rw[List.getElem?_eq_none (by omega)];rfl
 ·intro q hq
  obtain⟨c,hc,rfl⟩:=List.mem_map.1 hq
  obtain⟨i,hi,hci⟩:=List.mem_iff_getElem.1 hc
  obtain⟨z,hz,hb⟩:=each i (by omega)
  rw[List.getElem?_eq_getElem hi,hci]at hz
  cases hz
  exact hb
end
section
variable {H:Type} {enc:TypeId×Value->H} {w:World} {base:Nat} {spare:Nat->Bool} {held:Bool}
theorem ZJ {P:Program} {t:TypeId} {f0 f1 f2 f3 f4 f5:Field} {fuel:Nat} {cs:List Value} {x:DataW H×List MemPlace}(ht:P.underlying t=some (.struct #[f0,f1,f2,f3,f4,f5]))(h:DataW.trod enc P w base spare held fuel t cs=some x):
 ∃y0 y1 y2 y3 y4 y5 n,cs.length=P.cellsOf t/\DataW.trod enc P w base spare held n f0.type ((cs.drop f0.offset).take (P.cellsOf f0.type))=some y0/\
  DataW.trod enc P w base spare held n f1.type ((cs.drop f1.offset).take (P.cellsOf f1.type))=some y1/\DataW.trod enc P w base spare held n f2.type ((cs.drop f2.offset).take (P.cellsOf f2.type))=some y2/\
  DataW.trod enc P w base spare held n f3.type ((cs.drop f3.offset).take (P.cellsOf f3.type))=some y3/\DataW.trod enc P w base spare held n f4.type ((cs.drop f4.offset).take (P.cellsOf f4.type))=some y4/\
  DataW.trod enc P w base spare held n f5.type ((cs.drop f5.offset).take (P.cellsOf f5.type))=some y5:=by
 obtain⟨xs,n,_,rfl,hl,hlen,hf⟩:=DataW.trod_struct ht h
 match xs,hlen with
 | [y0,y1,y2,y3,y4,y5],_=>exact⟨y0,y1,y2,y3,y4,y5,n,hl,by simpa using hf 0 f0 rfl,by simpa using hf 1 f1 rfl,by simpa using hf 2 f2 rfl,by simpa using hf 3 f3 rfl,by simpa using hf 4 f4 rfl,by simpa using hf 5 f5 rfl⟩
theorem ZV:Tryz.prog.cellsOf 25=32:=by kernel_rfl
theorem Ys:Tryz.prog.cellsOf 26=1:=by kernel_rfl
theorem ZW:Tryz.prog.cellsOf 5=1:=by kernel_rfl
theorem zK:Tryz.prog.cellsOf 3=1:=by kernel_rfl
theorem Y5:Tryz.prog.cellsOf 28=38:=by kernel_rfl
theorem Y6:Tryz.prog.cellsOf 23=2:=by kernel_rfl
theorem yM {fuel:Nat} {cs:List Value} {x:DataW H×List MemPlace}(h:DataW.trod enc Tryz.prog w base spare held fuel 28 cs=some x):
 ∃y:Hd Fac,cs=sF.row y/\sF.Good w y.1 y.2.1 y.2.2:=by
 obtain⟨y0,y1,y2,y3,y4,y5,n,hl,h0,h1,h2,h3,h4,h5⟩:=ZJ Tryz.underlying28 h
 have h0':DataW.trod enc Tryz.prog w base spare held n 3 ((cs.drop 0).take 1)=some y0:=by rw[<-zK];exact h0
 have h1':DataW.trod enc Tryz.prog w base spare held n 3 ((cs.drop 1).take 1)=some y1:=by rw[<-zK];exact h1
 have h2':DataW.trod enc Tryz.prog w base spare held n 3 ((cs.drop 2).take 1)=some y2:=by rw[<-zK];exact h2
 have h3':DataW.trod enc Tryz.prog w base spare held n 23 ((cs.drop 3).take 2)=some y3:=by rw[<-Y6];exact h3
 have h4':DataW.trod enc Tryz.prog w base spare held n 25 ((cs.drop 5).take 32)=some y4:=by rw[<-ZV];exact h4
 have h5':DataW.trod enc Tryz.prog w base spare held n 26 ((cs.drop 37).take 1)=some y5:=by rw[<-Ys];exact h5
 rw[Y5]at hl
 clear h0 h1 h2 h3 h4 h5 h
 obtain⟨K,c0,_,hw0⟩:=DataW.trod_int Tryz.underlying3 h0'
 obtain⟨S,c1,_,hw1⟩:=DataW.trod_int Tryz.underlying3 h1'
 obtain⟨Hm,c2,_,hw2⟩:=DataW.trod_int Tryz.underlying3 h2'
 obtain⟨z0,z1,n3,_,hl3,g0,g1⟩:=Go.ChangeShapes.trod_struct2 Tryz.underlying23 h3'
 have g0':DataW.trod enc Tryz.prog w base spare held n3 3 ((((cs.drop 3).take 2).drop 0).take 1)=some z0:=by rw[<-zK];exact g0
 have g1':DataW.trod enc Tryz.prog w base spare held n3 3 ((((cs.drop 3).take 2).drop 1).take 1)=some z1:=by rw[<-zK];exact g1
 obtain⟨N,c3,_,hw3⟩:=DataW.trod_int Tryz.underlying3 g0'
 obtain⟨O,c4,_,hw4⟩:=DataW.trod_int Tryz.underlying3 g1'
 obtain⟨D,c5,hD,hDb⟩:=ZI Tryz.underlying25 Tryz.underlying5 ZW ZV h4'
 obtain⟨q,B,cap,c6,hA,hle,hm,hn,hB⟩:=ZH Tryz.underlying26 Tryz.underlying5 ZW h5'
 clear h0' h1' h2' h3' h4' h5' g0 g1 g0' g1' hl3
 have e:cs= .int .i64 K::.int .i64 S::.int .i64 Hm::.int .i64 N::.int .i64 O::(D.map v8++[.slice q B.length cap]):=by
  rcases cs with _ | ⟨a0,_ | ⟨a1,_ | ⟨a2,_ | ⟨a3,_ | ⟨a4,r⟩⟩⟩⟩⟩
  ·simp at hl
  ·simp at hl
  ·simp at hl
  ·simp at hl
  ·simp at hl
  ·simp at c0 c1 c2 c3 c4 c5 c6 hl
   subst c0 c1 c2 c3 c4
   rw[<-c5,<-c6]
   have hr:r=r.take 32++(r.drop 32).take 1:=by rw[List.take_of_length_le (l:=r.drop 32) (by rw[List.length_drop];omega),List.take_append_drop]
   rw[<-hr]
 have k0:=bounds_i64 hw0
 have k1:=bounds_i64 hw1
 have k2:=bounds_i64 hw2
 have k3:=bounds_i64 hw3
 have k4:=bounds_i64 hw4
 exact⟨(⟨K,S,Hm,N,O,D,B⟩,q,cap),e,⟨⟨k0,k1,k2,k3,k4,hDb,hB,hD⟩,hA,hle,by unfold maxLen at hm;omega,hn⟩⟩
theorem yf {r:Reach} {b0:Nat} {v:Value} {d:DataW H} {p:List MemPlace}(hv:Value.okWide Tryz.prog w r b0 28 v)(h:DataW.Trod enc Tryz.prog w base spare held 28 v d p):
 ∃(x:Fac) (q:Option Addr) (c:Nat),v= .agg (fcells x q c).toArray/\sF.Good w x q c:=by
 obtain⟨cs,rfl,_⟩:=okWide_struct Tryz.underlying28 hv
 obtain⟨fuel,hf⟩:=h
 obtain⟨⟨x,q,c⟩,h1,h2⟩:=yM hf
 exact⟨x,q,c,by simp[Value.cells]at h1;rw[show(fcells x q c)=cs.toList from h1.symm],h2⟩
end
end
end Go.Proofs.YtokpabkcaofahaaGreat
