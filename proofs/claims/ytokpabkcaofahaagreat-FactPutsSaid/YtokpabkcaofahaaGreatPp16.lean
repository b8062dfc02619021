/-
  What stands under factPuts_holds: part 16.
-/
import Derived.Test.YtokpabkcaofahaaGreatPp14
import Derived.Test.YtokpabkcaofahaaGreatPp13
import Derived.Test.YtokpabkcaofahaaGreatPp15
import Derived.ChangeAlike
import Derived.Test.YtokpabkcaofahaaGreatPp1
import Derived.Test.YtokpabkcaofahaaGreatPp4
import Derived.Deep.RegionLaw
import Derived.WalkSpells
import Derived.IntWalk
import Derived.WalkLawsBesides
import Derived.Test.YtokpabkcaofahaaGreatPp3
namespace Go.Proofs.YtokpabkcaofahaaGreat
set_option linter.unusedSimpArgs false
set_option linter.unusedVariables false
set_option maxRecDepth 100000
set_option maxHeartbeats 20000000
section
open Go.RowKit Sha
open Fld (Itm)
theorem icells_splice {x:Itm}(hx:x.ok) {D':List Int}(hl:D'.length=32) {q:Option Addr} {c:Nat}:splice (icells x q c) 2 (D'.map v8)=icells ⟨x.N,x.B,D'⟩ q c:=by
 have h:(icells x q c).length=34:=icells_length hx q c
 have e:∀(y:Itm),icells y q c= [.int .i64 y.N,.slice q y.B.length c]++y.D.map v8:=fun y=>by unfold icells;rfl
 unfold splice
 rw[List.length_map,hl,List.drop_eq_nil_of_le (by omega),List.append_nil,e x,e ⟨x.N,x.B,D'⟩]
 rfl
attribute [local go_sem ↓] execOp_loadItem execOp_buildItems
theorem get_d (w0:World)(ga:Nat)(bs:List Int)(p:Option Addr)(n c:Nat)(hin:RIn w0 ga bs p n c)(hn:n<=1000000)(at_:Nat)(l:List Itm)(w:World)(h:RAt w0 ga bs p n c (at_,l) w):
 Calls Tryz.prog 113 #[.pointer (some ⟨ga,0,none⟩),.int .i32 100] w (GDone w0 ga bs p n c 100 (at_,l) w):=by
 obtain⟨v,ys,hs⟩:=h
 have HI:=Lib.hid hin
 have HS:=Lib.hid hs
 have hat:at_<=n:=hs.at_
 clear hin hs
 by_cases hsh:n - at_ < 32
 ·have HG:=Lib.hid (show Fld.getS bs 100 (at_,l)=((n,l),0,4) by unfold Fld.getS;rw[if_neg (by omega),if_pos rfl,HI.out.len,if_pos hsh])
  go_enter Tryz.func113,Tryz.ntmps113
  go_wp2_with (first
   | (refine wpList_alloc_arr rfl 83 rfl _ item_info ?_;have hkA:=HS.out.blk.old (Obj.cells (icells ⟨0,[],Fld.zero32⟩ none 0).toArray 83);have hiA:=Blk.new w (icells ⟨0,[],Fld.zero32⟩ none 0).toArray 83;have hoA:=only_alloc (only_refl w ga) (Obj.cells (icells ⟨0,[],Fld.zero32⟩ none 0).toArray 83);rw[List.toList_toArray]at hiA;have hBA:=below_only HS.out.below hoA HI.out.base HS.out.below.size;have hgx:w.heap.size<=w.heap.size:=Nat.le_refl _;have hlt:ga < w.heap.size:=HS.out.blk.lt;have hgne:w.heap.size≠ga:=(by omega);generalize w.alloc (Obj.cells (icells ⟨0,[],Fld.zero32⟩ none 0).toArray 83)=wA at *;generalize hgxe:w.heap.size=gx at *;have HGX:=Lib.hid hgxe.symm;clear hgxe;have HKA:=Lib.hid hkA;have HIA:=Lib.hid hiA;have HOA:=Lib.hid hoA;have HBA:=Lib.hid hBA;clear hkA hiA hoA hBA hgx)
   | (go_at_call 144;refine(fill_any w0 ga gx 2 32 32 bs p n c HI.out v at_ wA HBA.out hat HKA.out _ 83 HIA.out hlt (by omega) (by rw[icells_length item0_ok'];omega)).mono ?_;rintro e w1 hf;unfold FDone at hf;rw[if_pos hsh]at hf;obtain⟨rfl,hk1,hi1,ho1⟩:=hf;have HK1:=Lib.hid hk1;have HO1:=Lib.hid (only_trans HOA.out ho1);clear hk1 ho1 hi1))
  go_ret2
  exact⟨by rw[HG.out];rfl,by rw[HG.out];exact HS.out.err HI.out.base HO1.out HK1.out (Nat.le_refl _) (by have h2:=HS.out.few;simp only at h2;show l.length<=n;omega),iters_of (others_only HO1.out 5) ⟨_,_,HS.out.blk⟩⟩
 ·have HG:=Lib.hid (show Fld.getS bs 100 (at_,l)=((at_+32,l++[⟨0,[],(bs.drop at_).take 32⟩]),0,0) by unfold Fld.getS;rw[if_neg (by omega),if_pos rfl,HI.out.len,if_neg hsh])
  have hk1:at_+32<=n:=by omega
  have HDL:=Lib.hid (show((bs.drop at_).take 32).length=32 by rw[List.length_take,List.length_drop,HI.out.len];omega)
  have HOKX:=Lib.hid (show Itm.ok ⟨0,[],(bs.drop at_).take 32⟩from⟨by simp,by simp,by simp,fun x hx=>HI.out.bd x (List.mem_of_mem_drop (List.mem_of_mem_take hx)),HDL.out⟩)
  go_enter Tryz.func113,Tryz.ntmps113
  go_wp2_with (first
   | (refine wpList_alloc_arr rfl 83 rfl _ item_info ?_;have hkA:=HS.out.blk.old (Obj.cells (icells ⟨0,[],Fld.zero32⟩ none 0).toArray 83);have hiA:=Blk.new w (icells ⟨0,[],Fld.zero32⟩ none 0).toArray 83;have hoA:=only_alloc (only_refl w ga) (Obj.cells (icells ⟨0,[],Fld.zero32⟩ none 0).toArray 83);rw[List.toList_toArray]at hiA;have hBA:=below_only HS.out.below hoA HI.out.base HS.out.below.size;have hgx:w.heap.size<=w.heap.size:=Nat.le_refl _;have hlt:ga < w.heap.size:=HS.out.blk.lt;have hgne:w.heap.size≠ga:=(by omega);generalize w.alloc (Obj.cells (icells ⟨0,[],Fld.zero32⟩ none 0).toArray 83)=wA at *;generalize hgxe:w.heap.size=gx at *;have HGX:=Lib.hid hgxe.symm;clear hgxe;have HKA:=Lib.hid hkA;have HIA:=Lib.hid hiA;have HOA:=Lib.hid hoA;have HBA:=Lib.hid hBA;clear hkA hiA hoA hBA hgx)
   | (go_at_call 144;refine(fill_any w0 ga gx 2 32 32 bs p n c HI.out v at_ wA HBA.out hat HKA.out _ 83 HIA.out hlt (by omega) (by rw[icells_length item0_ok'];omega)).mono ?_;rintro e w1 hf;unfold FDone at hf;rw[if_neg hsh]at hf;obtain⟨rfl,hk1',hi1,w3,hb3,ho3⟩:=hf;have HK1:=Lib.hid hk1';have HO1:=Lib.hid (only_fill HOA.out (Nat.le_of_eq HGX.out.symm) hb3 ho3);rw[icells_splice item0_ok' HDL.out]at hi1;have HI1:=Lib.hid hi1;clear hk1' hb3 ho3 hi1))
  have hgs:=HS.out.step HI.out.base HO1.out HK1.out HI1.out ⟨HOKX.out,rfl,by simp,Or.inl ⟨rfl,rfl⟩⟩ (Nat.le_of_eq HGX.out.symm)
  have HLL:=Lib.hid (show l.length+1<=at_+32 by have h2:=HS.out.few;simp only at h2;omega)
  obtain⟨x,hxx⟩:∃x:Itm,x=⟨0,[],(bs.drop at_).take 32⟩:=⟨_,rfl⟩
  have HXN:=Lib.hid (show x.N=0 by rw[hxx])
  have GS:=Lib.hid hgs
  clear hgs HK1 HI1 HO1
  generalize w1=w2 at *
  obtain⟨at2,hat2⟩:∃a,a=at_+32:=⟨_,rfl⟩
  rw[<-hat2]at GS HG HLL hk1
  clear hat2 HDL hsh
  rw[<-hxx]at GS HG
  clear hxx HOKX
  obtain⟨q,hq⟩:∃q:Option Addr,q=none:=⟨_,rfl⟩
  obtain⟨qc,hqc⟩:∃qc:Nat,qc=0:=⟨_,rfl⟩
  rw[<-hq,<-hqc]at GS
  clear hq hqc
  have c2:w2.cell? ⟨ga,2,none⟩=some v:=GS.out.blk.cell 2
  have g0:w2.cell? ⟨gx,0,none⟩=some (.int .i64 x.N):=(GS.out.item.cell 0).trans (icells_0 _ _ _)
  have c2':(w2.alloc (Obj.cells (icells x q qc).toArray 83)).cell? ⟨ga,2,none⟩=some v:=(GS.out.blk.old _).cell 2
  have ld:=load_item GS.out.goodx.ok GS.out.item.drew
  have bd:=fun w=>build_item w (q:=q) (c:=qc) GS.out.goodx.ok
  have hll:=HLL.out
  obtain⟨i0,hi0,hz0,hz1,hz2⟩:=info_parts item_all3
  have HI0:=Lib.hid hi0
  have HZ0:=Lib.hid hz0
  have HZ1:=Lib.hid hz1
  have HZ2:=Lib.hid hz2
  clear hi0 hz0 hz1 hz2
  have HZS:=Lib.hid (show(Value.agg (icells ⟨0,[],Fld.zero32⟩ none 0).toArray).cells.size=34 by show(icells ⟨0,[],Fld.zero32⟩ none 0).toArray.size=34;rw[List.size_toArray,icells_length item0_ok'])
  go_region_law ((refine step_append_lies _ (by rfl) _ _ _ (by rfl) w0.heap.size 83 i0 _ 34 64 Tryz.underlying81 HI0.out HZ0.out HZ1.out HZ2.out HZS.out (by omega) v l.length _ (by rfl) ((GS.out.own.alloc _).drew) ⟨w2.heap.size,0,none⟩ 1 1 (icells x q qc) (by rfl) (by rw[icells_length GS.out.goodx.ok]) (World.news_of_block (cs:=(icells x q qc).toArray) (t:=83) (fr:=(0,0)) (heap_alloc_new w2 _)) (icells_one x q qc) (by omega) (by unfold maxLen;omega) (by omega) (by have:=GS.out.size;simp;omega) (w2.heap.size+1) (by simp) ?_;intro g5 cap5 w5 hown5 hgrow5 hat5 hlt5;obtain⟨ra5,it5,k5,i5⟩:=GS.out.done HI.out.base (Obj.cells (icells x q qc).toArray 83) ⟨hgrow5.os,hgrow5.tape,hgrow5.output,hgrow5.size,hgrow5.block⟩ hown5 hk1 hll;have s0:w5.cell? ⟨ga,2,none⟩=some v:=k5.cell 2;have s1:w5.frozen? ⟨ga,2,none⟩=false:=k5.free 2;have s2:w5.cell? ⟨gx,0,none⟩=some (.int .i64 x.N):=(i5.cell 0).trans (icells_0 _ _ _);have RA5:=Lib.hid ra5;have IT5:=Lib.hid it5;clear hown5 hgrow5 hat5 ra5 it5 k5 i5))
  all_goals
   go_wp2_with fail
   go_ret2
   exact⟨by rw[HG.out];show Ending.returned (.tuple #[.int .i64 x.N,.int .i64 0])=_;rw[HXN.out],by rw[HG.out];exact RA5.out,IT5.out⟩
end
section
open Go.RowKit Sha
open Fld (Itm)
attribute [local go_sem ↓] execOp_loadItem execOp_buildItems
theorem get_b (w0:World)(ga:Nat)(bs:List Int)(p:Option Addr)(n c:Nat)(hin:RIn w0 ga bs p n c)(hn:n<=1000000)(at_:Nat)(l:List Itm)(w:World)(h:RAt w0 ga bs p n c (at_,l) w):
 Calls Tryz.prog 113 #[.pointer (some ⟨ga,0,none⟩),.int .i32 98] w (GDone w0 ga bs p n c 98 (at_,l) w):=by
 obtain⟨v,ys,hs⟩:=h
 have HI:=Lib.hid hin
 have HS:=Lib.hid hs
 have hat:at_<=n:=hs.at_
 clear hin hs
 go_enter Tryz.func113,Tryz.ntmps113
 go_wp2_with ((refine wpList_alloc_arr rfl 83 rfl _ item_info ?_;have hkA:=HS.out.blk.old (Obj.cells (icells ⟨0,[],Fld.zero32⟩ none 0).toArray 83);have hiA:=Blk.new w (icells ⟨0,[],Fld.zero32⟩ none 0).toArray 83;have hoA:=only_alloc (only_refl w ga) (Obj.cells (icells ⟨0,[],Fld.zero32⟩ none 0).toArray 83);rw[List.toList_toArray]at hiA;have hBA:=below_only HS.out.below hoA HI.out.base HS.out.below.size;have hgx:w.heap.size<=w.heap.size:=Nat.le_refl _;have hlt:ga < w.heap.size:=HS.out.blk.lt;have hgne:w.heap.size≠ga:=(by omega);generalize w.alloc (Obj.cells (icells ⟨0,[],Fld.zero32⟩ none 0).toArray 83)=wA at *;generalize hgxe:w.heap.size=gx at *;have HGX:=Lib.hid hgxe.symm;clear hgxe;have HKA:=Lib.hid hkA;have HIA:=Lib.hid hiA;have HOA:=Lib.hid hoA;have HBA:=Lib.hid hBA;clear hkA hiA hoA hBA hgx))
 refine(bytes_any w0 ga bs p n c HI.out v at_ wA HBA.out hat HKA.out).mono ?_
 rintro e w1 ⟨qq,mm,cc,er,at2,rfl,hk1,ho1,hor⟩
 have hi1:=HIA.out.grow ho1 (fun e=>hgne (Option.some.inj e).symm)
 have d0:w1.cell? ⟨gx,1,none⟩=some (.slice none 0 0):=(hi1.cell 1).trans (icells_1 _ _ _)
 have d1:w1.frozen? ⟨gx,1,none⟩=false:=hi1.free 1
 have d2:w1.cell? ⟨gx,0,none⟩=some (.int .i64 0):=(hi1.cell 0).trans (icells_0 _ _ _)
 have HK1:=Lib.hid hk1
 have HO1:=Lib.hid (only_trans HOA.out ho1)
 have HAS:=Lib.hid (show gx < wA.heap.size from HIA.out.lt)
 have HI1:=Lib.hid hi1
 clear hk1 ho1 hi1
 have ho2:=only_setNew HO1.out (Nat.le_of_eq HGX.out.symm) 1 (.slice qq mm cc)
 have hk3:=HK1.out.setOther (⟨gx,1,none⟩:Addr) (.slice qq mm cc) (Ne.symm hgne)
 have HO2:=Lib.hid ho2
 have HK3:=Lib.hid hk3
 clear ho2 hk3
 rcases hor with⟨he,h1,h2,h3⟩ | ⟨rfl,m,k,g,h1,h2,h3,h4,h5,rfl,rfl,rfl,h6,h7⟩
 ·have he':(er == 0)=false:=by simpa using he
  have HG:=Lib.hid (h3 l)
  have HF:=Lib.hid (show l.length<=at2 by have h4:=HS.out.few;simp only at h4;omega)
  clear he h3
  go_wp2_with fail
  go_ret2
  exact⟨by rw[HG.out];rfl,by rw[HG.out];exact HS.out.err HI.out.base HO2.out HK3.out h2 HF.out,iters_of (others_only HO2.out 5) ⟨_,_,HS.out.blk⟩⟩
 ·have HG:=Lib.hid (h1 l)
  have HLEN:=Lib.hid h2
  have HB1:=Lib.hid h6
  have HGG:=Lib.hid h7
  have hk1:at2<=n:=h5
  have HLL:=Lib.hid (show l.length+1<=at2 by have h8:=HS.out.few;simp only at h8;omega)
  have HMX:=Lib.hid h3
  clear h1 h2 h3 h4 h5 h6 h7
  go_wp2_with fail
  obtain⟨x,hxx⟩:∃x:Itm,x=⟨0,(bs.drop (at_+k)).take cc,Fld.zero32⟩:=⟨_,rfl⟩
  have HXN:=Lib.hid (show x.N=0 by rw[hxx])
  have hi2:Blk (w1.setCell ⟨gx,1,none⟩ (.slice (some ⟨g,0,none⟩) cc cc)) gx (icells x (some ⟨g,0,none⟩) cc) 83:=by
   have h8:=HI1.out.set 1 (.slice (some ⟨g,0,none⟩) cc cc)
   have h9:=icells_set1 ⟨0,[],Fld.zero32⟩ none 0 ((bs.drop (at_+k)).take cc) (some ⟨g,0,none⟩) cc
   rw[<-HLEN.out]at h9
   rw[h9]at h8
   rw[hxx];exact h8
  have hgx:GoodR (w1.setCell ⟨gx,1,none⟩ (.slice (some ⟨g,0,none⟩) cc cc)) x (some ⟨g,0,none⟩) cc:=by
   rw[hxx]
   refine⟨⟨by simp,by simp,fun y hy=>HI.out.bd y (List.mem_of_mem_drop (List.mem_of_mem_take hy)),item0_ok'.D,Fld.zero32_length⟩,HLEN.out,HMX.out,Or.inr ⟨g,rfl,HB1.out.setOther _ _ ?_⟩⟩
   have h8:=HAS.out
   have h9:=HGG.out
   show g≠gx
   omega
  have GS:=Lib.hid (HS.out.step HI.out.base HO2.out HK3.out hi2 hgx (Nat.le_of_eq HGX.out.symm))
  rw[<-hxx]at HG
  clear hxx hi2 hgx HK1 HO1 HI1 HO2 HK3 d0 d1 d2 HLEN HB1 HGG HMX
  generalize w1.setCell ⟨gx,1,none⟩ (.slice (some ⟨g,0,none⟩) cc cc)=w2 at *
  obtain⟨q,hq⟩:∃q:Option Addr,q=some ⟨g,0,none⟩:=⟨_,rfl⟩
  obtain⟨qc,hqc⟩:∃qc:Nat,qc=cc:=⟨_,rfl⟩
  rw[<-hq,<-hqc]at GS
  clear hq hqc
  have c2:w2.cell? ⟨ga,2,none⟩=some v:=GS.out.blk.cell 2
  have g0:w2.cell? ⟨gx,0,none⟩=some (.int .i64 x.N):=(GS.out.item.cell 0).trans (icells_0 _ _ _)
  have c2':(w2.alloc (Obj.cells (icells x q qc).toArray 83)).cell? ⟨ga,2,none⟩=some v:=(GS.out.blk.old _).cell 2
  have ld:=load_item GS.out.goodx.ok GS.out.item.drew
  have bd:=fun w=>build_item w (q:=q) (c:=qc) GS.out.goodx.ok
  have hll:=HLL.out
  obtain⟨i0,hi0,hz0,hz1,hz2⟩:=info_parts item_all3
  have HI0:=Lib.hid hi0
  have HZ0:=Lib.hid hz0
  have HZ1:=Lib.hid hz1
  have HZ2:=Lib.hid hz2
  clear hi0 hz0 hz1 hz2
  have HZS:=Lib.hid (show(Value.agg (icells ⟨0,[],Fld.zero32⟩ none 0).toArray).cells.size=34 by show(icells ⟨0,[],Fld.zero32⟩ none 0).toArray.size=34;rw[List.size_toArray,icells_length item0_ok'])
  go_region_law ((refine step_append_lies _ (by rfl) _ _ _ (by rfl) w0.heap.size 83 i0 _ 34 64 Tryz.underlying81 HI0.out HZ0.out HZ1.out HZ2.out HZS.out (by omega) v l.length _ (by rfl) ((GS.out.own.alloc _).drew) ⟨w2.heap.size,0,none⟩ 1 1 (icells x q qc) (by rfl) (by rw[icells_length GS.out.goodx.ok]) (World.news_of_block (cs:=(icells x q qc).toArray) (t:=83) (fr:=(0,0)) (heap_alloc_new w2 _)) (icells_one x q qc) (by omega) (by unfold maxLen;omega) (by omega) (by have:=GS.out.size;simp;omega) (w2.heap.size+1) (by simp) ?_;intro g5 cap5 w5 hown5 hgrow5 hat5 hlt5;obtain⟨ra5,it5,k5,i5⟩:=GS.out.done HI.out.base (Obj.cells (icells x q qc).toArray 83) ⟨hgrow5.os,hgrow5.tape,hgrow5.output,hgrow5.size,hgrow5.block⟩ hown5 hk1 hll;have s0:w5.cell? ⟨ga,2,none⟩=some v:=k5.cell 2;have s1:w5.frozen? ⟨ga,2,none⟩=false:=k5.free 2;have s2:w5.cell? ⟨gx,0,none⟩=some (.int .i64 x.N):=(i5.cell 0).trans (icells_0 _ _ _);have RA5:=Lib.hid ra5;have IT5:=Lib.hid it5;clear hown5 hgrow5 hat5 ra5 it5 k5 i5))
  all_goals
   go_wp2_with fail
   go_ret2
   exact⟨by rw[HG.out];show Ending.returned (.tuple #[.int .i64 x.N,.int .i64 0])=_;rw[HXN.out],by rw[HG.out];exact RA5.out,IT5.out⟩
end
section
open Go.RowKit Sha
theorem repeat_r {σ:Type} {ga B:Nat} {f:Int->σ->σ×Int×Int} {R:σ->World->Prop}(D:Doer Tryz.prog 113 ga B f R)(g:ByteArray)(gl:List Int)(hgl:gl=nums g)(hg:∀c∈gl,Fld.isC c)(times:Int)(ht:times<=9223372036854775807)(st:σ)(w:World)(hR:R st w)(hs:g.size<=40):
 Calls Tryz.prog 116 #[.string g,.int .i64 times,.func (.func 113) #[.pointer (some ⟨ga,0,none⟩)] #[]] w (RDone R (Fld.rep f gl times.toNat st) w):=by
 have HR:=Lib.hid hR
 have HD:=Lib.hid D
 have HG:=Lib.hid hg
 have HL:=Lib.hid hgl
 have H128:=Lib.hid (show∀c∈nums g,c < 128 from fun c hc=>isC_lt (hg c (by rw[hgl];exact hc)))
 clear hR D hg hgl
 obtain⟨T,hT⟩:∃T,T=times.toNat:=⟨_,rfl⟩
 rw[<-hT]
 have hT1:T=times.toNat:=hT
 have HT:=Lib.hid hT
 clear hT hT1
 go_enter Tryz.func116,Tryz.ntmps116
 go_wp2_with fail
 go_loopg [12] T (fun gh i wr=>∃(k:Nat) (sk:σ),i= .int .i64 k/\gh=T - k/\k<=T/\Hid (Fld.rep f gl T st=Fld.rep f gl (T - k) sk)/\Hid (R sk wr)/\Hid (ItersKept w wr))
 case atStart=>exact⟨0,st,rfl,rfl,by omega,rfl,HR,ItersKept.refl _⟩
 case round=>
  obtain⟨k,sk,rfl,rfl,hk,HE,HK,HO⟩:=hrel
  clear HR
  by_cases hlt:(k:Int) < times
  ·have hkT:k+1<=T:=by have:=HT.out;omega
   have HE1:=Lib.hid (show Fld.rep f gl T st=Fld.rep f gl ((T - (k+1))+1) sk by rw[show T - (k+1)+1=T - k by omega];exact HE.out)
   clear HE
   go_wp2_with fail
   have HI0:=Lib.hid (World.iter_heap wr g 0)
   have HK0:=Lib.hid (HD.out.keepA _ _ (.stringIter g 0) HK.out)
   have HO0:=Lib.hid (ItersBut.new HO.out (.stringIter g 0))
   have HS:=Lib.hid (show(wr.iter g 0)=wr.alloc (.stringIter g 0)from rfl)
   rw[<-HS.out]at HK0 HO0
   clear HS
   have hgb:=HD.out.base _ _ HK.out
   generalize wr.iter g 0=wz at *
   generalize wr.heap.size=gi at *
   go_loopg [8] g.size (fun gh2 c wi=>∃(j:Nat) (sj:σ),j<=g.size/\gh2=g.size - j/\Hid (wi.heap[gi]? = some (.stringIter g j))/\Hid (Fld.once f gl sk=Fld.once f ((nums g).drop j) sj)/\Hid (R sj wi)/\Hid (ItersBut gi w wi))
   case atStart=>exact⟨0,sk,by omega,rfl,HI0,Lib.hid (by rw[List.drop_zero,HL.out]),HK0,HO0⟩
   case round=>
    obtain⟨j,sj,hj,rfl,HI,HF,HJ,HP⟩:=hrel
    clear HI0 HK0 HO0 HK HO
    by_cases hp:j < g.size
    ·obtain⟨c,hn,hd⟩:=next_isL Tryz.prog g j hp H128.out
     have hnx:=fun ty=>hn.run wr gi ty HI.out
     have HC:=Lib.hid (HG.out c (by rw[HL.out];exact List.mem_of_mem_drop (by rw[hd];exact List.mem_cons_self ..)))
     have HI2:=Lib.hid (Lib.iterAt_heap _ _ _ _ (j+1) HI.out)
     have HJ2:=Lib.hid (HD.out.keepI _ _ _ _ _ (j+1) HJ.out hgb HI.out)
     have HP2:=Lib.hid (HP.out.move g (j+1))
     have HF2:=Lib.hid (HF.out.trans (congrArg (fun l=>Fld.once f l sj) hd))
     clear hd hn
     by_cases h0:(f c sj).2.2=0
     ·have h0':((f c sj).2.2 == 0)=true:=by simpa using h0
      have HN:=Lib.hid (HF2.out.trans (once_ok h0))
      have H0:=Lib.hid h0
      clear h0
      go_wp2_with fail
      refine(HD.out.step c sj _ HC.out HJ2.out).mono ?_
      rintro e w2 ⟨rfl,hr2,hi2⟩
      have HR2:=Lib.hid hr2
      have HI3:=Lib.hid (hi2 _ _ _ HI2.out)
      have HP3:=Lib.hid (HP2.out.on hi2)
      clear hr2 hi2
      go_wp2_with fail
      go_roundg (g.size - (j+1))
      case measure=>omega
      case rel=>exact⟨j+1,_,by omega,rfl,HI3,HN,HR2,HP3⟩
     ·have h0':((f c sj).2.2 == 0)=false:=by simpa using h0
      have HN:=Lib.hid (HE1.out.trans (rep_err (HF2.out.trans (once_err h0)) h0))
      clear h0
      go_wp2_with fail
      refine(HD.out.step c sj _ HC.out HJ2.out).mono ?_
      rintro e w2 ⟨rfl,hr2,hi2⟩
      have HR2:=Lib.hid hr2
      have HP3:=Lib.hid (HP2.out.on hi2)
      clear hr2 hi2
      go_wp2_with fail
      try rw[Exit.noGoto_ret]
      go_ret
      exact⟨by rw[HN.out];rfl,by rw[HN.out];exact HR2.out,HP3.out.kept⟩
    ·obtain rfl:j=g.size:=by omega
     have hnx:=fun ty=>Lib.run_next_end_at (P:=Tryz.prog) wr gi g g.size ty HI.out (by omega)
     have HN:=Lib.hid (HE1.out.trans (rep_ok (HF.out.trans (by rw[<-nums_length,List.drop_length];rfl))))
     go_wp2_with fail
     go_roundg (T - (k+1))
     case measure=>omega
     case rel=>exact⟨k+1,sj,by go_num,rfl,by omega,HN,HJ,HP.out.kept⟩
  ·have HZ:=Lib.hid (show Fld.rep f gl T st=(sk,0) by rw[HE.out,show T - k=0 by have:=HT.out;omega];rfl)
   go_wp2_with fail
   go_ret
   exact⟨by rw[HZ.out];rfl,by rw[HZ.out];exact HK.out,HO.out⟩
theorem walk_r {σ:Type} {ga B:Nat} {f:Int->σ->σ×Int×Int} {R:σ->World->Prop}(D:Doer Tryz.prog 113 ga B f R)(s:ByteArray)(hs:s.size<=40)(hc:Fld.chkL (nums s) false false=true)(st:σ)(w:World)(hR:R st w):
 Calls Tryz.prog 83 #[.string s,.func (.func 113) #[.pointer (some ⟨ga,0,none⟩)] #[]] w (RDone R (Fld.walkL f none 0 (nums s) st) w):=by
 have H128:=Lib.hid (chkL_lt _ _ _ hc)
 have HW0:=Lib.hid (show WRel f (nums s) st 0 0 0 none false st from⟨Or.inl ⟨rfl,rfl⟩,by simp,by rw[List.drop_zero];exact hc,by rw[List.drop_zero]⟩)
 have HD:=Lib.hid D
 have HR:=Lib.hid hR
 clear hc D hR
 obtain⟨l,hl⟩:∃l,l=nums s:=⟨_,rfl⟩
 rw[<-hl]at HW0 H128 ⊢
 have HL:=Lib.hid hl
 have HS:=Lib.hid (show l.length=s.size by rw[hl,nums_length])
 clear hl
 go_enter Tryz.func83,Tryz.ntmps83
 go_wp2_with fail
 go_step3
 go_wp2_with fail
 go_step3
 go_wp2_with fail
 have HI0:=Lib.hid (World.iter_heap w s 0)
 have HK0:=Lib.hid (HD.out.keepA _ _ (.stringIter s 0) HR.out)
 have HO0:=Lib.hid (ItersBut.new (ItersKept.refl w) (.stringIter s 0))
 have HZ:=Lib.hid (show(w.iter s 0)=w.alloc (.stringIter s 0)from rfl)
 rw[<-HZ.out]at HK0 HO0
 have hgb:=HD.out.base _ _ HR.out
 clear HZ HR
 generalize w.iter s 0=wz at *
 obtain⟨gi,hgi⟩:∃gi,gi=w.heap.size:=⟨_,rfl⟩
 rw[<-hgi]at HI0 HO0 hgb ⊢
 clear hgi
 go_loopg [5,6] s.size (fun gh b t wr=>∃(k bg:Nat) (tt:Int) (gO:Option (List Int)) (kk:Bool) (sk:σ),k<=s.size/\gh=s.size - k/\b= .int .i64 bg/\t= .int .i64 tt/\tt<=9223372036854775807/\Hid (wr.heap[gi]? = some (.stringIter s k))/\Hid (WRel f l st k bg tt gO kk sk)/\Hid (R sk wr)/\Hid (ItersBut gi w wr))
 case atStart=>exact⟨0,0,0,none,false,st,by omega,rfl,rfl,rfl,by omega,HI0,HW0,HK0,HO0⟩
 case round=>
  obtain⟨k,bg,tt,gO,kk,sk,hk,rfl,rfl,rfl,htt,HI,HW,HJ,HP⟩:=hrel
  clear HI0 HK0 HO0 HW0
  by_cases hp:k < s.size
  ·obtain⟨c,hn,hd⟩:=next_isL Tryz.prog s k hp (by rw[<-HL.out];exact H128.out)
   rw[<-HL.out]at hd
   have hnx:=fun ty=>hn.run wr gi ty HI.out
   have HI2:=Lib.hid (Lib.iterAt_heap _ _ _ _ (k+1) HI.out)
   have HJ2:=Lib.hid (HD.out.keepI _ _ _ _ _ (k+1) HJ.out hgb HI.out)
   have HP2:=Lib.hid (HP.out.move s (k+1))
   have HDR:=Lib.hid hd
   clear hd hn
   cases gO with
   | none=>
      have hbg:bg=0:=by
       rcases HW.out.grp with h | ⟨cs,h,_⟩
       ·exact h.2
       ·cases h
      subst hbg
      have hck:=HW.out.chk
      rw[HDR.out]at hck
      by_cases h0:(f c sk).2.2=0
      ·have h0':((f c sk).2.2 == 0)=true:=by simpa using h0
       have hlim:=(HD.out.lim c sk _ HJ.out).1
       rcases chkL_none hck with⟨hC,h40,_⟩ | ⟨h40,_⟩
       ·have HN:=Lib.hid (HW.out.one HDR.out h40 h0)
        have HC:=Lib.hid hC
        have t40:(c == 40)=false:=by simpa using h40
        have t41:(c == 41)=false:=by rw[beq_eq_false_iff_ne];unfold Fld.isC at hC;omega
        clear h0 hck h40 hC
        go_wp2_with fail
        refine(HD.out.step c sk _ HC.out HJ2.out).mono ?_
        rintro e w2 ⟨rfl,hr2,hi2⟩
        have HR2:=Lib.hid hr2
        have HI3:=Lib.hid (hi2 _ _ _ HI2.out)
        have HP3:=Lib.hid (HP2.out.on hi2)
        clear hr2 hi2
        go_wp2_with fail
        go_roundg (s.size - (k+1))
        case measure=>omega
        case rel=>exact⟨k+1,0,_,none,true,_,by omega,rfl,rfl,rfl,hlim,HI3,HN,HR2,HP3⟩
       ·subst h40
        have HN:=Lib.hid (HW.out.open_ HDR.out rfl h0)
        have HC:=Lib.hid (show Fld.isC 40 from Or.inr (Or.inr (Or.inr rfl)))
        clear h0 hck
        go_wp2_with fail
        refine(HD.out.step 40 sk _ HC.out HJ2.out).mono ?_
        rintro e w2 ⟨rfl,hr2,hi2⟩
        have HR2:=Lib.hid hr2
        have HI3:=Lib.hid (hi2 _ _ _ HI2.out)
        have HP3:=Lib.hid (HP2.out.on hi2)
        clear hr2 hi2
        go_wp2_with fail
        go_roundg (s.size - (k+1))
        case measure=>omega
        case rel=>exact⟨k+1,k+1,_,some [],false,_,by omega,rfl,by go_num,rfl,hlim,HI3,HN,HR2,HP3⟩
      ·have h0':((f c sk).2.2 == 0)=false:=by simpa using h0
       have HN:=Lib.hid (HW.out.walk.trans ((congrArg (fun x=>Fld.walkL f none tt x sk) HDR.out).trans (walk_err h0)))
       rcases chkL_none hck with⟨hC,h40,_⟩ | ⟨h40,_⟩
       ·have HC:=Lib.hid hC
        have t40:(c == 40)=false:=by simpa using h40
        have t41:(c == 41)=false:=by rw[beq_eq_false_iff_ne];unfold Fld.isC at hC;omega
        clear h0 hck h40 hC
        go_wp2_with fail
        refine(HD.out.step c sk _ HC.out HJ2.out).mono ?_
        rintro e w2 ⟨rfl,hr2,hi2⟩
        have HR2:=Lib.hid hr2
        have HP3:=Lib.hid (HP2.out.on hi2)
        clear hr2 hi2
        go_wp2_with fail
        try rw[Exit.noGoto_ret]
        go_ret
        exact⟨by rw[HN.out];rfl,by rw[HN.out];exact HR2.out,HP3.out.kept⟩
       ·subst h40
        have HC:=Lib.hid (show Fld.isC 40 from Or.inr (Or.inr (Or.inr rfl)))
        clear h0 hck
        go_wp2_with fail
        refine(HD.out.step 40 sk _ HC.out HJ2.out).mono ?_
        rintro e w2 ⟨rfl,hr2,hi2⟩
        have HR2:=Lib.hid hr2
        have HP3:=Lib.hid (HP2.out.on hi2)
        clear hr2 hi2
        go_wp2_with fail
        try rw[Exit.noGoto_ret]
        go_ret
        exact⟨by rw[HN.out];rfl,by rw[HN.out];exact HR2.out,HP3.out.kept⟩
   | some cs=>
      obtain⟨hb0,hbk,hcs⟩:0 < bg/\bg<=k/\cs=(l.take k).drop bg:=by
       rcases HW.out.grp with h | ⟨cs',h,h1,h2,h3⟩
       ·cases h.1
       ·cases h;exact⟨h1,h2,h3⟩
      by_cases h41:c=41
      ·subst h41
       have HX:=Lib.hid (show cs=nums (s.extract bg k) by rw[nums_extract,<-HL.out];exact hcs)
       have HXL:=Lib.hid (show(s.extract bg k).size<=40 by rw[ByteArray.size_extract];omega)
       clear hcs
       obtain⟨r,hr⟩:∃r,r=Fld.rep f cs tt.toNat sk:=⟨_,rfl⟩
       obtain⟨sk',er⟩:=r
       have HRP:=Lib.hid hr
       clear hr
       by_cases h0:er=0
       ·have HN:=Lib.hid (HW.out.shut HDR.out (by rw[<-HRP.out,h0]))
        have h0':(er == 0)=true:=by simpa using h0
        clear h0
        go_wp2_with fail
        refine(repeat_r HD.out _ cs HX.out (HW.out.ok cs rfl) tt htt sk _ HJ2.out HXL.out).mono ?_
        rw[<-HRP.out]
        rintro e w2 ⟨rfl,hr2,hi2⟩
        have HR2:=Lib.hid hr2
        have HI3:=Lib.hid (hi2 _ _ _ HI2.out)
        have HP3:=Lib.hid (HP2.out.on hi2)
        clear hr2 hi2
        go_wp2_with fail
        try rw[Exit.noGoto_ret]
        go_roundg (s.size - (k+1))
        case measure=>omega
        case rel=>exact⟨k+1,0,tt,none,kk,sk',by omega,rfl,rfl,rfl,htt,HI3,HN,HR2,HP3⟩
       ·have HN:=Lib.hid (HW.out.walk.trans ((congrArg (fun x=>Fld.walkL f (some cs) tt x sk) HDR.out).trans (walk_bad HRP.out.symm h0)))
        have h0':(er == 0)=false:=by simpa using h0
        clear h0
        go_wp2_with fail
        refine(repeat_r HD.out _ cs HX.out (HW.out.ok cs rfl) tt htt sk _ HJ2.out HXL.out).mono ?_
        rw[<-HRP.out]
        rintro e w2 ⟨rfl,hr2,hi2⟩
        have HR2:=Lib.hid hr2
        have HP3:=Lib.hid (HP2.out.on hi2)
        clear hr2 hi2
        go_wp2_with fail
        try rw[Exit.noGoto_ret]
        go_ret
        exact⟨by rw[HN.out];rfl,by rw[HN.out];exact HR2.out,HP3.out.kept⟩
      ·have HN:=Lib.hid (HW.out.in_ HDR.out h41)
       have t41:(c == 41)=false:=by simpa using h41
       clear h41 hcs
       go_wp2_with fail
       try rw[Exit.noGoto_ret]
       go_roundg (s.size - (k+1))
       case measure=>omega
       case rel=>exact⟨k+1,bg,tt,_,true,sk,by omega,rfl,rfl,rfl,htt,HI2,HN,HJ2,HP2⟩
  ·obtain rfl:k=s.size:=by omega
   have hnx:=fun ty=>Lib.run_next_end_at (P:=Tryz.prog) wr gi s s.size ty HI.out (by omega)
   have HN:=Lib.hid (HW.out.walk.trans ((congrArg (fun x=>Fld.walkL f gO tt x sk) (show l.drop s.size= [] by rw[<-HS.out,List.drop_length])).trans walk_end))
   go_wp2_with fail
   go_ret
   exact⟨by rw[HN.out];rfl,by rw[HN.out];exact HJ.out,HP.out.kept⟩
end
section
open Go.RowKit Sha
open Fld (Itm)
theorem get_one (w0:World)(ga:Nat)(bs:List Int)(p:Option Addr)(n c:Nat)(hin:RIn w0 ga bs p n c)(hn:n<=1000000)(l:Int)(hl:Fld.isC l)(st:Nat×List Itm)(w:World)(h:RAt w0 ga bs p n c st w):
 Calls Tryz.prog 113 #[.pointer (some ⟨ga,0,none⟩),.int .i32 l] w (GDone w0 ga bs p n c l st w):=by
 obtain⟨at_,xs⟩:=st
 rcases hl with rfl | rfl | rfl | rfl
 ·exact get_n w0 ga bs p n c hin hn at_ xs w h
 ·exact get_b w0 ga bs p n c hin hn at_ xs w h
 ·exact get_d w0 ga bs p n c hin hn at_ xs w h
 ·exact get_o w0 ga bs p n c hin hn at_ xs w h
theorem RSt.keepA {w0 w:World} {ga:Nat} {bs:List Int} {p:Option Addr} {n c:Nat} {st:Nat×List Itm} {v:Value} {ys:List Hdr}(h:RSt w0 ga bs p n c st v ys w)(o:Obj):RSt w0 ga bs p n c st v ys (w.alloc o):=
 ⟨h.blk.old o,h.own.alloc o,h.items,fun y hy=>(h.good y hy).carry fun _ _ hb=>hb.old o,h.at_,h.few,h.below.alloc h.below.size o⟩
theorem RSt.keepI {w0 w:World} {ga:Nat} {bs:List Int} {p:Option Addr} {n c:Nat} {st:Nat×List Itm} {v:Value} {ys:List Hdr}(h:RSt w0 ga bs p n c st v ys w) {gi:Nat} {s:ByteArray} {k:Nat}(hg:w0.heap.size<=gi)(hi:w.heap[gi]? = some (.stringIter s k))(k':Nat):RSt w0 ga bs p n c st v ys (w.iterAt gi s k'):=by
 have hc:=cells_iterAt hi k'
 exact⟨hc.2 _ _ _ _ h.blk,own_carry h.own fun k c fz _ hh=>hc.2 _ _ _ _ hh,h.items,fun y hy=>(h.good y hy).carry fun _ _ hb=>hc.2 _ _ _ _ hb,h.at_,h.few,Lib.below_iterAt h.below hg s k'⟩
theorem rd_lim (bs:List Int)(hb:∀n∈bs,0<=n/\n<=255):0<=(Fld.rd 0 0 bs).2.1/\(Fld.rd 0 0 bs).2.1<=9223372036854775807:=by
 rcases Fld.rd_err bs 0 0 with h | ⟨_,h⟩
 ·obtain⟨m,h1,h2,_⟩:=Fld.rd_back0 bs (Fld.rd 0 0 bs).2.1 (Fld.rd 0 0 bs).2.2 hb (by rw[<-h])
  omega
 ·omega
theorem getS_lim (bs:List Int)(hb:∀n∈bs,0<=n/\n<=255)(c:Int)(st:Nat×List Itm):(Fld.getS bs c st).2.1<=9223372036854775807/\-9223372036854775808<=(Fld.getS bs c st).2.1:=by
 have h1:=rd_lim (bs.drop st.1) (fun n hn=>hb n (List.mem_of_mem_drop hn))
 have h2:0<=(Fld.rdTop (bs.drop st.1)).2.1/\(Fld.rdTop (bs.drop st.1)).2.1<=9223372036854775807:=by
  unfold Fld.rdTop;split
  ·simp
  ·exact h1
 unfold Fld.getS
 dsimp only
 repeat' split
 all_goals(dsimp only;omega)
theorem doer_r (w0:World)(ga:Nat)(bs:List Int)(p:Option Addr)(n c:Nat)(hin:RIn w0 ga bs p n c)(hn:n<=1000000):Doer Tryz.prog 113 ga w0.heap.size (Fld.getS bs) (RAt w0 ga bs p n c) where
 step l st w hl hR:=get_one w0 ga bs p n c hin hn l hl st w hR
 keepA st w o h:=by obtain⟨v,ys,h⟩:=h;exact⟨v,ys,h.keepA o⟩
 keepI st w gi s q q' h hg hi:=by obtain⟨v,ys,h⟩:=h;exact⟨v,ys,h.keepI hg hi q'⟩
 base st w h:=by obtain⟨v,ys,h⟩:=h;exact h.below.size
 lim l st w _:=getS_lim bs hin.bd l st
theorem told_of {w:World} {B:Nat} {v:Value} {ys:List Hdr} {l:List Itm}(ho:w.ownsRow B 83 34 v l.length (ys.flatMap cellsI))(hi:ys.map (·.1)=l)(hg:∀y∈ys,GoodR w y.1 y.2.1 y.2.2):∃q c',v= .slice q l.length c'/\Told w q l.length c' l:=by
 have hi:∀q,At w q (ys.flatMap cellsI)->ItemsAt w q l:=fun q hA=>⟨ys,hi,hA,fun y hy=>(hg y hy).good⟩
 rcases ho.2 with⟨hv,h0⟩ | ⟨g,cap,cur,hv,hg,hh,h1,h2,h3,h4⟩
 ·refine⟨none,0,by rw[hv,h0],rfl,by omega,by omega,fun _=>rfl,hi none (Or.inl ?_)⟩
  have:=ho.1
  rw[h0]at this
  exact List.eq_nil_of_length_eq_zero (by simpa using this)
 ·refine⟨_,cap,hv,rfl,h1,by unfold maxLen at h2;omega,(fun h=>by cases h),hi _ (Or.inr ⟨g,0,rfl,fun i u hu=>?_⟩)⟩
  have:=ho.cells (g:=g) (by rw[hv];rfl) i u hu
  rwa [Addr.add_mid]at this
theorem RSt.told {w0 w:World} {ga:Nat} {bs:List Int} {p:Option Addr} {n c:Nat} {st:Nat×List Itm} {v:Value} {ys:List Hdr}(h:RSt w0 ga bs p n c st v ys w):∃q c',v= .slice q st.2.length c'/\Told w q st.2.length c' st.2:=
 told_of h.own h.items h.good
structure ToldR (w:World)(p:Option Addr)(n c:Nat)(l:List Itm):Prop where
 told:Told w p n c l
 rows:∃ys:List Hdr,ys.map (·.1)=l/\At w p (ys.flatMap cellsI)/\∀y∈ys,GoodR w y.1 y.2.1 y.2.2
theorem ToldR.none_ (w:World):ToldR w none 0 0 []:=⟨Told.none_ w,[],rfl,At.nil _ _,by simp⟩
theorem told_ofR {w:World} {B:Nat} {v:Value} {ys:List Hdr} {l:List Itm}(ho:w.ownsRow B 83 34 v l.length (ys.flatMap cellsI))(hi:ys.map (·.1)=l)(hg:∀y∈ys,GoodR w y.1 y.2.1 y.2.2):∃q c',v= .slice q l.length c'/\ToldR w q l.length c' l:=by
 obtain⟨q,c',hv,ht⟩:=told_of ho hi hg
 refine⟨q,c',hv,ht,ys,hi,?_,hg⟩
 rcases ho.2 with⟨hv2,h0⟩ | ⟨g,cap,cur,hv2,hgg,hh,h1,h2,h3,h4⟩
 ·left
  have:=ho.1
  rw[h0]at this
  exact List.eq_nil_of_length_eq_zero (by simpa using this)
 ·rw[hv]at hv2
  simp only[Value.slice.injEq]at hv2
  refine Or.inr ⟨g,0,hv2.1,fun i u hu=>?_⟩
  have:=ho.cells (g:=g) (by rw[hv,hv2.1];rfl) i u hu
  rwa [Addr.add_mid]at this
theorem if_ne:(83:TypeId)≠64:=by decide
theorem uf_ne:(5:TypeId)≠64:=by decide
theorem RSt.toldFR {w0 w:World} {ga gf:Nat} {bs:List Int} {p:Option Addr} {n c:Nat} {at_:Nat} {l:List Itm} {q:Option Addr} {c':Nat} {ys:List Hdr} {cs:List Value}(h:RSt w0 ga bs p n c (at_,l) (.slice q l.length c') ys w)(hk:Blk w gf cs 64)(u0 u1:Value):
 ToldR ((w.setCell ⟨gf,0,none⟩ u0).setCell ⟨gf,1,none⟩ u1) q l.length c' l:=by
 obtain⟨q2,c2,hv,ht⟩:=told_ofR (own_set (own_set h.own hk if_ne 0 u0) (hk.set 0 u0) if_ne 1 u1) h.items (fun y hy=>(h.good y hy).carry fun g cs hb=>(hb.setOther _ _ (blk_ne hb hk uf_ne)).setOther _ _ (blk_ne hb hk uf_ne))
 simp only[Value.slice.injEq]at hv
 obtain⟨rfl,_,rfl⟩:=hv
 exact ht
def GetDoneR (w0:World)(r:List Itm×Int×Nat)(e:Ending)(w:World):Prop:=
 ∃q n c,e= .returned (.tuple #[.slice q n c,.agg #[.int .i64 r.2.1,.int .i64 (r.2.2:Int)]])/\ToldR w q n c r.1/\Below w0.heap.size w0 w
def GetDone (w0:World)(r:List Itm×Int×Nat)(e:Ending)(w:World):Prop:=
 ∃q n c,e= .returned (.tuple #[.slice q n c,.agg #[.int .i64 r.2.1,.int .i64 (r.2.2:Int)]])/\Told w q n c r.1/\Below w0.heap.size w0 w
theorem get_bad {s b:List Int}(h:Fld.chk s=false):Fld.get s b=([],2,0):=by simp[Fld.get,h]
theorem get_walked {s b:List Int}(h:Fld.chk s=true) {st:Nat×List Itm} {e:Int}(hw:Fld.walkL (Fld.getS b) none 0 s (0,[])=(st,e)):
 Fld.get s b=if e=0 then(if st.1 < b.length then([],4,st.1)else(st.2,0,0))else([],e,st.1):=by simp[Fld.get,h,hw]
theorem getF_bad (s:ByteArray)(hs:s.size<=maxLen)(b:List Int)(p:Option Addr)(n c:Nat)(w:World)(hc:Fld.chk (nums s)=false):
 Calls Tryz.prog 76 #[.string s,.slice p n c] w (GetDoneR w (Fld.get (nums s) b)):=by
 have HP:=Lib.hid (get_bad (b:=b) hc)
 have HE:=Lib.hid (Fld.chkE_no hc)
 clear hc
 go_enter Tryz.func76,Tryz.ntmps76
 go_wp2_with (go_at_call 82;refine(check_any s _ hs).mono ?_;rw[HE.out];rintro e w1 ⟨rfl,hb1⟩;have kf:=Blk.new w #[Value.int IntKind.i64 0,Value.int IntKind.i64 0] 64;have hbw:=((Below.refl w.heap.size w).alloc (Nat.le_refl _) (Obj.cells #[Value.int IntKind.i64 0,Value.int IntKind.i64 0] 64)).trans (hb1.mono (by simp));have kf1:=kf.below hb1 kf.lt;clear kf hb1;generalize hgfe:w.heap.size=gf at *;have HGF:=Lib.hid hgfe.symm;clear hgfe;have c0:w1.cell? ⟨gf,0,none⟩=some (.int .i64 0):=kf1.cell 0;have c1:w1.cell? ⟨gf,1,none⟩=some (.int .i64 0):=kf1.cell 1;have f0:=kf1.free 0;have f1:=kf1.free 1;have KF1:=Lib.hid kf1;have HBW:=Lib.hid (show Below w.heap.size w w1 by rw[<-HGF.out];exact hbw);clear kf1 hbw)
 refine bodyPost_ret (v:=.tuple #[.slice none 0 0,.agg #[.int .i64 2,.int .i64 0]]) (by simp[results,Tryz.results76,go_sem,c0,c1]) rfl ⟨none,0,0,by rw[HP.out];rfl,by rw[HP.out];exact ToldR.none_ _,(HBW.out.setCell ?_ _).setCell ?_ _⟩
 ·exact Nat.le_of_eq HGF.out.symm
 ·exact Nat.le_of_eq HGF.out.symm
theorem getF_anyR (s:ByteArray)(hs:s.size<=maxLen)(b:List Int)(p:Option Addr)(n c:Nat)(w:World)(hn:b.length=n)(hb:∀x∈b,0<=x/\x<=255)(hA:At w p (b.map v8))(hle:n<=c)(hm:c<=9223372036854775807)(hp:p=none->c=0)(hsm:n<=1000000):
 Calls Tryz.prog 76 #[.string s,.slice p n c] w (GetDoneR w (Fld.get (nums s) b)):=by
 by_cases hc:Fld.chk (nums s)=true
 ·have HE:=Lib.hid (Fld.chkE_ok hc)
  have HC:=Lib.hid (chk_len hc)
  have hsl:s.size<=40:=by have:=HC.out.1;rwa [nums_length]at this
  obtain⟨⟨st,er⟩,hr⟩:∃r,r=Fld.walkL (Fld.getS b) none 0 (nums s) (0,[]):=⟨_,rfl⟩
  have HP:=Lib.hid (get_walked hc hr.symm)
  have HR:=Lib.hid hr
  have HA:=Lib.hid hA
  have HN:=Lib.hid hn
  have HB:=Lib.hid hb
  have HPN:=Lib.hid hp
  clear hc hr hA hn hb hp
  go_enter Tryz.func76,Tryz.ntmps76
  go_wp2_with (go_at_call 82;refine(check_any s _ hs).mono ?_;rw[HE.out];rintro e w1 ⟨rfl,hb1⟩;have kf:=Blk.new w #[Value.int IntKind.i64 0,Value.int IntKind.i64 0] 64;have hbw:=((Below.refl w.heap.size w).alloc (Nat.le_refl _) (Obj.cells #[Value.int IntKind.i64 0,Value.int IntKind.i64 0] 64)).trans (hb1.mono (by simp));have kf1:=kf.below hb1 kf.lt;clear kf hb1;generalize hgfe:w.heap.size=gf at *;have HGF:=Lib.hid hgfe.symm;clear hgfe;have c0:w1.cell? ⟨gf,0,none⟩=some (.int .i64 0):=kf1.cell 0;have c1:w1.cell? ⟨gf,1,none⟩=some (.int .i64 0):=kf1.cell 1;have f0:=kf1.free 0;have f1:=kf1.free 1;have KF1:=Lib.hid kf1;have HBW:=Lib.hid (show Below w.heap.size w w1 by rw[<-HGF.out];exact hbw);clear kf1 hbw)
  have hin:RIn w1 w1.heap.size b p n c:=⟨HN.out,HB.out,HA.out.below HBW.out,Nat.le_refl _,hle,hm,HPN.out⟩
  have hst:RAt w1 w1.heap.size b p n c (0,[]) (w1.alloc (Obj.cells #[Value.slice p n c,Value.int IntKind.i64 0,Value.slice none 0 0] 160)):=
   ⟨.slice none 0 0,[],by simpa using Blk.new w1 #[Value.slice p n c,Value.int IntKind.i64 0,Value.slice none 0 0] 160,World.ownsRow_nil _ _ _ _,rfl,by simp,by simp,by simp,(Below.refl _ _).alloc (Nat.le_refl _) _⟩
  refine(walk_r (doer_r w1 w1.heap.size b p n c hin hsm) s hsl HC.out.2 (0,[]) _ hst).mono ?_
  rw[<-HR.out]
  rintro e w2 ⟨rfl,hs2,_⟩
  clear hst hin
  have hgf:gf < w1.heap.size:=KF1.out.lt
  generalize hgae:w1.heap.size=ga at *
  have HGA:=Lib.hid hgae
  clear hgae
  obtain⟨at_,l2⟩:=st
  obtain⟨v2,ys,hs2⟩:=hs2
  have a1:w2.cell? ⟨ga,1,none⟩=some (.int .i64 at_):=hs2.blk.cell 1
  have a2:w2.cell? ⟨ga,2,none⟩=some v2:=hs2.blk.cell 2
  have hbb:=hs2.below
  have k2:=KF1.out.below hbb (by rw[HGA.out];exact hgf)
  have c0':w2.cell? ⟨gf,0,none⟩=some (.int .i64 0):=k2.cell 0
  have c1':w2.cell? ⟨gf,1,none⟩=some (.int .i64 0):=k2.cell 1
  have f0':=k2.free 0
  have f1':=k2.free 1
  have HS2:=Lib.hid hs2
  have HK2:=Lib.hid k2
  have hgf2:w.heap.size<=gf:=Nat.le_of_eq HGF.out.symm
  have HBB:=Lib.hid (HBW.out.trans (hbb.mono (show w.heap.size<=w1.heap.size by rw[HGA.out,<-HGF.out];omega)))
  have han:=HS2.out.at_
  obtain⟨q2,c2,rfl,htold⟩:=hs2.told
  have HT:=Lib.hid htold
  clear hs2 hbb k2 htold c0 c1 f0 f1
  simp only at han a2 ⊢
  by_cases he:er=0
  ·subst he
   by_cases hlt:at_ < n
   ·have HP2:=Lib.hid (HP.out.trans (by simp[HN.out,hlt]:_=(([]:List Itm),(4:Int),at_)))
    go_wp2_with fail
    go_region
    all_goals
     go_wp2_with fail
     refine bodyPost_ret (v:=.tuple #[.slice none 0 0,.agg #[.int .i64 4,.int .i64 (at_:Int)]]) (by simp[results,Tryz.results76,go_sem,c0',c1']) rfl ⟨none,0,0,by rw[HP2.out],by rw[HP2.out];exact ToldR.none_ _,?_⟩
     first
      | exact(HBB.out.drew.setCell (p:=⟨gf,0,none⟩) hgf2 _).setCell (p:=⟨gf,1,none⟩) hgf2 _
      | exact((HBB.out.setCell (p:=⟨gf,0,none⟩) hgf2 _).setCell (p:=⟨gf,1,none⟩) hgf2 _).drew
   ·have HP2:=Lib.hid (HP.out.trans (by simp[HN.out,hlt]:_=(l2,(0:Int),0)))
    go_wp2_with fail
    refine bodyPost_ret (v:=.tuple #[.slice q2 l2.length c2,.agg #[.int .i64 0,.int .i64 0]]) (by simp[results,Tryz.results76,go_sem,c0',c1']) rfl ⟨q2,l2.length,c2,by rw[HP2.out];rfl,by rw[HP2.out];exact HS2.out.toldFR HK2.out _ _,?_⟩
    exact(HBB.out.setCell (p:=⟨gf,0,none⟩) hgf2 _).setCell (p:=⟨gf,1,none⟩) hgf2 _
  ·have he':(er == 0)=false:=by simpa using he
   have HP2:=Lib.hid (HP.out.trans (by simp[he]:_=(([]:List Itm),er,at_)))
   clear he
   go_wp2_with fail
   go_region
   all_goals
    go_wp2_with fail
    refine bodyPost_ret (v:=.tuple #[.slice none 0 0,.agg #[.int .i64 er,.int .i64 (at_:Int)]]) (by simp[results,Tryz.results76,go_sem,c0',c1']) rfl ⟨none,0,0,by rw[HP2.out],by rw[HP2.out];exact ToldR.none_ _,?_⟩
    first
     | exact(HBB.out.drew.setCell (p:=⟨gf,0,none⟩) hgf2 _).setCell (p:=⟨gf,1,none⟩) hgf2 _
     | exact((HBB.out.setCell (p:=⟨gf,0,none⟩) hgf2 _).setCell (p:=⟨gf,1,none⟩) hgf2 _).drew
 ·exact getF_bad s hs b p n c w (by simpa using hc)
theorem getF_any (s:ByteArray)(hs:s.size<=maxLen)(b:List Int)(p:Option Addr)(n c:Nat)(w:World)(hn:b.length=n)(hb:∀x∈b,0<=x/\x<=255)(hA:At w p (b.map v8))(hle:n<=c)(hm:c<=9223372036854775807)(hp:p=none->c=0)(hsm:n<=1000000):
 Calls Tryz.prog 76 #[.string s,.slice p n c] w (GetDone w (Fld.get (nums s) b)):=
 (getF_anyR s hs b p n c w hn hb hA hle hm hp hsm).mono fun e w' ⟨q,n',c',he,ht,hb'⟩=>⟨q,n',c',he,ht.told,hb'⟩
end
section
open Go.RowKit Sha
open Fld (Itm)
@[irreducible] def mkOp (t:TypeId) (parts:Array (Nat×Value)):Sem Next:=do pure (.value (<-Instr.build t parts))
theorem execOp_buildItem (ρ:Operand->Value)(dst:Option Tmp)(parts:Array (Nat×Operand))(ty:TypeId)(pos:String)(after:Array Edge)(guard:Option (Nat×Bool)):
 execOp ρ {dst:=dst,op:=.build 83 parts,type:=ty,pos:=pos,after:=after,guard:=guard}= mkOp 83 (parts.map fun(i,x)=>(i,ρ x)):=by unfold mkOp;rfl
theorem run_mkOp {P:Program} {t:TypeId} {parts:Array (Nat×Value)} {cs:Array Value}(w:World)(h:P.built t parts.toList=some cs):(mkOp t parts).run P w= .ok (.value (.agg cs)) w:=by
 unfold mkOp;simp only[Sem.run_bind,run_build w t _ cs h,Result.andThen_ok,Sem.run_pure]
attribute [local go_sem ↓] execOp_buildItem
end
section
open Go.RowKit Sha
open Fld (Itm)
attribute [local go_sem ↓] execOp_loadItem execOp_buildItem
theorem item0_built:Tryz.prog.built 83 [] = some (icells ⟨0,[],Fld.zero32⟩ none 0).toArray:=by
 unfold icells
 have h:Tryz.prog.built 83 [] = some (((#[Value.int .i64 0,.slice none 0 0]:Array Value))++(Fld.zero32.map v8).toArray):=by kernel_rfl
 rw[h];simp
theorem r_ne:(5:TypeId)≠127:=by decide
structure RW (w0:World)(ga:Nat)(L:Value)(k:Nat)(v:Value)(out:List Int)(er:Int)(w:World):Prop where
 blk:Blk w ga [L,.int .i64 k,v,.int .i64 er] 127
 own:Own8 w w0.heap.size 5 v out.length (out.map v8)
 base:w0.heap.size<=ga
 below:Below w0.heap.size w0 w
theorem RW.on {w0 w w':World} {ga k:Nat} {L v:Value} {out:List Int} {er:Int}(h:RW w0 ga L k v out er w)(hb:Below w.heap.size w w'):RW w0 ga L k v out er w':=
 ⟨h.blk.below hb h.blk.lt,own8_carry h.own fun i c fz hk hh=>by rw[hb.block i (h.own.row.lt i hk).2];exact hh,h.base,h.below.trans (hb.mono h.below.size)⟩
theorem RW.fail {w0 w:World} {ga k:Nat} {L v:Value} {out:List Int} {er:Int}(h:RW w0 ga L k v out er w)(e:Int):RW w0 ga L k v out e (w.setCell ⟨ga,3,none⟩ (.int .i64 e)):=
 ⟨by have:=h.blk.set 3 (.int .i64 e);simpa using this,own8_set h.own h.blk r_ne 3 _,h.base,h.below.setCell h.base _⟩
theorem RW.at_ {w0 w:World} {ga k:Nat} {L v:Value} {out:List Int} {er:Int}(h:RW w0 ga L k v out er w)(j:Nat):RW w0 ga L j v out er (w.setCell ⟨ga,1,none⟩ (.int .i64 j)):=
 ⟨by have:=h.blk.set 1 (.int .i64 j);simpa using this,own8_set h.own h.blk r_ne 1 _,h.base,h.below.setCell h.base _⟩
theorem rwi_ne:(83:TypeId)≠127:=by decide
theorem blk_type {w:World} {g:Nat} {cs cs':List Value} {t t':TypeId}(h:Blk w g cs t)(h':Blk w g cs' t'):t=t':=by
 unfold Blk at h h';rw[h]at h';cases h';rfl
theorem RW.ne {w0 w:World} {ga k gx:Nat} {L v:Value} {out:List Int} {er:Int} {cs:List Value}(h:RW w0 ga L k v out er w)(hI:Blk w gx cs 83):gx≠ga:=by
 rintro rfl;exact rwi_ne (blk_type hI h.blk)
theorem RW.row {w0 w:World} {ga k gx:Nat} {L v:Value} {out:List Int} {er:Int} {cs:List Value}(h:RW w0 ga L k v out er w)(hI:Blk w gx cs 83)(hg:w0.heap.size<=gx)(cs':List Value):RW w0 ga L k v out er (w.setRow gx cs'.toArray):=by
 refine⟨h.blk.rowOther _ (Ne.symm (h.ne hI)),own8_carry h.own fun i c fz hk hh=>?_,h.base,Below.setRow h.below hg _⟩
 rw[setRow_other w gx i cs'.toArray (fun e=>?_)]
 ·exact hh
 ·subst e
  unfold Blk at hI;rw[hI]at hh;injection hh with hh;injection hh with _ ht;exact ui_ne ht
theorem item0_good (w:World):GoodI w ⟨0,[],Fld.zero32⟩ none 0:=⟨item0_ok',Or.inl rfl,by simp,by omega,fun _=>rfl⟩
def NextDone (w0:World)(ga:Nat)(L v:Value)(out:List Int)(x:Itm)(k:Nat)(er:Int)(e:Ending)(w':World):Prop:=
 ∃q c,e= .returned (.agg (icells x q c).toArray)/\GoodI w0 x q c/\RW w0 ga L k v out er w'
theorem rnext_err (w0:World)(ga:Nat)(p:Option Addr)(n c:Nat)(v:Value)(out:List Int)(k:Nat)(er:Int)(w:World)(h:RW w0 ga (.slice p n c) k v out er w)(he:er≠0):
 Calls Tryz.prog 121 #[.pointer (some ⟨ga,0,none⟩)] w (NextDone w0 ga (.slice p n c) v out ⟨0,[],Fld.zero32⟩ k er):=by
 have HK:=Lib.hid h
 have hne:(er == 0)=false:=by rw[beq_eq_false_iff_ne];exact he
 have hsz:(Tryz.prog.info? 83).map (fun i=>i.size)=some (icells ⟨0,[],Fld.zero32⟩ none 0).toArray.size:=by rw[item_size,List.size_toArray,icells_length item0_ok']
 have bd:=fun w=>run_mkOp (P:=Tryz.prog) w (parts:=#[]) item0_built
 clear h he
 go_enter Tryz.func121,Tryz.ntmps121
 go_wp2_with (refine wpList_alloc_arr rfl 83 rfl _ item_info ?_)
 have hK1:=HK.out.on ((Below.refl _ _).alloc (Nat.le_refl _) (Obj.cells (icells ⟨0,[],Fld.zero32⟩ none 0).toArray 83))
 have c3:(w.alloc (Obj.cells (icells ⟨0,[],Fld.zero32⟩ none 0).toArray 83)).cell? ⟨ga,3,none⟩=some (.int .i64 er):=hK1.blk.cell 3
 have hi1:=Blk.new w (icells ⟨0,[],Fld.zero32⟩ none 0).toArray 83
 rw[List.toList_toArray]at hi1
 generalize w.alloc (Obj.cells (icells ⟨0,[],Fld.zero32⟩ none 0).toArray 83)=wA at *
 have K1:=Lib.hid hK1
 have I1:=Lib.hid hi1
 have GX:w0.heap.size<=w.heap.size:=HK.out.below.size
 clear hK1 hi1 HK
 obtain⟨gx,hgx⟩:∃g,g=w.heap.size:=⟨_,rfl⟩
 rw[<-hgx]at I1 GX ⊢
 clear hgx
 simp only[Act.put,List.setIfInBounds_toArray,List.set_cons_succ,List.set_cons_zero]
 go_quiet (fail)
 have hKB:=K1.out.on (below_drewN (Below.refl _ wA) nq)
 have hIB:=I1.out.drewN nq
 have c3':(wA.drewN nq).cell? ⟨ga,3,none⟩=some (.int .i64 er):=hKB.blk.cell 3
 generalize wA.drewN nq=wB at *
 have KB:=Lib.hid hKB
 have IB:=Lib.hid hIB
 clear hKB hIB K1 I1 c3
 go_wp2_with (first
  | (refine wpList_store_row rfl 83 (.tmp 2) (.tmp 27) rfl _ _ rfl rfl 83 _ IB.out hsz rfl (icells_all _ _ _) ?_))
 refine bodyPost_ret (v:=.agg (icells ⟨0,[],Fld.zero32⟩ none 0).toArray) ?_ rfl ⟨none,0,rfl,item0_good _,KB.out.row IB.out GX _⟩
 exact results_cell_row rfl _ _ _ _ _ _ _ rfl (IB.out.row _) (Tryz.underlying83) rfl hsz
theorem rnext_end (w0:World)(ga:Nat)(p:Option Addr)(n c:Nat)(v:Value)(out:List Int)(k:Nat)(w:World)(h:RW w0 ga (.slice p n c) k v out 0 w)(hk:n<=k):
 Calls Tryz.prog 121 #[.pointer (some ⟨ga,0,none⟩)] w (NextDone w0 ga (.slice p n c) v out ⟨0,[],Fld.zero32⟩ k 2):=by
 have HK:=Lib.hid h
 have hsz:(Tryz.prog.info? 83).map (fun i=>i.size)=some (icells ⟨0,[],Fld.zero32⟩ none 0).toArray.size:=by rw[item_size,List.size_toArray,icells_length item0_ok']
 have bd:=fun w=>run_mkOp (P:=Tryz.prog) w (parts:=#[]) item0_built
 clear h
 go_enter Tryz.func121,Tryz.ntmps121
 go_wp2_with (refine wpList_alloc_arr rfl 83 rfl _ item_info ?_)
 have hK1:=HK.out.on ((Below.refl _ _).alloc (Nat.le_refl _) (Obj.cells (icells ⟨0,[],Fld.zero32⟩ none 0).toArray 83))
 have hi1:=Blk.new w (icells ⟨0,[],Fld.zero32⟩ none 0).toArray 83
 rw[List.toList_toArray]at hi1
 generalize w.alloc (Obj.cells (icells ⟨0,[],Fld.zero32⟩ none 0).toArray 83)=wA at *
 have c0:wA.cell? ⟨ga,0,none⟩=some (.slice p n c):=hK1.blk.cell 0
 have c1:wA.cell? ⟨ga,1,none⟩=some (.int .i64 k):=hK1.blk.cell 1
 have c3:wA.cell? ⟨ga,3,none⟩=some (.int .i64 0):=hK1.blk.cell 3
 have K1:=Lib.hid hK1
 have I1:=Lib.hid hi1
 have GX:w0.heap.size<=w.heap.size:=HK.out.below.size
 clear hK1 hi1 HK
 obtain⟨gx,hgx⟩:∃g,g=w.heap.size:=⟨_,rfl⟩
 rw[<-hgx]at I1 GX ⊢
 clear hgx
 have hki:(n:Int)<=(k:Int):=by omega
 simp only[Act.put,List.setIfInBounds_toArray,List.set_cons_succ,List.set_cons_zero]
 go_quiet (fail)
 have hKB:=K1.out.on (below_drewN (Below.refl _ wA) nq)
 have hIB:=I1.out.drewN nq
 generalize wA.drewN nq=wB at *
 have KB:=Lib.hid hKB
 have IB:=Lib.hid hIB
 clear hKB hIB K1 I1 c0 c1 c3
 have hgne:gx≠ga:=KB.out.ne IB.out
 go_wp2_with (first
  | (go_at_call 90;refine(rfails_any ga (.slice p n c) (.int .i64 k) v 0 2 wB KB.out.blk).mono ?_;rintro e w2 ⟨rfl,rfl⟩;rw[if_pos rfl];have hKC:=KB.out.fail 2;have hIC:=IB.out.setOther ⟨ga,3,none⟩ (.int .i64 2) hgne;generalize wB.setCell ⟨ga,3,none⟩ (.int .i64 2)=wC at *;have d3:wC.cell? ⟨ga,3,none⟩=some (.int .i64 2):=hKC.blk.cell 3;have KC:=Lib.hid hKC;have IC:=Lib.hid hIC;clear hKC hIC)
  | (refine wpList_store_row rfl 83 (.tmp 2) (.tmp 27) rfl _ _ rfl rfl 83 _ IC.out hsz rfl (icells_all _ _ _) ?_))
 refine bodyPost_ret (v:=.agg (icells ⟨0,[],Fld.zero32⟩ none 0).toArray) ?_ rfl ⟨none,0,rfl,item0_good _,KC.out.row IC.out GX _⟩
 exact results_cell_row rfl _ _ _ _ _ _ _ rfl (IC.out.row _) (Tryz.underlying83) rfl hsz
theorem rnext_ok (w0:World)(ga:Nat)(p:Option Addr)(n c:Nat)(l:List Itm)(ht:Told w0 p n c l)(v:Value)(out:List Int)(k:Nat)(w:World)(h:RW w0 ga (.slice p n c) k v out 0 w)(hk:k < l.length):
 Calls Tryz.prog 121 #[.pointer (some ⟨ga,0,none⟩)] w (NextDone w0 ga (.slice p n c) v out l[k] (k+1) 0):=by
 have HK:=Lib.hid h
 have hkn:k < n:=by rw[ht.len];exact hk
 have hnc:=ht.le
 have hcm:=ht.max
 obtain⟨b,off,q,qc,rfl,hr,hg⟩:=ht.items.get k hk
 obtain⟨x,hx⟩:∃x,x=l[k]:=⟨_,rfl⟩
 rw[<-hx]at hr hg ⊢
 have HR:=Lib.hid hr
 have HG:=Lib.hid hg
 have hsz:(Tryz.prog.info? 83).map (fun i=>i.size)=some (icells x q qc).toArray.size:=by rw[item_size,List.size_toArray,icells_length hg.ok]
 have hsz3:(icells ⟨0,[],Fld.zero32⟩ none 0).toArray.size=(icells x q qc).toArray.size:=by rw[List.size_toArray,List.size_toArray,icells_length hg.ok,icells_length item0_ok']
 have bd:=fun w=>run_mkOp (P:=Tryz.prog) w (parts:=#[]) item0_built
 clear h hr hg hx ht hk
 go_enter Tryz.func121,Tryz.ntmps121
 go_wp2_with (refine wpList_alloc_arr rfl 83 rfl _ item_info ?_)
 have hK1:=HK.out.on ((Below.refl _ _).alloc (Nat.le_refl _) (Obj.cells (icells ⟨0,[],Fld.zero32⟩ none 0).toArray 83))
 have hi1:=Blk.new w (icells ⟨0,[],Fld.zero32⟩ none 0).toArray 83
 rw[List.toList_toArray]at hi1
 generalize w.alloc (Obj.cells (icells ⟨0,[],Fld.zero32⟩ none 0).toArray 83)=wA at *
 have c0:wA.cell? ⟨ga,0,none⟩=some (.slice (some ⟨b,off,none⟩) n c):=hK1.blk.cell 0
 have c1:wA.cell? ⟨ga,1,none⟩=some (.int .i64 k):=hK1.blk.cell 1
 have c3:wA.cell? ⟨ga,3,none⟩=some (.int .i64 0):=hK1.blk.cell 3
 have K1:=Lib.hid hK1
 have I1:=Lib.hid hi1
 have GX:w0.heap.size<=w.heap.size:=HK.out.below.size
 clear hK1 hi1 HK
 obtain⟨gx,hgx⟩:∃g,g=w.heap.size:=⟨_,rfl⟩
 rw[<-hgx]at I1 GX ⊢
 clear hgx
 have hki:¬(n:Int)<=(k:Int):=by omega
 have hki':decide ((n:Int)<=(k:Int))=false:=by rw[decide_eq_false_iff_not];exact hki
 simp only[Act.put,List.setIfInBounds_toArray,List.set_cons_succ,List.set_cons_zero]
 go_quiet (fail)
 have hKB:=K1.out.on (below_drewN (Below.refl _ wA) nq)
 have hIB:=I1.out.drewN nq
 generalize wA.drewN nq=wB at *
 have e1:wB.cell? ⟨ga,1,none⟩=some (.int .i64 k):=hKB.blk.cell 1
 have e3:wB.cell? ⟨ga,3,none⟩=some (.int .i64 0):=hKB.blk.cell 3
 have f1:wB.frozen? ⟨ga,1,none⟩=false:=hKB.blk.free 1
 have KB:=Lib.hid hKB
 have IB:=Lib.hid hIB
 clear hKB hIB K1 I1 c0 c1 c3
 have hgne:gx≠ga:=KB.out.ne IB.out
 go_wp2_with fail
 rw[show((k:Int)+1)=((k+1:Nat):Int) by omega]
 have hKC:=KB.out.at_ (k+1)
 have hIC:=IB.out.setOther ⟨ga,1,none⟩ (.int .i64 ((k+1:Nat):Int)) hgne
 generalize wB.setCell ⟨ga,1,none⟩ (.int .i64 ((k+1:Nat):Int))=wC at *
 have d0:wC.cell? ⟨ga,0,none⟩=some (.slice (some ⟨b,off,none⟩) n c):=hKC.blk.cell 0
 have d1:wC.cell? ⟨ga,1,none⟩=some (.int .i64 ((k:Int)+1)):=hKC.blk.cell 1
 have ld:(loadOp 83 (.pointer (some ⟨b,off+k*34,none⟩))).run Tryz.prog wC.drew= .ok (.value (.agg (icells x q qc).toArray)) wC.drew:=load_at HG.out.ok (range_belowF HR.out (hKC.below.drew))
 have KD:=Lib.hid (hKC.on (Below.refl _ _).drew)
 have ID:=Lib.hid hIC.drew
 clear hKC hIC KB IB
 refine region_tail 11 (by kernel_rfl) (by kernel_rfl) ?_
 simp only[List.take_succ_cons,List.take_zero,List.drop_succ_cons,List.drop_zero]
 repeat(go_big_quiet_step (fail))
 refine wpQuiet_nil ?_
 change wpList _ _ _ _ _ wC.drew
 clear ld d0 d1
 generalize wC.drew=wD at *
 go_wp2_with (refine wpList_store_row rfl 83 (.tmp 2) (.tmp 45) rfl _ _ rfl rfl 83 _ ID.out hsz hsz3 (icells_all _ _ _) ?_)
 refine bodyPost_ret (v:=.agg (icells x q qc).toArray) ?_ rfl ⟨q,qc,rfl,HG.out,KD.out.row ID.out GX _⟩
 exact results_cell_row rfl _ _ _ _ _ _ _ rfl (ID.out.row _) (Tryz.underlying83) rfl hsz
end
section
namespace Fld
def isLet (c:Int):Prop:=c=110\/c=98\/c=100
theorem chkL_in:∀(r:List Int)(k:Bool),chkL r true k=true->∃cs r' k',r=cs++41::r'/\(∀c∈cs,isLet c)/\chkL r' false k'=true
 | [],k,h=>by simp[chkL]at h
 | c::r,k,h=>by
    unfold chkL at h
    split at h
    ·rename_i hc
     obtain⟨cs,r',k',h1,h2,h3⟩:=chkL_in r true h
     exact⟨c::cs,r',k',by rw[h1];rfl,fun d hd=>by
      rcases List.mem_cons.1 hd with rfl | hd
      ·exact hc
      ·exact h2 d hd,h3⟩
    ·simp at h
     obtain⟨⟨h1,h2⟩,h3⟩:=h
     exact⟨[],r,k,by rw[h1];rfl,by simp,h3⟩
theorem chkL_out (c:Int)(r:List Int)(k:Bool)(h:chkL (c::r) false k=true):(isLet c/\chkL r false true=true)\/(c=40/\∃cs r' k',r=cs++41::r'/\(∀c∈cs,isLet c)/\chkL r' false k'=true):=by
 unfold chkL at h
 split at h
 ·rename_i hc
  exact Or.inl ⟨hc,h⟩
 ·split at h
  ·rename_i hc
   exact Or.inr ⟨hc.1,chkL_in r false h⟩
  ·simp at h
theorem isLet_ne {c:Int}(h:isLet c):c≠40/\c≠41:=by rcases h with rfl | rfl | rfl<;>omega
section
variable {σ:Type} (f:Int->σ->σ×Int×Int)
theorem walkL_grp:∀(cs g:List Int)(t:Int)(r:List Int)(st:σ),(∀c∈cs,isLet c)->
 walkL f (some g) t (cs++41::r) st=if(rep f (g++cs) t.toNat st).2=0 then walkL f none t r (rep f (g++cs) t.toNat st).1 else rep f (g++cs) t.toNat st
 | [],g,t,r,st,_=>by
    rw[List.append_nil,List.nil_append,walkL,if_pos rfl]
 | c::cs,g,t,r,st,h=>by
    rw[List.cons_append,walkL,if_neg (isLet_ne (h c (List.mem_cons_self ..))).2,walkL_grp cs (g++[c]) t r st (fun d hd=>h d (List.mem_cons_of_mem _ hd)),List.append_assoc]
    rfl
theorem walkL_open (t:Int)(cs r:List Int)(st:σ)(h:∀c∈cs,isLet c):
 walkL f none t (40::(cs++41::r)) st=if(f 40 st).2.2=0 then(if(rep f cs (f 40 st).2.1.toNat (f 40 st).1).2=0 then walkL f none (f 40 st).2.1 r (rep f cs (f 40 st).2.1.toNat (f 40 st).1).1 else rep f cs (f 40 st).2.1.toNat (f 40 st).1)else((f 40 st).1,(f 40 st).2.2):=by
 rw[walkL,if_pos rfl,walkL_grp f cs [] _ r _ h,List.nil_append]
theorem walkL_letter (t:Int)(c:Int)(r:List Int)(st:σ)(h:c≠40):
 walkL f none t (c::r) st=if(f c st).2.2=0 then walkL f none (f c st).2.1 r (f c st).1 else((f c st).1,(f c st).2.2):=by
 rw[walkL,if_neg h]
def stick (c:Int)(s:σ×Int):σ×Int:=if s.2=0 then((f c s.1).1,(f c s.1).2.2)else s
def sticks (cs:List Int)(s:σ×Int):σ×Int:=cs.foldl (fun s c=>stick f c s) s
theorem stick_err {c:Int} {s:σ×Int}(h:s.2≠0):stick f c s=s:=by unfold stick;rw[if_neg h]
theorem sticks_err (cs:List Int) {s:σ×Int}(h:s.2≠0):sticks f cs s=s:=by
 induction cs with
 | nil=>rfl
 | cons c cs ih=>unfold sticks at *;rw[List.foldl_cons,stick_err f h];exact ih
theorem sticks_once:∀(cs:List Int)(st:σ),sticks f cs (st,0)=once f cs st
 | [],st=>rfl
 | c::cs,st=>by
    have e:sticks f (c::cs) (st,0)=sticks f cs (stick f c (st,0)):=rfl
    rw[e,once]
    unfold stick
    rw[if_pos rfl]
    split
    ·rename_i h
     show sticks f cs ((f c st).1,(f c st).2.2)=_
     rw[h]
     exact sticks_once cs _
    ·rename_i h
     exact sticks_err f cs h
theorem rep_stick (cs:List Int)(n:Nat)(st:σ):rep f cs (n+1) st=if(sticks f cs (st,0)).2=0 then rep f cs n (sticks f cs (st,0)).1 else sticks f cs (st,0):=by
 rw[sticks_once,rep]
theorem walkL_tail (t t':Int)(r:List Int)(st:σ)(k:Bool)(h:chkL r false k=true):walkL f none t r st=walkL f none t' r st:=by
 cases r with
 | nil=>rfl
 | cons c r=>rw[walkL,walkL]
end
end Fld
end
section
open Go.RowKit Sha
theorem over_keep (B:Nat)(v:Value)(n:Nat)(xs:List Value)(w:World)(h:Own8 w B 5 v n xs):
 Calls Tryz.prog 17 #[v] w fun e w'=>e= .returned (.tuple #[])/\Below B w w'/\(∀k,some k≠v.ownBlock->w'.heap[k]? = w.heap[k]?)/\(∀g cs,v.ownBlock=some g->Blk w g cs 5->∃cs',Blk w' g cs' 5/\cs'.length=cs.length/\∀u∈cs',∃n,u=Value.int .u8 n):=by
 rcases h.row.2 with⟨rfl,rfl⟩ | ⟨g,cap,cur,rfl,hg,hh,h1,h2,h3,h4⟩
 ·clear h
  go_enter Tryz.func17,Tryz.ntmps17
  go_wp2_with fail
  go_loopw [2] (fun i wr=>i= .int .i64 0/\w=wr) (fun i _=>(intOf i).toNat)
  case atStart=>exact⟨rfl,rfl⟩
  case round=>
   obtain⟨rfl,rfl⟩:=hrel
   go_wp2_with fail
   go_end0
   exact⟨rfl,Below.refl _ _,fun _ _=>rfl,fun g cs hg _=>by cases hg⟩
 ·have hi:=ints_row h.ints hh
  have hb:Blk w g cur.toList 5:=by unfold Blk;simpa using hh
  have hl:cur.toList.length=cap:=by simp[h3]
  have hm:cap<=9223372036854775807:=by unfold maxLen at h2;omega
  have HB:=Lib.hid hb
  have HI:=Lib.hid hi
  have HL:=Lib.hid hl
  clear h hh h3 h4 hi hb hl h2
  go_enter Tryz.func17,Tryz.ntmps17
  go_wp2_with fail
  go_loopw [2] (fun i wr=>∃(k:Nat) (cs:List Value),i= .int .i64 k/\k<=cap/\Hid (Blk wr g cs 5)/\Hid (cs.length=cap)/\Hid (∀u∈cs,∃n,u=Value.int .u8 n)/\Hid (Below B w wr)/\Hid (∀k,k≠g->wr.heap[k]? = w.heap[k]?)) (fun i _=>cap - (intOf i).toNat)
  case atStart=>exact⟨0,_,rfl,by omega,HB,HL,HI,Below.refl _ _,Lib.hid (fun _ _=>rfl)⟩
  case round=>
   have HB0:=HB
   have HL0:=HL
   clear HB HI HL
   obtain⟨k,cs,rfl,hk,HB,HL,HI,HW,HOT⟩:=hrel
   by_cases hlt:k < cap
   ·have hkl:k < cs.length:=by rw[HL.out];exact hlt
    obtain⟨u,hu⟩:=HI.out cs[k] (List.getElem_mem hkl)
    have c0:wr.cell? ⟨g,k,none⟩=some (.int .u8 u):=by rw[HB.out.cell,List.getElem?_eq_getElem hkl,hu]
    have f0:wr.frozen? ⟨g,k,none⟩=false:=HB.out.free k
    clear hu hkl
    go_wp2_with fail
    go_roundw
    case rel=>
     refine⟨k+1,cs.set k _,by go_num,by omega,Lib.hid (HB.out.set k _),Lib.hid (by rw[List.length_set];exact HL.out),Lib.hid fun x hx=>?_,Lib.hid (HW.out.setCell hg _),Lib.hid fun i hi=>(Below.heap_setCell _ _ _ _ hi).trans (HOT.out i hi)⟩
     rcases List.mem_or_eq_of_mem_set hx with hx | hx
     ·exact HI.out x hx
     ·exact⟨_,hx⟩
    case measure=>simp[intOf];omega
   ·obtain rfl:k=cap:=by omega
    go_wp2_with fail
    go_end0
    refine⟨rfl,HW.out,fun i hi=>HOT.out i (fun e=>hi (by rw[e];rfl)),fun g' cs' hg' hb'=>?_⟩
    cases hg'
    have e:cs'=cur.toList:=by
     have h1:=HB0.out
     unfold Blk at h1 hb'
     have h2:=h1.symm.trans hb'
     injection h2 with h2
     injection h2 with h2 _ _
     have h3:=congrArg Array.toList h2
     simpa using h3.symm
    exact⟨cs,HB.out,by rw[HL.out,e,HL0.out],HI.out⟩
theorem over_any (B:Nat)(v:Value)(n:Nat)(xs:List Value)(w:World)(h:Own8 w B 5 v n xs):
 Calls Tryz.prog 17 #[v] w fun e w'=>e= .returned (.tuple #[])/\Below B w w':=
 (over_keep B v n xs w h).mono fun _ _ h=>⟨h.1,h.2.1⟩
end
end Go.Proofs.YtokpabkcaofahaaGreat
