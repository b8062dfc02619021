/-
  What stands under factPuts_holds: part 27.
-/
import Derived.Test.YtokpabkcaofahaaGreatPp26
import Derived.Test.YtokpabkcaofahaaGreatPp6
import Derived.Test.YtokpabkcaofahaaGreatPp25
import Derived.Deep.RegionLaw
import Derived.Test.YtokpabkcaofahaaGreatPp7
namespace Go.Proofs.YtokpabkcaofahaaGreat
set_option linter.unusedSimpArgs false
set_option linter.unusedVariables false
set_option maxRecDepth 100000
set_option maxHeartbeats 20000000
section
open Go.RowKit Sha Fct
open Fld (Itm)
theorem z8 (w:World):sF.Good w fz none 0:=⟨fact_ok0 (fit_small (by omega)) (fit_small (by omega)) (fit_small (by omega)) (fit_small (by omega)) (fit_small (by omega)) zlen z32_ok.1 (by simp),At.nil _ _,by simp[sF],by omega,fun _=>rfl⟩
theorem zS {w w':World} {b:List Int} {z:Fac} {q:Option Addr} {c:Nat} {e a:Int} {a0:Nat}(hg:Fct.get b=(z,e,a0))(ha:a=(a0:Int))(hz:sF.Good w' z q c)(hb:Below w.heap.size w w'):
 FGet w (Fct.get b) (.returned (.tuple #[.agg (fcells z q c).toArray,.agg (flt e a).toArray])) w':=by
 subst ha
 rw[hg]
 exact⟨q,c,rfl,hz,hb⟩
structure GIn (b:List Int)(p:Option Addr)(n c:Nat)(w:World):Prop where
 len:b.length=n
 byte:∀x∈b,0<=x/\x<=255
 at_:At w p (b.map v8)
 le:n<=c
 max:c<=9223372036854775807
 nil:p=none->c=0
 few:n<=1000000
theorem GIn.below {b:List Int} {p:Option Addr} {n c:Nat} {w w':World}(h:GIn b p n c w)(hb:Below w.heap.size w w'):GIn b p n c w':=⟨h.len,h.byte,h.at_.below hb,h.le,h.max,h.nil,h.few⟩
structure G3 (w0:World)(r1 r2 g:Nat)(e a:Int)(w:World):Prop where
 b1:Blk w r1 (fcells fz none 0) 28
 b2:Blk w r2 (flt 0 0) 64
 bg:Blk w g (flt e a) 64
 lo:w0.heap.size<=r1/\r1 < r2/\r2 < g
 below:Below w0.heap.size w0 w
theorem G3.on {w0 w w':World} {r1 r2 g:Nat} {e a:Int}(h:G3 w0 r1 r2 g e a w)(hb:Below w.heap.size w w'):G3 w0 r1 r2 g e a w':=
 ⟨h.b1.below hb h.b1.lt,h.b2.below hb h.b2.lt,h.bg.below hb h.bg.lt,h.lo,h.below.trans (hb.mono h.below.size)⟩
theorem G3.set {w0 w:World} {r1 r2 g:Nat} {e a:Int}(h:G3 w0 r1 r2 g e a w)(e' a':Int):G3 w0 r1 r2 g e' a' (w.setRow g (flt e' a').toArray):=
 ⟨h.b1.rowOther _ (show r1≠g by have:=h.lo;omega),h.b2.rowOther _ (show r2≠g by have:=h.lo;omega),h.bg.row _,h.lo,Below.setRow h.below (show w0.heap.size<=g by have:=h.lo;omega) _⟩
structure GOut (w0:World)(r1 r2:Nat)(z:Fac)(q:Option Addr)(c:Nat)(e a:Int)(w w1 w2:World):Prop where
 s1:(storeOp 28 (.pointer (some ⟨r1,0,none⟩)) (.agg (fcells z q c).toArray)).run Tryz.prog w= .ok .skip w1
 s2:(storeOp 64 (.pointer (some ⟨r2,0,none⟩)) (.agg (flt e a).toArray)).run Tryz.prog w1= .ok .skip w2
 b1:Blk w2 r1 (fcells z q c) 28
 b2:Blk w2 r2 (flt e a) 64
 below:Below w0.heap.size w0 w2
theorem G3.out {w0 w:World} {r1 r2 g:Nat} {e a:Int}(h:G3 w0 r1 r2 g e a w) {z:Fac}(hz:z.D.length=32)(q:Option Addr)(c:Nat)(e' a':Int):
 GOut w0 r1 r2 z q c e' a' w (w.setRow r1 (fcells z q c).toArray) ((w.setRow r1 (fcells z q c).toArray).setRow r2 (flt e' a').toArray):=by
 have hlo:=h.lo
 have k2:Blk (w.setRow r1 (fcells z q c).toArray) r2 (flt 0 0) 64:=h.b2.rowOther _ (show r2≠r1 by omega)
 have k1:Blk (w.setRow r1 (fcells z q c).toArray) r1 (fcells z q c) 28:=h.b1.row _
 exact⟨store_fact h.b1 zlen hz,zl k2,k1.rowOther _ (show r1≠r2 by omega),k2.row _,Below.setRow (Below.setRow h.below hlo.1 _) (show w0.heap.size<=r2 by omega) _⟩
theorem G3.loads {w0 w:World} {r1 r2 g:Nat} {e a:Int}(h:G3 w0 r1 r2 g e a w)(z:Fac)(q:Option Addr)(c:Nat)(e' a':Int):
 (loadOp 64 (.pointer (some ⟨g,0,none⟩))).run Tryz.prog w= .ok (.value (.agg (flt e a).toArray)) w/\
 (loadOp 64 (.pointer (some ⟨g,0,none⟩))).run Tryz.prog (w.setRow r1 (fcells z q c).toArray)= .ok (.value (.agg (flt e a).toArray)) (w.setRow r1 (fcells z q c).toArray)/\
 (loadOp 64 (.pointer (some ⟨g,0,none⟩))).run Tryz.prog ((w.setRow r1 (fcells z q c).toArray).setRow r2 (flt e' a').toArray)= .ok (.value (.agg (flt e a).toArray)) ((w.setRow r1 (fcells z q c).toArray).setRow r2 (flt e' a').toArray):=by
 have hlo:=h.lo
 have k1:Blk (w.setRow r1 (fcells z q c).toArray) g (flt e a) 64:=h.bg.rowOther _ (show g≠r1 by omega)
 exact⟨zy h.bg,zy k1,zy (k1.rowOther _ (show g≠r2 by omega))⟩
theorem Yc {w0 w:World} {r1 r2 g:Nat} {e a:Int}(h:G3 w0 r1 r2 g e a w) {x:Fac} {q:Option Addr} {c:Nat}(hx:sF.Good w x q c)(hu:U8 w q x.B)(z:Fac)(zq:Option Addr)(zc:Nat)(e' a':Int):sF.Good ((w.setRow r1 (fcells z zq zc).toArray).setRow r2 (flt e' a').toArray) x q c:=by
 refine⟨hx.ok,?_,hx.le,hx.max,hx.nil⟩
 by_cases hB:x.B= []
 ·have h2:(sF.byt x).map v8= []:=by show x.B.map v8= [];rw[hB];rfl
  rw[h2];exact At.nil _ _
 ·rcases hx.at_ with h0 | ⟨b,off,rfl,hc⟩
  ·exact Or.inl h0
  ·refine Or.inr ⟨b,off,rfl,fun i v hi=>?_⟩
   have n1:b≠r1:=hu.out h.b1 u8f_ne hB _ rfl
   have n2:b≠r2:=hu.out h.b2 Yb hB _ rfl
   exact(World.cell?_of_block (w:=w.setRow r1 (fcells z zq zc).toArray) (a:=⟨b,off+i,none⟩) (setRow_other _ r2 b _ n2)).trans ((World.cell?_of_block (w:=w) (a:=⟨b,off+i,none⟩) (setRow_other _ r1 b _ n1)).trans (hc i v hi))
attribute [local go_sem ↓] zG zH zI zJ execOp_allocFact execOp_storeFact execOp_makeFact zr zt zv execOp_cat ZR
theorem xv (b:List Int)(p:Option Addr)(n c:Nat)(w:World)(hi:GIn b p n c w)(h:(Fld.rd 0 0 b).1≠0):
 Calls Tryz.prog 37 #[.slice p n c] w (FGet w (Fct.get b)):=by
 obtain⟨e0,he0⟩:∃e,e=(Fld.rd 0 0 b).1:=⟨_,rfl⟩
 obtain⟨an,han⟩:∃a,a=(if(Fld.rd 0 0 b).1=4 then b.length else 0):=⟨_,rfl⟩
 obtain⟨a0,ha0⟩:∃a,a=(an:Int):=⟨_,rfl⟩
 have HQ:=xF (show Fct.get b=(fz,e0,an)from by rw[he0,han];unfold Fct.get;rw[if_pos h];rfl)
 have HAI:=xF ha0
 have HKB:=xF (show kread b=([],e0,an)from by rw[he0,han];unfold kread;rw[if_neg h])
 have HN0:=xF h
 have t1:(e0 != 0)=true:=by rw[he0];simpa using h
 clear h he0 han ha0
 have al1:=alloc_fact w
 have hb1:=(qB w.heap.size w).alloc (qD _) (.cells (fcells fz none 0).toArray 28)
 have hk1:Blk (w.alloc (.cells (fcells fz none 0).toArray 28)) w.heap.size (fcells fz none 0) 28:=Blk.new w (fcells fz none 0).toArray 28
 obtain⟨w1,hw1⟩:∃v,v=w.alloc (.cells (fcells fz none 0).toArray 28):=⟨_,rfl⟩
 rw[<-hw1]at al1 hb1 hk1
 have al2:=zf w1
 have hb2:=hb1.alloc hb1.size (.cells (flt 0 0).toArray 64)
 have hk2:Blk (w1.alloc (.cells (flt 0 0).toArray 64)) w1.heap.size (flt 0 0) 64:=Blk.new w1 (flt 0 0).toArray 64
 have hk12:=hk1.old (.cells (flt 0 0).toArray 64)
 obtain⟨w2,hw2⟩:∃v,v=w1.alloc (.cells (flt 0 0).toArray 64):=⟨_,rfl⟩
 rw[<-hw2]at al2 hb2 hk2 hk12
 obtain⟨r1,hr1⟩:∃r,r=w.heap.size:=⟨_,rfl⟩
 obtain⟨r2,hr2⟩:∃r,r=w1.heap.size:=⟨_,rfl⟩
 rw[<-hr1]at al1 hk12
 rw[<-hr2]at al2 hk2
 have HLO:=xF (show w.heap.size<=r1/\r1 < r2 from⟨by omega,by have:=hk1.lt;omega⟩)
 have HB2:=xF hb2
 have HR1:=xF hk12
 have HR2:=xF hk2
 have HI:=xF hi
 have HI2:=xF (hi.below hb2)
 have HKD:=xF (show kind_ b= .returned (.tuple #[.int .i64 0,.agg (flt e0 a0).toArray])from by unfold kind_;rw[HKB.out,if_neg HN0.out,HAI.out])
 have KO:=xF (zA b p n c w2 HI2.out.len HI2.out.byte HI2.out.at_ HI2.out.le HI2.out.max HI2.out.nil HI2.out.few)
 rw[HKD.out]at KO
 clear hw1 hw2 hr1 hr2 hb1 hb2 hk1 hk2 hk12 hi
 go_enter Tryz.func37,Tryz.ntmps37
 go_wp2_with fail
 refine KO.out.mono ?_
 rintro e w3 ⟨rfl,hb3⟩
 have HB3:=xF (HB2.out.trans (hb3.mono HB2.out.size))
 have HI3:=xF (HI2.out.below hb3)
 have al3:=zf w3
 have st3:=(run_storeNew w3 (P:=Tryz.prog) (t:=64) (old:=(flt 0 0).toArray) (cs:=(flt e0 a0).toArray) (ze e0 a0) rfl (by simp[Value.oneCell']))
 have hb34:=(qB w3.heap.size w3).alloc (qD _) (.cells (flt e0 a0).toArray 64)
 have hk4:Blk (w3.alloc (.cells (flt e0 a0).toArray 64)) w3.heap.size (flt e0 a0) 64:=Blk.new w3 (flt e0 a0).toArray 64
 have hr13:=HR1.out.below hb3 HR1.out.lt
 have hr23:=HR2.out.below hb3 HR2.out.lt
 have hg3:G3 w r1 r2 w3.heap.size e0 a0 (w3.alloc (.cells (flt e0 a0).toArray 64)):=⟨hr13.old _,hr23.old _,hk4,⟨HLO.out.1,HLO.out.2,hr23.lt⟩,HB3.out.trans (hb34.mono HB3.out.size)⟩
 have hi4:=HI3.out.below hb34
 obtain⟨g,hg'⟩:∃g,g=w3.heap.size:=⟨_,rfl⟩
 rw[<-hg']at al3 st3 hg3
 clear hb3 hb34 hk4 hr13 hr23 hg' KO al1 al2 HR1 HR2 HB2 HI2
 generalize w3.alloc (.cells (flt 0 0).toArray 64)=wq at *
 generalize w3.alloc (.cells (flt e0 a0).toArray 64)=w4 at *
 have G4:=xF hg3
 have HI4:=xF hi4
 have k0:w4.cell? ⟨g,0,none⟩=some (.int .i64 e0):=hg3.bg.cell 0
 clear hg3 hi4
 go_wp2_with fail
 have g4:=G4.out.on (qB _ _).drew
 have HO:=xF (g4.out (z:=fz) zlen none 0 e0 a0)
 have os1:=HO.out.s1
 have os2:=HO.out.s2
 obtain⟨ol1,ol2,ol3⟩:=g4.loads fz none 0 e0 a0
 have mz:=zZ
 have HZL:=xF zlen
 clear g4
 go_region_held3 (fun w'=>(loadOp 64 (.pointer (some ⟨g,0,none⟩))).run Tryz.prog w'= .ok (.value (.agg (flt e0 a0).toArray)) w') (first | exact ol1 | exact ol2 | exact ol3) ((first | fail))
 all_goals go_wp2_with fail
 all_goals refine bodyPost_ret (v:=.tuple #[.agg (fcells fz none 0).toArray,.agg (flt e0 a0).toArray]) (zi rfl _ _ _ _ _ _ _ rfl HO.out.b1 (Tryz.underlying28) rfl (fact_sizeA HZL.out _ _) _ _ _ _ _ rfl HO.out.b2 (Tryz.underlying64) rfl (ze e0 a0)) rfl ?_
 all_goals exact zS HQ.out HAI.out (z8 _) HO.out.below
theorem xw (b:List Int)(p:Option Addr)(n c:Nat)(w:World)(hi:GIn b p n c w)(h:(Fld.rd 0 0 b).1=0)(hkk:¬(1<=(Fld.rd 0 0 b).2.1/\(Fld.rd 0 0 b).2.1 < 11)):
 Calls Tryz.prog 37 #[.slice p n c] w (FGet w (Fct.get b)):=by
 have HQ:=xF (show Fct.get b=(fz,2,0)from by unfold Fct.get;rw[if_neg (by rw[h];simp),if_pos hkk];rfl)
 obtain⟨k,hk⟩:∃k,k=(Fld.rd 0 0 b).2.1:=⟨_,rfl⟩
 have HR0:=xF h
 have HKE:=xF hk
 rw[<-hk]at hkk
 have HKK:=xF hkk
 clear h hk hkk
 have al1:=alloc_fact w
 have hb1:=(qB w.heap.size w).alloc (qD _) (.cells (fcells fz none 0).toArray 28)
 have hk1:Blk (w.alloc (.cells (fcells fz none 0).toArray 28)) w.heap.size (fcells fz none 0) 28:=Blk.new w (fcells fz none 0).toArray 28
 obtain⟨w1,hw1⟩:∃v,v=w.alloc (.cells (fcells fz none 0).toArray 28):=⟨_,rfl⟩
 rw[<-hw1]at al1 hb1 hk1
 have al2:=zf w1
 have hb2:=hb1.alloc hb1.size (.cells (flt 0 0).toArray 64)
 have hk2:Blk (w1.alloc (.cells (flt 0 0).toArray 64)) w1.heap.size (flt 0 0) 64:=Blk.new w1 (flt 0 0).toArray 64
 have hk12:=hk1.old (.cells (flt 0 0).toArray 64)
 obtain⟨w2,hw2⟩:∃v,v=w1.alloc (.cells (flt 0 0).toArray 64):=⟨_,rfl⟩
 rw[<-hw2]at al2 hb2 hk2 hk12
 obtain⟨r1,hr1⟩:∃r,r=w.heap.size:=⟨_,rfl⟩
 obtain⟨r2,hr2⟩:∃r,r=w1.heap.size:=⟨_,rfl⟩
 rw[<-hr1]at al1 hk12
 rw[<-hr2]at al2 hk2
 have HLO:=xF (show w.heap.size<=r1/\r1 < r2 from⟨by omega,by have:=hk1.lt;omega⟩)
 have HB2:=xF hb2
 have HR1:=xF hk12
 have HR2:=xF hk2
 have HI:=xF hi
 have HI2:=xF (hi.below hb2)
 have HKD:=xF (show kind_ b= .returned (.tuple #[.int .i64 k,.agg (flt 0 0).toArray])from by rw[HKE.out];unfold kind_;rw[if_pos HR0.out,show kread b=([iN (Fld.rd 0 0 b).2.1],0,0) by unfold kread;rw[if_pos HR0.out]];rfl)
 have KO:=xF (zA b p n c w2 HI2.out.len HI2.out.byte HI2.out.at_ HI2.out.le HI2.out.max HI2.out.nil HI2.out.few)
 rw[HKD.out]at KO
 clear hw1 hw2 hr1 hr2 hb1 hb2 hk1 hk2 hk12 hi
 go_enter Tryz.func37,Tryz.ntmps37
 go_wp2_with fail
 refine KO.out.mono ?_
 rintro e w3 ⟨rfl,hb3⟩
 have HB3:=xF (HB2.out.trans (hb3.mono HB2.out.size))
 have HI3:=xF (HI2.out.below hb3)
 have al3:=zf w3
 have st3:=(run_storeNew w3 (P:=Tryz.prog) (t:=64) (old:=(flt 0 0).toArray) (cs:=(flt 0 0).toArray) (ze 0 0) rfl (by simp[Value.oneCell']))
 have hb34:=(qB w3.heap.size w3).alloc (qD _) (.cells (flt 0 0).toArray 64)
 have hk4:Blk (w3.alloc (.cells (flt 0 0).toArray 64)) w3.heap.size (flt 0 0) 64:=Blk.new w3 (flt 0 0).toArray 64
 have hr13:=HR1.out.below hb3 HR1.out.lt
 have hr23:=HR2.out.below hb3 HR2.out.lt
 have hg3:G3 w r1 r2 w3.heap.size 0 0 (w3.alloc (.cells (flt 0 0).toArray 64)):=⟨hr13.old _,hr23.old _,hk4,⟨HLO.out.1,HLO.out.2,hr23.lt⟩,HB3.out.trans (hb34.mono HB3.out.size)⟩
 have hi4:=HI3.out.below hb34
 obtain⟨g,hg'⟩:∃g,g=w3.heap.size:=⟨_,rfl⟩
 rw[<-hg']at al3 st3 hg3
 clear hb3 hb34 hk4 hr13 hr23 hg' KO al1 al2 HR1 HR2 HB2 HI2
 generalize w3.alloc (.cells (flt 0 0).toArray 64)=w4 at *
 have G4:=xF hg3
 have HI4:=xF hi4
 have k0:w4.cell? ⟨g,0,none⟩=some (.int .i64 0):=hg3.bg.cell 0
 clear hg3 hi4
 go_wp2_with fail
 refine(forms_any w4).mono ?_
 rintro e w5 ⟨m,rfl,hm5,hb5⟩
 have G5:=xF (G4.out.on hb5)
 have HI5:=xF (HI4.out.below hb5)
 have lk:=look_no hm5 k HKK.out true
 have al5:=zo w5
 have st5:=zj w5 emp emp
 have hg6:=G5.out.on ((qB w5.heap.size w5).alloc (qD _) (.cells #[.string emp,.string emp] 79))
 clear hm5 hb5 k0
 generalize w5.alloc (.cells #[.string emp,.string emp] 79)=w6 at *
 have G6:=xF hg6
 clear hg6
 have HO:=xF (G6.out.out (z:=fz) zlen none 0 2 0)
 have os1:=HO.out.s1
 have os2:=HO.out.s2
 have mz:=zZ
 have mf:=Zv 2
 have HZL:=xF zlen
 go_wp2_with fail
 refine bodyPost_ret (v:=.tuple #[.agg (fcells fz none 0).toArray,.agg (flt 2 0).toArray]) (zi rfl _ _ _ _ _ _ _ rfl HO.out.b1 (Tryz.underlying28) rfl (fact_sizeA HZL.out _ _) _ _ _ _ _ rfl HO.out.b2 (Tryz.underlying64) rfl (ze 2 0)) rfl ?_
 exact zS HQ.out rfl (z8 _) HO.out.below
theorem xx (b:List Int)(p:Option Addr)(n c:Nat)(w:World)(hi:GIn b p n c w)(h:(Fld.rd 0 0 b).1=0)(hkk:1<=(Fld.rd 0 0 b).2.1/\(Fld.rd 0 0 b).2.1 < 11)(h3:(Fld.get (letters (Fld.rd 0 0 b).2.1) b).2.1≠0):
 Calls Tryz.prog 37 #[.slice p n c] w (FGet w (Fct.get b)):=by
 have HQ0:=xF (show Fct.get b=(fz,(Fld.get (letters (Fld.rd 0 0 b).2.1) b).2.1,(Fld.get (letters (Fld.rd 0 0 b).2.1) b).2.2)from by unfold Fct.get;rw[if_neg (by rw[h];simp),if_neg (by simpa using hkk),if_pos h3];rfl)
 obtain⟨k,hk⟩:∃k,k=(Fld.rd 0 0 b).2.1:=⟨_,rfl⟩
 have HR0:=xF h
 have HKE:=xF hk
 rw[<-hk]at hkk
 rw[<-hk]at HQ0 h3
 have HKK:=xF hkk
 have H3:=xF h3
 clear h hk hkk h3
 have al1:=alloc_fact w
 have hb1:=(qB w.heap.size w).alloc (qD _) (.cells (fcells fz none 0).toArray 28)
 have hk1:Blk (w.alloc (.cells (fcells fz none 0).toArray 28)) w.heap.size (fcells fz none 0) 28:=Blk.new w (fcells fz none 0).toArray 28
 obtain⟨w1,hw1⟩:∃v,v=w.alloc (.cells (fcells fz none 0).toArray 28):=⟨_,rfl⟩
 rw[<-hw1]at al1 hb1 hk1
 have al2:=zf w1
 have hb2:=hb1.alloc hb1.size (.cells (flt 0 0).toArray 64)
 have hk2:Blk (w1.alloc (.cells (flt 0 0).toArray 64)) w1.heap.size (flt 0 0) 64:=Blk.new w1 (flt 0 0).toArray 64
 have hk12:=hk1.old (.cells (flt 0 0).toArray 64)
 obtain⟨w2,hw2⟩:∃v,v=w1.alloc (.cells (flt 0 0).toArray 64):=⟨_,rfl⟩
 rw[<-hw2]at al2 hb2 hk2 hk12
 obtain⟨r1,hr1⟩:∃r,r=w.heap.size:=⟨_,rfl⟩
 obtain⟨r2,hr2⟩:∃r,r=w1.heap.size:=⟨_,rfl⟩
 rw[<-hr1]at al1 hk12
 rw[<-hr2]at al2 hk2
 have HLO:=xF (show w.heap.size<=r1/\r1 < r2 from⟨by omega,by have:=hk1.lt;omega⟩)
 have HB2:=xF hb2
 have HR1:=xF hk12
 have HR2:=xF hk2
 have HI:=xF hi
 have HI2:=xF (hi.below hb2)
 have HKD:=xF (show kind_ b= .returned (.tuple #[.int .i64 k,.agg (flt 0 0).toArray])from by rw[HKE.out];unfold kind_;rw[if_pos HR0.out,show kread b=([iN (Fld.rd 0 0 b).2.1],0,0) by unfold kread;rw[if_pos HR0.out]];rfl)
 have KO:=xF (zA b p n c w2 HI2.out.len HI2.out.byte HI2.out.at_ HI2.out.le HI2.out.max HI2.out.nil HI2.out.few)
 rw[HKD.out]at KO
 clear hw1 hw2 hr1 hr2 hb1 hb2 hk1 hk2 hk12 hi
 go_enter Tryz.func37,Tryz.ntmps37
 go_wp2_with fail
 refine KO.out.mono ?_
 rintro e w3 ⟨rfl,hb3⟩
 have HB3:=xF (HB2.out.trans (hb3.mono HB2.out.size))
 have HI3:=xF (HI2.out.below hb3)
 have al3:=zf w3
 have st3:=(run_storeNew w3 (P:=Tryz.prog) (t:=64) (old:=(flt 0 0).toArray) (cs:=(flt 0 0).toArray) (ze 0 0) rfl (by simp[Value.oneCell']))
 have hb34:=(qB w3.heap.size w3).alloc (qD _) (.cells (flt 0 0).toArray 64)
 have hk4:Blk (w3.alloc (.cells (flt 0 0).toArray 64)) w3.heap.size (flt 0 0) 64:=Blk.new w3 (flt 0 0).toArray 64
 have hr13:=HR1.out.below hb3 HR1.out.lt
 have hr23:=HR2.out.below hb3 HR2.out.lt
 have hg3:G3 w r1 r2 w3.heap.size 0 0 (w3.alloc (.cells (flt 0 0).toArray 64)):=⟨hr13.old _,hr23.old _,hk4,⟨HLO.out.1,HLO.out.2,hr23.lt⟩,HB3.out.trans (hb34.mono HB3.out.size)⟩
 have hi4:=HI3.out.below hb34
 obtain⟨g,hg'⟩:∃g,g=w3.heap.size:=⟨_,rfl⟩
 rw[<-hg']at al3 st3 hg3
 clear hb3 hb34 hk4 hr13 hr23 hg' KO al1 al2 HR1 HR2 HB2 HI2
 generalize w3.alloc (.cells (flt 0 0).toArray 64)=w4 at *
 have G4:=xF hg3
 have HI4:=xF hi4
 have k0:w4.cell? ⟨g,0,none⟩=some (.int .i64 0):=hg3.bg.cell 0
 clear hg3 hi4
 go_wp2_with fail
 refine(forms_any w4).mono ?_
 rintro e w5 ⟨m,rfl,hm5,hb5⟩
 have G5:=xF (G4.out.on hb5)
 have HI5:=xF (HI4.out.below hb5)
 have lk:=look_yes hm5 k HKK.out true
 have al5:=zo w5
 have st5:=zj w5 (kSh k) (kHas k)
 have hb56:=(qB w5.heap.size w5).alloc (qD _) (.cells #[.string (kSh k),.string (kHas k)] 79)
 have hg6:=G5.out.on hb56
 have hi6:=HI5.out.below hb56
 have hf6:Blk (w5.alloc (.cells #[.string (kSh k),.string (kHas k)] 79)) w5.heap.size [.string (kSh k),.string (kHas k)] 79:=Blk.new w5 _ 79
 obtain⟨gf,hgf⟩:∃gf,gf=w5.heap.size:=⟨_,rfl⟩
 rw[<-hgf]at al5 st5 hf6
 clear hm5 hb5 k0 hb56 hgf
 generalize w5.alloc (.cells #[.string emp,.string emp] 79)=wr at *
 generalize w5.alloc (.cells #[.string (kSh k),.string (kHas k)] 79)=w6 at *
 have G6:=xF hg6
 have HI6:=xF hi6
 have HF6:=xF hf6
 have c6:w6.cell? ⟨gf,0,none⟩=some (.string (kSh k)):=hf6.cell 0
 obtain⟨sn,hcat,hsn,hsz⟩:=zR k (.const (.string ⟨#[110]⟩)) (.tmp 31)
 have HG6:=xF (show Calls Tryz.prog 76 #[.string sn,.slice p n c] w6 (GetDoneR w6 (Fld.get (letters k) b))from by
  have h1:=getF_anyR sn hsz b p n c w6 hi6.len hi6.byte hi6.at_ hi6.le hi6.max hi6.nil hi6.few
  rw[hsn]at h1;exact h1)
 clear hg6 hi6 hf6 hsn hsz
 go_wp2_with fail
 refine HG6.out.mono ?_
 rintro e w7 ⟨q7,n7,c7,rfl,ht7,hb7⟩
 obtain⟨⟨l7,e7,an7⟩,hG⟩:∃G,G=Fld.get (letters k) b:=⟨_,rfl⟩
 rw[<-hG]at HQ0 H3 ht7 ⊢
 obtain⟨a7,ha7⟩:∃a,a=(an7:Int):=⟨_,rfl⟩
 have HAI:=xF ha7
 have HQ:=xF (show Fct.get b=(fz,e7,an7)from HQ0.out)
 simp only[<-ha7]
 have g7:=G6.out.on hb7
 have st7:=zl (e':=e7) (a':=a7) g7.bg
 have g8:=g7.set e7 a7
 have t7:(e7 != 0)=true:=by simpa using H3.out
 clear g7 hb7 ht7 ha7 hG lk al5 st5 hcat c6 HG6 HQ0
 generalize w7.setRow g (flt e7 a7).toArray=w8 at *
 have G8:=xF g8
 have k8:w8.cell? ⟨g,0,none⟩=some (.int .i64 e7):=g8.bg.cell 0
 clear g8
 go_wp2_with fail
 have g4:=G8.out.on (qB _ _).drew
 have HO:=xF (g4.out (z:=fz) zlen none 0 e7 a7)
 have os1:=HO.out.s1
 have os2:=HO.out.s2
 obtain⟨ol1,ol2,ol3⟩:=g4.loads fz none 0 e7 a7
 have mz:=zZ
 have HZL:=xF zlen
 clear g4
 go_region_held3 (fun w'=>(loadOp 64 (.pointer (some ⟨g,0,none⟩))).run Tryz.prog w'= .ok (.value (.agg (flt e7 a7).toArray)) w') (first | exact ol1 | exact ol2 | exact ol3) ((first | fail))
 all_goals go_wp2_with fail
 all_goals refine bodyPost_ret (v:=.tuple #[.agg (fcells fz none 0).toArray,.agg (flt e7 a7).toArray]) (zi rfl _ _ _ _ _ _ _ rfl HO.out.b1 (Tryz.underlying28) rfl (fact_sizeA HZL.out _ _) _ _ _ _ _ rfl HO.out.b2 (Tryz.underlying64) rfl (ze e7 a7)) rfl ?_
 all_goals exact zS HQ.out HAI.out (z8 _) HO.out.below
theorem xy (b:List Int)(p:Option Addr)(n c:Nat)(w:World)(hi:GIn b p n c w)(h:(Fld.rd 0 0 b).1=0)(hkk:1<=(Fld.rd 0 0 b).2.1/\(Fld.rd 0 0 b).2.1 < 11)(h3:(Fld.get (letters (Fld.rd 0 0 b).2.1) b).2.1=0)(h4:can (of (Fld.rd 0 0 b).2.1 (Fld.get (letters (Fld.rd 0 0 b).2.1) b).1.tail)=false):
 Calls Tryz.prog 37 #[.slice p n c] w (FGet w (Fct.get b)):=by
 have HQ0:=xF (show Fct.get b=(fz,2,0)/\can (of (Fld.rd 0 0 b).2.1 (Fld.get (letters (Fld.rd 0 0 b).2.1) b).1.tail)=false from⟨by unfold Fct.get;rw[if_neg (by rw[h];simp),if_neg (by simpa using hkk),if_neg (by rw[h3];simp),if_neg (by rw[h4];simp)];rfl,h4⟩)
 obtain⟨k,hk⟩:∃k,k=(Fld.rd 0 0 b).2.1:=⟨_,rfl⟩
 have HR0:=xF h
 have HKE:=xF hk
 rw[<-hk]at hkk
 rw[<-hk]at HQ0 h3
 have HKK:=xF hkk
 have H3:=xF h3
 clear h hk hkk h3 h4
 have al1:=alloc_fact w
 have hb1:=(qB w.heap.size w).alloc (qD _) (.cells (fcells fz none 0).toArray 28)
 have hk1:Blk (w.alloc (.cells (fcells fz none 0).toArray 28)) w.heap.size (fcells fz none 0) 28:=Blk.new w (fcells fz none 0).toArray 28
 obtain⟨w1,hw1⟩:∃v,v=w.alloc (.cells (fcells fz none 0).toArray 28):=⟨_,rfl⟩
 rw[<-hw1]at al1 hb1 hk1
 have al2:=zf w1
 have hb2:=hb1.alloc hb1.size (.cells (flt 0 0).toArray 64)
 have hk2:Blk (w1.alloc (.cells (flt 0 0).toArray 64)) w1.heap.size (flt 0 0) 64:=Blk.new w1 (flt 0 0).toArray 64
 have hk12:=hk1.old (.cells (flt 0 0).toArray 64)
 obtain⟨w2,hw2⟩:∃v,v=w1.alloc (.cells (flt 0 0).toArray 64):=⟨_,rfl⟩
 rw[<-hw2]at al2 hb2 hk2 hk12
 obtain⟨r1,hr1⟩:∃r,r=w.heap.size:=⟨_,rfl⟩
 obtain⟨r2,hr2⟩:∃r,r=w1.heap.size:=⟨_,rfl⟩
 rw[<-hr1]at al1 hk12
 rw[<-hr2]at al2 hk2
 have HLO:=xF (show w.heap.size<=r1/\r1 < r2 from⟨by omega,by have:=hk1.lt;omega⟩)
 have HB2:=xF hb2
 have HR1:=xF hk12
 have HR2:=xF hk2
 have HI:=xF hi
 have HI2:=xF (hi.below hb2)
 have HKD:=xF (show kind_ b= .returned (.tuple #[.int .i64 k,.agg (flt 0 0).toArray])from by rw[HKE.out];unfold kind_;rw[if_pos HR0.out,show kread b=([iN (Fld.rd 0 0 b).2.1],0,0) by unfold kread;rw[if_pos HR0.out]];rfl)
 have KO:=xF (zA b p n c w2 HI2.out.len HI2.out.byte HI2.out.at_ HI2.out.le HI2.out.max HI2.out.nil HI2.out.few)
 rw[HKD.out]at KO
 clear hw1 hw2 hr1 hr2 hb1 hb2 hk1 hk2 hk12 hi
 go_enter Tryz.func37,Tryz.ntmps37
 go_wp2_with fail
 refine KO.out.mono ?_
 rintro e w3 ⟨rfl,hb3⟩
 have HB3:=xF (HB2.out.trans (hb3.mono HB2.out.size))
 have HI3:=xF (HI2.out.below hb3)
 have al3:=zf w3
 have st3:=(run_storeNew w3 (P:=Tryz.prog) (t:=64) (old:=(flt 0 0).toArray) (cs:=(flt 0 0).toArray) (ze 0 0) rfl (by simp[Value.oneCell']))
 have hb34:=(qB w3.heap.size w3).alloc (qD _) (.cells (flt 0 0).toArray 64)
 have hk4:Blk (w3.alloc (.cells (flt 0 0).toArray 64)) w3.heap.size (flt 0 0) 64:=Blk.new w3 (flt 0 0).toArray 64
 have hr13:=HR1.out.below hb3 HR1.out.lt
 have hr23:=HR2.out.below hb3 HR2.out.lt
 have hg3:G3 w r1 r2 w3.heap.size 0 0 (w3.alloc (.cells (flt 0 0).toArray 64)):=⟨hr13.old _,hr23.old _,hk4,⟨HLO.out.1,HLO.out.2,hr23.lt⟩,HB3.out.trans (hb34.mono HB3.out.size)⟩
 have hi4:=HI3.out.below hb34
 obtain⟨g,hg'⟩:∃g,g=w3.heap.size:=⟨_,rfl⟩
 rw[<-hg']at al3 st3 hg3
 clear hb3 hb34 hk4 hr13 hr23 hg' KO al1 al2 HR1 HR2 HB2 HI2
 generalize w3.alloc (.cells (flt 0 0).toArray 64)=w4 at *
 have G4:=xF hg3
 have HI4:=xF hi4
 have k0:w4.cell? ⟨g,0,none⟩=some (.int .i64 0):=hg3.bg.cell 0
 clear hg3 hi4
 go_wp2_with fail
 refine(forms_any w4).mono ?_
 rintro e w5 ⟨m,rfl,hm5,hb5⟩
 have G5:=xF (G4.out.on hb5)
 have HI5:=xF (HI4.out.below hb5)
 have lk:=look_yes hm5 k HKK.out true
 have al5:=zo w5
 have st5:=zj w5 (kSh k) (kHas k)
 have hb56:=(qB w5.heap.size w5).alloc (qD _) (.cells #[.string (kSh k),.string (kHas k)] 79)
 have hg6:=G5.out.on hb56
 have hi6:=HI5.out.below hb56
 have hf6:Blk (w5.alloc (.cells #[.string (kSh k),.string (kHas k)] 79)) w5.heap.size [.string (kSh k),.string (kHas k)] 79:=Blk.new w5 _ 79
 obtain⟨gf,hgf⟩:∃gf,gf=w5.heap.size:=⟨_,rfl⟩
 rw[<-hgf]at al5 st5 hf6
 clear hm5 hb5 k0 hb56 hgf
 generalize w5.alloc (.cells #[.string emp,.string emp] 79)=wr at *
 generalize w5.alloc (.cells #[.string (kSh k),.string (kHas k)] 79)=w6 at *
 have G6:=xF hg6
 have HI6:=xF hi6
 have HF6:=xF hf6
 have c6:w6.cell? ⟨gf,0,none⟩=some (.string (kSh k)):=hf6.cell 0
 obtain⟨sn,hcat,hsn,hsz⟩:=zR k (.const (.string ⟨#[110]⟩)) (.tmp 31)
 have HG6:=xF (show Calls Tryz.prog 76 #[.string sn,.slice p n c] w6 (GetDoneR w6 (Fld.get (letters k) b))from by
  have h1:=getF_anyR sn hsz b p n c w6 hi6.len hi6.byte hi6.at_ hi6.le hi6.max hi6.nil hi6.few
  rw[hsn]at h1;exact h1)
 clear hg6 hi6 hf6 hsn hsz
 go_wp2_with fail
 refine HG6.out.mono ?_
 rintro e w7 ⟨q7,n7,c7,rfl,ht7,hb7⟩
 obtain⟨l7,hG⟩:∃l,Fld.get (letters k) b=(l,0,0):=by
  obtain⟨⟨l,e,j⟩,hG⟩:∃G,G=Fld.get (letters k) b:=⟨_,rfl⟩
  have h4:=H3.out
  rw[<-hG]at h4
  have h4':e=0:=h4
  subst h4'
  have h5:=(zY HI.out.byte hG.symm).2
  subst h5
  exact⟨l,hG.symm⟩
 have hlen:=(zY HI.out.byte hG).1
 rw[hG]at ht7 HQ0 ⊢
 obtain⟨y0,t0,rfl⟩:∃y t,l7=y::t:=by
  cases l7 with
  | nil=>simp at hlen;omega
  | cons y t=>exact⟨y,t,rfl⟩
 have htl:t0.length=(hasL k).length:=by simp at hlen;omega
 have HTL:=xF htl
 have HCN:=xF (ZP k HKK.out t0 htl)
 have HOF:=xF (ZO k HKK.out t0 htl)
 have ht7':ToldC True w7 q7 n7 c7 (y0::t0):=ht7.c
 have h1n:1<=n7:=by rw[ht7'.told.len];simp
 have hct:=ZS q7 n7 c7 h1n ht7'.told.le ht7'.told.max
 have htt:=Zh ht7'
 have hn7:n7 - 1=(hasL k).length:=by rw[ht7'.told.len];simpa using htl
 have g7:=G6.out.on hb7
 have st7:=zl (e':=0) (a':=0) g7.bg
 have g8:=g7.set 0 0
 have ht8:=Zi htt g7.bg (flt 0 0)
 have HF7:=xF (HF6.out.below hb7 HF6.out.lt)
 have HF8:=xF (HF7.out.rowOther (k:=g) (flt 0 0).toArray (show gf≠g from fun e=>by
  have h8:=HF7.out
  have h9:=g7.bg
  unfold Blk at h8 h9
  rw[e,h9]at h8;simp at h8))
 generalize(if c7=1 then q7 else q7.map (·.add (1*34)))=q8 at *
 generalize n7 - 1=n8 at *
 generalize c7 - 1=c8 at *
 have HT8:=xF ht8
 have HN8:=xF hn7
 clear g7 hb7 ht7 ht7' ht8 htt hlen htl hn7 h1n hG lk al5 st5 hcat c6 HG6
 generalize w7.setRow g (flt 0 0).toArray=w8 at *
 have G8:=xF g8
 have k8:w8.cell? ⟨g,0,none⟩=some (.int .i64 0):=g8.bg.cell 0
 have lf8:=zp HF8.out
 clear g8
 have HQ:=xF (show Fct.get b=(fz,2,0)from HQ0.out.1)
 have HBN:=xF (show Calls Tryz.prog 77 #[.agg #[.string (kSh k),.string (kHas k)],.slice q8 n8 c8] w8 (fun e w'=>e= .returned (.bool false)/\Below w8.heap.size w8 w')from by
  have h1:=pbounded_any k t0 q8 n8 c8 w8 HT8.out.told HN8.out
  rw[HCN.out,show can (of k t0)=false from HQ0.out.2]at h1;exact h1)
 clear HQ0
 go_wp2_with fail
 refine HBN.out.mono ?_
 rintro e w9 ⟨rfl,hb9⟩
 have G9:=xF (G8.out.on hb9)
 clear hb9
 have HO:=xF (G9.out.out (z:=fz) zlen none 0 2 0)
 have os1:=HO.out.s1
 have os2:=HO.out.s2
 have mz:=zZ
 have mf:=Zv 2
 have HZL:=xF zlen
 go_wp2_with fail
 refine bodyPost_ret (v:=.tuple #[.agg (fcells fz none 0).toArray,.agg (flt 2 0).toArray]) (zi rfl _ _ _ _ _ _ _ rfl HO.out.b1 (Tryz.underlying28) rfl (fact_sizeA HZL.out _ _) _ _ _ _ _ rfl HO.out.b2 (Tryz.underlying64) rfl (ze 2 0)) rfl ?_
 exact zS HQ.out rfl (z8 _) HO.out.below
theorem xz (b:List Int)(p:Option Addr)(n c:Nat)(w:World)(hi:GIn b p n c w)(h:(Fld.rd 0 0 b).1=0)(hkk:1<=(Fld.rd 0 0 b).2.1/\(Fld.rd 0 0 b).2.1 < 11)(h3:(Fld.get (letters (Fld.rd 0 0 b).2.1) b).2.1=0)(h4:can (of (Fld.rd 0 0 b).2.1 (Fld.get (letters (Fld.rd 0 0 b).2.1) b).1.tail)=true):
 Calls Tryz.prog 37 #[.slice p n c] w (FGet w (Fct.get b)):=by
 have HQ0:=xF (show Fct.get b=(of (Fld.rd 0 0 b).2.1 (Fld.get (letters (Fld.rd 0 0 b).2.1) b).1.tail,0,0)/\can (of (Fld.rd 0 0 b).2.1 (Fld.get (letters (Fld.rd 0 0 b).2.1) b).1.tail)=true from⟨by unfold Fct.get;rw[if_neg (by rw[h];simp),if_neg (by simpa using hkk),if_neg (by rw[h3];simp),if_pos h4],h4⟩)
 obtain⟨k,hk⟩:∃k,k=(Fld.rd 0 0 b).2.1:=⟨_,rfl⟩
 have HR0:=xF h
 have HKE:=xF hk
 rw[<-hk]at hkk
 rw[<-hk]at HQ0 h3
 have HKK:=xF hkk
 have H3:=xF h3
 clear h hk hkk h3 h4
 have al1:=alloc_fact w
 have hb1:=(qB w.heap.size w).alloc (qD _) (.cells (fcells fz none 0).toArray 28)
 have hk1:Blk (w.alloc (.cells (fcells fz none 0).toArray 28)) w.heap.size (fcells fz none 0) 28:=Blk.new w (fcells fz none 0).toArray 28
 obtain⟨w1,hw1⟩:∃v,v=w.alloc (.cells (fcells fz none 0).toArray 28):=⟨_,rfl⟩
 rw[<-hw1]at al1 hb1 hk1
 have al2:=zf w1
 have hb2:=hb1.alloc hb1.size (.cells (flt 0 0).toArray 64)
 have hk2:Blk (w1.alloc (.cells (flt 0 0).toArray 64)) w1.heap.size (flt 0 0) 64:=Blk.new w1 (flt 0 0).toArray 64
 have hk12:=hk1.old (.cells (flt 0 0).toArray 64)
 obtain⟨w2,hw2⟩:∃v,v=w1.alloc (.cells (flt 0 0).toArray 64):=⟨_,rfl⟩
 rw[<-hw2]at al2 hb2 hk2 hk12
 obtain⟨r1,hr1⟩:∃r,r=w.heap.size:=⟨_,rfl⟩
 obtain⟨r2,hr2⟩:∃r,r=w1.heap.size:=⟨_,rfl⟩
 rw[<-hr1]at al1 hk12
 rw[<-hr2]at al2 hk2
 have HLO:=xF (show w.heap.size<=r1/\r1 < r2 from⟨by omega,by have:=hk1.lt;omega⟩)
 have HB2:=xF hb2
 have HR1:=xF hk12
 have HR2:=xF hk2
 have HI:=xF hi
 have HI2:=xF (hi.below hb2)
 have HKD:=xF (show kind_ b= .returned (.tuple #[.int .i64 k,.agg (flt 0 0).toArray])from by rw[HKE.out];unfold kind_;rw[if_pos HR0.out,show kread b=([iN (Fld.rd 0 0 b).2.1],0,0) by unfold kread;rw[if_pos HR0.out]];rfl)
 have KO:=xF (zA b p n c w2 HI2.out.len HI2.out.byte HI2.out.at_ HI2.out.le HI2.out.max HI2.out.nil HI2.out.few)
 rw[HKD.out]at KO
 clear hw1 hw2 hr1 hr2 hb1 hb2 hk1 hk2 hk12 hi
 go_enter Tryz.func37,Tryz.ntmps37
 go_wp2_with fail
 refine KO.out.mono ?_
 rintro e w3 ⟨rfl,hb3⟩
 have HB3:=xF (HB2.out.trans (hb3.mono HB2.out.size))
 have HI3:=xF (HI2.out.below hb3)
 have al3:=zf w3
 have st3:=(run_storeNew w3 (P:=Tryz.prog) (t:=64) (old:=(flt 0 0).toArray) (cs:=(flt 0 0).toArray) (ze 0 0) rfl (by simp[Value.oneCell']))
 have hb34:=(qB w3.heap.size w3).alloc (qD _) (.cells (flt 0 0).toArray 64)
 have hk4:Blk (w3.alloc (.cells (flt 0 0).toArray 64)) w3.heap.size (flt 0 0) 64:=Blk.new w3 (flt 0 0).toArray 64
 have hr13:=HR1.out.below hb3 HR1.out.lt
 have hr23:=HR2.out.below hb3 HR2.out.lt
 have hg3:G3 w r1 r2 w3.heap.size 0 0 (w3.alloc (.cells (flt 0 0).toArray 64)):=⟨hr13.old _,hr23.old _,hk4,⟨HLO.out.1,HLO.out.2,hr23.lt⟩,HB3.out.trans (hb34.mono HB3.out.size)⟩
 have hi4:=HI3.out.below hb34
 obtain⟨g,hg'⟩:∃g,g=w3.heap.size:=⟨_,rfl⟩
 rw[<-hg']at al3 st3 hg3
 clear hb3 hb34 hk4 hr13 hr23 hg' KO al1 al2 HR1 HR2 HB2 HI2
 generalize w3.alloc (.cells (flt 0 0).toArray 64)=w4 at *
 have G4:=xF hg3
 have HI4:=xF hi4
 have k0:w4.cell? ⟨g,0,none⟩=some (.int .i64 0):=hg3.bg.cell 0
 clear hg3 hi4
 go_wp2_with fail
 refine(forms_any w4).mono ?_
 rintro e w5 ⟨m,rfl,hm5,hb5⟩
 have G5:=xF (G4.out.on hb5)
 have HI5:=xF (HI4.out.below hb5)
 have lk:=look_yes hm5 k HKK.out true
 have al5:=zo w5
 have st5:=zj w5 (kSh k) (kHas k)
 have hb56:=(qB w5.heap.size w5).alloc (qD _) (.cells #[.string (kSh k),.string (kHas k)] 79)
 have hg6:=G5.out.on hb56
 have hi6:=HI5.out.below hb56
 have hf6:Blk (w5.alloc (.cells #[.string (kSh k),.string (kHas k)] 79)) w5.heap.size [.string (kSh k),.string (kHas k)] 79:=Blk.new w5 _ 79
 obtain⟨gf,hgf⟩:∃gf,gf=w5.heap.size:=⟨_,rfl⟩
 rw[<-hgf]at al5 st5 hf6
 clear hm5 hb5 k0 hb56 hgf
 generalize w5.alloc (.cells #[.string emp,.string emp] 79)=wr at *
 generalize w5.alloc (.cells #[.string (kSh k),.string (kHas k)] 79)=w6 at *
 have G6:=xF hg6
 have HI6:=xF hi6
 have HF6:=xF hf6
 have c6:w6.cell? ⟨gf,0,none⟩=some (.string (kSh k)):=hf6.cell 0
 obtain⟨sn,hcat,hsn,hsz⟩:=zR k (.const (.string ⟨#[110]⟩)) (.tmp 31)
 have HG6:=xF (show Calls Tryz.prog 76 #[.string sn,.slice p n c] w6 (GetDoneR w6 (Fld.get (letters k) b))from by
  have h1:=getF_anyR sn hsz b p n c w6 hi6.len hi6.byte hi6.at_ hi6.le hi6.max hi6.nil hi6.few
  rw[hsn]at h1;exact h1)
 clear hg6 hi6 hf6 hsn hsz
 go_wp2_with fail
 refine HG6.out.mono ?_
 rintro e w7 ⟨q7,n7,c7,rfl,ht7,hb7⟩
 obtain⟨l7,hG⟩:∃l,Fld.get (letters k) b=(l,0,0):=by
  obtain⟨⟨l,e,j⟩,hG⟩:∃G,G=Fld.get (letters k) b:=⟨_,rfl⟩
  have h4:=H3.out
  rw[<-hG]at h4
  have h4':e=0:=h4
  subst h4'
  have h5:=(zY HI.out.byte hG.symm).2
  subst h5
  exact⟨l,hG.symm⟩
 have hlen:=(zY HI.out.byte hG).1
 rw[hG]at ht7 HQ0 ⊢
 obtain⟨y0,t0,rfl⟩:∃y t,l7=y::t:=by
  cases l7 with
  | nil=>simp at hlen;omega
  | cons y t=>exact⟨y,t,rfl⟩
 have htl:t0.length=(hasL k).length:=by simp at hlen;omega
 have HTL:=xF htl
 have HCN:=xF (ZP k HKK.out t0 htl)
 have HOF:=xF (ZO k HKK.out t0 htl)
 have ht7':ToldC True w7 q7 n7 c7 (y0::t0):=ht7.c
 have h1n:1<=n7:=by rw[ht7'.told.len];simp
 have hct:=ZS q7 n7 c7 h1n ht7'.told.le ht7'.told.max
 have htt:=Zh ht7'
 have hn7:n7 - 1=(hasL k).length:=by rw[ht7'.told.len];simpa using htl
 have g7:=G6.out.on hb7
 have st7:=zl (e':=0) (a':=0) g7.bg
 have g8:=g7.set 0 0
 have ht8:=Zi htt g7.bg (flt 0 0)
 have HF7:=xF (HF6.out.below hb7 HF6.out.lt)
 have HF8:=xF (HF7.out.rowOther (k:=g) (flt 0 0).toArray (show gf≠g from fun e=>by
  have h8:=HF7.out
  have h9:=g7.bg
  unfold Blk at h8 h9
  rw[e,h9]at h8;simp at h8))
 generalize(if c7=1 then q7 else q7.map (·.add (1*34)))=q8 at *
 generalize n7 - 1=n8 at *
 generalize c7 - 1=c8 at *
 have HT8:=xF ht8
 have HN8:=xF hn7
 clear g7 hb7 ht7 ht7' ht8 htt hlen htl hn7 h1n hG lk al5 st5 hcat c6 HG6
 generalize w7.setRow g (flt 0 0).toArray=w8 at *
 have G8:=xF g8
 have k8:w8.cell? ⟨g,0,none⟩=some (.int .i64 0):=g8.bg.cell 0
 have lf8:=zp HF8.out
 clear g8
 have HQ:=xF (show Fct.get b=(of k t0,0,0)from HQ0.out.1)
 have HBN:=xF (show Calls Tryz.prog 77 #[.agg #[.string (kSh k),.string (kHas k)],.slice q8 n8 c8] w8 (fun e w'=>e= .returned (.bool true)/\Below w8.heap.size w8 w')from by
  have h1:=pbounded_any k t0 q8 n8 c8 w8 HT8.out.told HN8.out
  rw[HCN.out,show can (of k t0)=true from HQ0.out.2]at h1;exact h1)
 clear HQ0
 go_wp2_with fail
 refine HBN.out.mono ?_
 rintro e w9 ⟨rfl,hb9⟩
 have G9:=xF (G8.out.on hb9)
 have HT9:=xF (HT8.out.below hb9)
 have HF9:=xF (HF8.out.below hb9 HF8.out.lt)
 have lf9:=zp HF9.out
 have HFC:=xF (show Calls Tryz.prog 78 #[.agg #[.string (kSh k),.string (kHas k)],.int .i64 k,.slice q8 n8 c8] w9 (FToldC True (of k t0) w9)from by
  have h1:=pfactC_any True k (fit_small (by have:=HKK.out;omega)) t0 q8 n8 c8 w9 HT9.out HN8.out
  rw[HOF.out]at h1;exact h1)
 clear hb9 lf8 k8
 go_wp2_with fail
 refine HFC.out.mono ?_
 rintro e wA ⟨qA,cA,rfl,hgA,huA,hbA⟩
 have GA:=xF (G9.out.on hbA)
 have HGA:=xF hgA
 have HZL:=xF hgA.ok.len
 have HO:=xF (GA.out.out (z:=of k t0) hgA.ok.len qA cA 0 0)
 have HGO:=xF (Yc GA.out hgA (huA trivial) (of k t0) qA cA 0 0)
 have os1:=HO.out.s1
 have os2:=HO.out.s2
 have mf:=zT
 clear hgA huA hbA lf9
 go_wp2_with fail
 refine bodyPost_ret (v:=.tuple #[.agg (fcells (of k t0) qA cA).toArray,.agg (flt 0 0).toArray]) (zi rfl _ _ _ _ _ _ _ rfl HO.out.b1 (Tryz.underlying28) rfl (fact_sizeA HZL.out _ _) _ _ _ _ _ rfl HO.out.b2 (Tryz.underlying64) rfl (ze 0 0)) rfl ?_
 exact zS HQ.out rfl HGO.out HO.out.below
theorem Yd (b:List Int)(p:Option Addr)(n c:Nat)(w:World)(hn:b.length=n)(hb:∀m∈b,0<=m/\m<=255)(hA:At w p (b.map v8))(hle:n<=c)(hm:c<=9223372036854775807)(hp:p=none->c=0)(hs:n<=1000000):
 Calls Tryz.prog 37 #[.slice p n c] w (FGet w (Fct.get b)):=by
 have hi:GIn b p n c w:=⟨hn,hb,hA,hle,hm,hp,hs⟩
 by_cases h1:(Fld.rd 0 0 b).1=0
 ·by_cases h2:1<=(Fld.rd 0 0 b).2.1/\(Fld.rd 0 0 b).2.1 < 11
  ·by_cases h3:(Fld.get (letters (Fld.rd 0 0 b).2.1) b).2.1=0
   ·cases h4:can (of (Fld.rd 0 0 b).2.1 (Fld.get (letters (Fld.rd 0 0 b).2.1) b).1.tail)with
    | true=>exact xz b p n c w hi h1 h2 h3 h4
    | false=>exact xy b p n c w hi h1 h2 h3 h4
   ·exact xx b p n c w hi h1 h2 h3
  ·exact xw b p n c w hi h1 h2
 ·exact xv b p n c w hi h1
end
section
open Go.RowKit Sha Fct
attribute [local go_sem ↓] execOp_boxFact execOp_loadFact
theorem Z8 (x:Fac)(q:Option Addr)(c:Nat)(w:World)(hx:sF.Good w x q c):
 Calls Tryz.prog 15 #[.agg (fcells x q c).toArray] w fun e w'=>e= .returned (.int .i64 (Fct.check x))/\Below w.heap.size w w':=by
 have bx:=run_boxOp (P:=Tryz.prog) (t:=28) (cs:=(fcells x q c).toArray) w
 have hb1:=(qB w.heap.size w).alloc (qD _) (.cells (fcells x q c).toArray 28)
 have hk1:Blk (w.alloc (.cells (fcells x q c).toArray 28)) w.heap.size (fcells x q c) 28:=Blk.new w (fcells x q c).toArray 28
 generalize w.alloc (.cells (fcells x q c).toArray 28)=w1 at *
 obtain⟨g,hg⟩:∃g,g=w.heap.size:=⟨_,rfl⟩
 rw[<-hg]at hk1 bx
 have HB1:=xF hb1
 have HK1:=xF hk1
 have HX:=xF hx
 have HFM:=xF (fun w=>forms_any w)
 clear hb1 hk1 hx hg
 have E0:=xF (fun W (hb:Below w1.heap.size w1 W)=>load_factB (HK1.out.below hb HK1.out.lt) HX.out.ok.len)
 go_enter Tryz.func15,Tryz.ntmps15
 go_wp2_with fail
 go_region_held3 (fun w'=>Below w1.heap.size w1 w'/\(loadOp 28 (.pointer (some ⟨g,0,none⟩))).run Tryz.prog w'= .ok (.value (.agg (fcells x q c).toArray)) w')
  (exact⟨(by(repeat(first | exact qB _ _ | assumption | refine Below.drew ?_))),E0.out _ (by(repeat(first | exact qB _ _ | assumption | refine Below.drew ?_)))⟩)
  ((first
    | (go_at_call 41;refine(HFM.out _).mono ?_;rintro e w2 ⟨m,rfl,hm,hb2⟩;(have hbw2:Below w1.heap.size w1 w2:=below_next9 (by(repeat(first | exact qB _ _ | assumption | refine Below.drew ?_))) hb2);(have l2:=E0.out _ hbw2);(have HM:=xF hm);clear hb2 hm)
    | (go_at_call 42;refine(zQ x q c m w2 HM.out (HX.out.below (HB1.out.trans (hbw2.mono HB1.out.size)))).mono ?_;rintro e w3 ⟨rfl,hb3⟩;(have hbw3:Below w1.heap.size w1 w3:=below_next9 hbw2 hb3);(have l3:=E0.out _ hbw3);clear hb3)))
 all_goals(go_wp2_with fail;go_ret)
 all_goals exact⟨rfl,HB1.out.trans (hbw3.mono HB1.out.size)⟩
theorem yB:FactsBytes where
 check x q c w hx _:=Z8 x q c w hx
 put x q c w hx _:=Ya x q c w hx
 get b p n c w hn hb hA hle hm hp hs:=Yd b p n c w hn hb hA hle hm hp hs
end
section
open Go.RowKit Go.Shelf Sha Fct
attribute [local go_sem] Oper.semAt_some
attribute [local go_sem ↓] execOp_allocFact execOp_allocSte execOp_storeFact execOp_storeSte execOp_boxSte execOp_loadSte execOp_makeSte execOp_loadFact
theorem zV {fn:Func} {p q:Tmp}(h:fn.results=#[.cell p 47,.cell q 32])(tmps:Array Value)(w:World)(g g2:Nat)(s:Ste)(k:Hds)(v2:Int)
 (hp:tmps.getD p undef= .pointer (some ⟨g,0,none⟩)) (hq:tmps.getD q undef= .pointer (some ⟨g2,0,none⟩)) (hg:Blk w g (scells s k) 47) (h2:w.cell? ⟨g2,0,none⟩=some (.int .i64 v2)):
 (results fn tmps).run Tryz.prog w= .ok (.tuple #[.agg (scells s k).toArray,.int .i64 v2]) w:=by
 have hp':tmps[p]?.getD undef= .pointer (some ⟨g,0,none⟩):=by simpa using hp
 have hq':tmps[q]?.getD undef= .pointer (some ⟨g2,0,none⟩):=by simpa using hq
 have e1:=run_loadVar_row (P:=Tryz.prog) w g 47 47 (scells s k).toArray (0,0) _ hg Tryz.underlying47 rfl (ste_sizeA s k)
 have e2:(loadVar 32 ⟨g2,0,none⟩).run Tryz.prog w= .ok (.int .i64 v2) w:=by simp[go_sem,h2]
 simp[results,h,hp',hq',asAddr,e1,e2]
def FoldP (w:World)(B:Nat)(t:Ste×Int)(e:Ending)(w':World):Prop:=
 ∃r' k',e= .returned (.tuple #[.agg (scells t.1 k').toArray,.int .i64 t.2])/\zh t.1 r'=scells t.1 k'/\StR w' B t.1 r'/\Chg (fun j=>OwnR w B j) w w'
theorem Ye {W:World} {g2 g3 D:Nat}(c2:List Value)(v3:Value)(x:Obj):Chg (fun j=>j=g2\/j=g3\/j=D) W (((W.setRow g2 c2.toArray).setCell ⟨g3,0,none⟩ v3).putObj D x):=by
 refine⟨rfl,rfl,rfl,?_,fun k _ hn=>?_⟩
 ·simp[World.putObj,World.setCell,World.setRow]
 ·rw[World.putObj_heap_other (fun e=>hn (Or.inr (Or.inr e))),Below.heap_setCell _ _ _ _ (fun e=>hn (Or.inr (Or.inl e))),setRow_other _ _ _ _ (fun e=>hn (Or.inl e))]
theorem StR.ends {W W':World} {B g2 g3 D:Nat} {t:Ste} {r:Rows9} {c2 c3:List Value} {x:Option (List Deferred)}(h:StR W B t r)(h2:Blk W g2 c2 47)(h3:Blk W g3 c3 32)(hD:W.heap[D]? = some (.deferred x))(hc:Chg (fun j=>j=g2\/j=g3\/j=D) W W'):StR W' B t r:=
 h.chg hc fun k cs fz t hk ht e=>by
  have h4:t≠47/\t≠32:=by
   rcases ht with ht | ht
   ·rcases ht with rfl | rfl | rfl | rfl | rfl<;>decide
   ·subst ht;decide
  unfold Blk at h2 h3
  rcases e with rfl | rfl | rfl
  ·rw[hk]at h2;cases h2;exact h4.1 rfl
  ·rw[hk]at h3;cases h3;exact h4.2 rfl
  ·rw[hk]at hD;cases hD
theorem Zj {w w1 W:World} {B g g2 g3 D:Nat} {X:Nat->Prop}(hb:Below w.heap.size w w1)(hg:w.heap.size<=g)(h2:w.heap.size<=g2)(h3:w.heap.size<=g3)(hX:∀k,X k->w.heap.size<=k)(hc:Chg (fun j=>Own9 w1 B g j\/X j) w1 W):Chg (fun j=>OwnR w B j) w W:=
 ⟨hc.os.trans hb.os,hc.tape.trans hb.tape,hc.output.trans hb.output,Nat.le_trans hb.size hc.size,fun k hk hn=>by
  refine(hc.block k (Nat.lt_of_lt_of_le hk hb.size) fun e=>?_).trans (hb.block k hk)
  rcases e with(e | ⟨e1,cs,t,fz,e2,e3⟩) | e
  ·omega
  ·exact hn ⟨e1,cs,t,fz,(hb.block k hk).symm.trans e2,e3⟩
  ·have:=hX k e;omega⟩
theorem Yf {w0 w W:World} {B g:Nat} {x:Fac} {q:Option Addr} {c:Nat} {X:Nat->Prop}(h:sF.Good w0 x q c)(hb:Below w0.heap.size w0 w)(hB:w0.heap.size<=B)(hg:B<=g)(hX:∀k,X k->B<=k)(hc:Chg (fun j=>Own9 w B g j\/X j) w W):sF.Good W x q c:=
 h.carry fun p v hv=>by
  have hp:=World.block_lt_of_cell? w0 p hv
  have h1:=hc.block p.block (Nat.lt_of_lt_of_le hp hb.size) (fun e=>by
   rcases e with(e | ⟨e,_⟩) | e
   ·omega
   ·omega
   ·have:=hX _ e;omega)
  exact(World.cell?_of_block (w:=w0) (a:=p) (h1.trans (hb.block _ hp))).trans hv
theorem Yg {w0:World} {x:Fac} {q:Option Addr} {c:Nat} {B:Nat}(h:sF.Good w0 x q c)(hB:w0.heap.size<=B):x.B= []\/∀a,q=some a->a.block < B:=by
 rcases h.at_ with h1 | ⟨b,off,rfl,hc⟩
 ·exact Or.inl (List.map_eq_nil_iff.1 (show x.B.map v8= []from h1))
 ·cases hx:x.B with
  | nil=>exact Or.inl rfl
  | cons m l=>
     right
     rintro a ha
     cases ha
     have h2:=hc 0 (v8 m) (by rw[show sF.byt x=x.B from rfl,hx];rfl)
     exact Nat.lt_of_lt_of_le (World.block_lt_of_cell? w0 _ h2) hB
theorem Yh (l:List Fac):∀(s t:Ste)(k:Nat)(hk:k < l.length),s.run (l.take k)=(t,0)->can l[k] = false->s.run l=(Ste.none,2):=by
 intro s t k hk h1 h2
 have h3:=run_append (l.take k) (l.drop k) s t h1
 rw[List.take_append_drop]at h3
 rw[h3,List.drop_eq_getElem_cons hk,Ste.run,if_neg (by simp[h2])]
theorem Yi (l:List Fac)(s t:Ste)(k:Nat)(hk:k < l.length)(h1:s.run (l.take k)=(t,0))(h2:can l[k] = true):s.run (l.take (k+1))=(t.on l[k],0):=by
 rw[List.take_succ_eq_append_getElem hk,run_append _ _ _ _ h1,Ste.run,if_pos h2];rfl
def FoldI (s:Ste)(l:List Fac)(w1:World)(B g:Nat)(k:Nat)(W:World):Prop:=
 ∃t r,s.run (l.take k)=(t,0)/\Sound t/\StO W B g t r/\Chg (fun j=>Own9 w1 B g j\/False) w1 W
def FoldX (s:Ste)(l:List Fac)(w1:World)(B g g2 g3:Nat)(c:Code)(_:Nat)(W:World):Prop:=
 c= .ret/\s.run l=(Ste.none,2)/\Blk W g2 (scells Ste.none Hds.none) 47/\Blk W g3 [.int .i64 2] 32/\Chg (fun j=>Own9 w1 B g j\/(j=g2\/j=g3)) w1 W
theorem Zk {β:Type}(g B:Nat)(t:TypeId)(cs:List Value):OwnFrom (β:=β) B (fun _ W=>Blk W g cs t):=fun _ W W' row hs hg hr=>blk_grown hs hg fun e=>by
 obtain⟨_,o,ho,hc⟩:=hr g e
 rw[show W.heap[g]? = _ from hs]at ho;cases ho;cases hc
theorem ZT {β:Type} {w1:World} {B:Nat} {X:Nat->Prop}(hB:w1.heap.size<=B):OwnFrom (β:=β) B (fun _ W=>Chg X w1 W):=fun _ W W' row hs hg hr=>hs.grown hg fun k e hk=>by
 have:=(hr k e).1;omega
theorem yC {W W':World} {B B' g:Nat} {t:Ste} {r:Rows9} {row:Option Nat}(h:StO W B g t r)(hg:W.grownBy W' row)(hr:∀k,row=some k->B'<=k/\∃o:Obj,W.heap[k]? = some o/\o.isCells=false):StO W' B g t r:=
 h.chg (Q:=fun k=>row=some k) ((Chg.refl _ W).grown hg fun k e _=>e) fun k cs fz t hk _ e=>by
  obtain⟨_,o,ho,hc⟩:=hr k e
  rw[hk]at ho;cases ho;cases hc
theorem Zy (s:Ste)(l:List Fac)(w1:World)(B g:Nat):OwnFrom w1.heap.size (FoldI s l w1 B g):=fun k W W' row ⟨t,r,h1,h2,h3,h4⟩ hg hr=>
 ⟨t,r,h1,h2,yC h3 hg hr,ZT (qD _) k W W' row h4 hg hr⟩
theorem yD (s:Ste)(l:List Fac)(w1:World)(B g g2 g3:Nat)(c:Code):OwnFrom w1.heap.size (FoldX s l w1 B g g2 g3 c):=fun k W W' row ⟨h1,h2,h3,h4,h5⟩ hg hr=>
 ⟨h1,h2,Zk g2 _ _ _ k W W' row h3 hg hr,Zk g3 _ _ _ k W W' row h4 hg hr,ZT (qD _) k W W' row h5 hg hr⟩
end
section
open Go.RowKit Sha Fct
attribute [local go_sem ↓] execOp_boxFact
theorem StO.setOne {w:World} {B g:Nat} {s t:Ste} {r:Rows9}(h:StO w B g s r)(i:Nat)(v:Value)(hc:(zh s r).set i v=zh t r)(hb:t.blobs=s.blobs)(hk:t.keeps=s.keeps)(hh:t.hints=s.hints)(hv:t.votes=s.votes)(hd:t.decs=s.decs):
 StO (w.setCell ⟨g,i,none⟩ v) B g t r/\Chg (fun k=>Own9 w B g k\/False) w (w.setCell ⟨g,i,none⟩ v):=by
 have hg:=zg w g i v
 have hch:Chg (fun k=>k=g) w (w.setCell ⟨g,i,none⟩ v):=(Chg.refl _ w).grown hg fun k hk _=>by cases hk;rfl
 have hn:∀k cs fz t',w.heap[k]? = some (.cells cs t' fz)->t'≠47->¬k=g:=by
  rintro k cs fz t' hk ht rfl
  have h3:=h.blk
  unfold Blk at h3
  rw[hk]at h3;simp at h3;exact ht h3.2.1
 have hb2:=h.blk.set i v
 rw[hc]at hb2
 refine⟨⟨hb2,h.lo,h.b.chg hch fun k cs fz t hk ht=>hn k cs fz t hk (by rcases ht with rfl | rfl<;>decide),by rw[hb];exact h.be,h.k.chg hch fun k cs fz t hk ht=>hn k cs fz t hk (by rcases ht with rfl | rfl<;>decide),by rw[hk];exact h.ke,h.h.chg hch fun k cs fz t hk ht=>hn k cs fz t hk (by rcases ht with rfl | rfl<;>decide),by rw[hh];exact h.he,
  h.v.chg hch fun k cs fz t hk ht=>hn k cs fz t hk (by rcases ht with rfl | rfl<;>decide),by rw[hv];exact h.ve,h.d.chg hch fun k cs fz t hk ht=>hn k cs fz t hk (by rcases ht with rfl | rfl<;>decide),by rw[hd];exact h.de⟩,hch.mono fun k _ e=>Or.inl (Or.inl e)⟩
theorem Y1 (w:World)(B g:Nat)(s:Ste)(r:Rows9)(f:Fac)(q:Option Addr)(c:Nat)(h:StO w B g s r)(hf:f.K=2):
 Calls Tryz.prog 92 #[.pointer (some ⟨g,0,none⟩),.agg (fcells f q c).toArray] w (DoP w B g (s.on f)):=by
 obtain⟨w1,hb⟩:=fbx9 w f q c
 have bx:=hb.b1
 have cK:=hb.K
 have cS:=hb.S
 have h1:=h.below hb.below
 have c0:w1.cell? ⟨g,1,none⟩=some (.int .i64 s.boot):=h1.blk.cell 1
 have f0:=h1.blk.free 1
 have HE:=xF (on_2 s hf)
 have HP:=xF (fun n (hn:n=max s.boot f.S)=>h1.setOne (t:={s with boot:=max s.boot f.S}) 1 (.int .i64 n) (by subst hn;rfl) rfl rfl rfl rfl rfl)
 have HB:=xF hb.below
 rw[hf]at cK
 obtain⟨gf,hgf⟩:∃b,b=w.heap.size:=⟨_,rfl⟩
 rw[<-hgf]at bx cK cS
 clear hgf
 clear hb h h1 hf
 go_enter Tryz.func92,Tryz.ntmps92
 go_wp2_with fail
 go_region_law (fail)
 all_goals(
  go_end0
  obtain⟨p1,p2⟩:=HP.out (if s.boot < f.S then f.S else s.boot) (by split<;>omega)
  rw[HE.out]
  exact StOP.from ⟨rfl,r,p1.below (qB _ _).drew,p2.grown (below_grown (qB _ _).drew none) (by intro k hk;cases hk)⟩ HB.out)
end
section
open Go.RowKit Sha Fct
attribute [local go_sem ↓] execOp_boxFact execOp_loadFact execOp_loadId zu
theorem Y2 (w:World)(B g:Nat)(s:Ste)(r:Rows9)(f:Fac)(q:Option Addr)(c:Nat)(h:StO w B g s r)(hf:f.K=3)(hg:sF.Good w f q c)(hd:idOk f.D)(hbl:f.B.length<=1000000)(hs:Sound s)(hl:Lens r)(hB:B<=w.heap.size):
 Calls Tryz.prog 92 #[.pointer (some ⟨g,0,none⟩),.agg (fcells f q c).toArray] w (DoP w B g (s.on f)):=by
 obtain⟨px,cx,hvx,_⟩:=h.b.told
 obtain⟨w1,hb⟩:=fbx9 w f q c
 have bx:=hb.b1
 have cK:=hb.K
 have cS:=hb.S
 rw[hf]at cK
 have hk1:=hb.k1
 have h1:=h.below hb.below
 obtain⟨gf,hgf⟩:∃b,b=w.heap.size:=⟨_,rfl⟩
 rw[<-hgf]at bx cK cS hk1
 clear hgf
 have hD:=hg.ok.len
 have v1:w1.cell? ⟨g,2,none⟩=some (.slice px r.yb.length cx):=by rw[h1.blk.cell 2,<-hvx];rfl
 have d1:w1.cell? ⟨gf,37,none⟩=some (.slice q f.B.length c):=(hk1.cell 37).trans (fcells_B hD q c)
 have l0:=zB (w:=w1.drew) (g:=gf) (f:=f) (q:=q) (c:=c) hk1 hD
 have HB1:=xF hb.below
 have HS1:=xF h1
 have HK1:=xF hk1
 have HGD:=xF hg
 have HD:=xF hd
 have HL:=xF hD
 have HBL:=xF hbl
 have HVX:=xF hvx
 have HBW:=xF (Nat.le_trans hB hb.below.size)
 have HE:=xF h.be
 have HUP:=xF (show Rise.Up bkey Sha.less (r.yb.map (·.1)) by rw[h.be];exact hs.blobsUp)
 have HLN:=xF hl.b
 have HON:=xF (on_3 s hf)
 obtain⟨nb,hnb⟩:∃n,n=f.B.length:=⟨_,rfl⟩
 rw[<-hnb]at d1
 have HNB:=xF hnb
 have mk:=fun(q4:Option Addr) (c4:Nat) (w:World)=>Y7 f.D f.B hD q4 nb c4 hnb w
 obtain⟨nx,hnx⟩:∃n,n=r.yb.length:=⟨_,rfl⟩
 rw[<-hnx]at v1
 have HNX:=xF hnx
 have HCL:=xF (fun(W:World) (hW:Below w1.heap.size w1 W)=>(show Calls Tryz.prog 128 #[.slice q nb c] W (CpyP W f.B nb)from by
  have h2:=(hg.below hb.below).below hW
  exact clone8_any f.B nb q c W hnb.symm h2.at_ (by rw[hnb];exact h2.le) h2.max h2.nil (by rw[hnb];exact hbl)))
 have HPL:=xF (fun(W:World) (hW:Below w1.heap.size w1 W) (q4:Option Addr) (c4:Nat) (hc:Cpy W f.B q4 c4)=>(show Calls Tryz.prog 127 #[.slice px nx cx,.agg (bcells (f.D,f.B) q4 c4).toArray,.func (.func 129) #[] #[]] W (PlcB W B r.vb (r.yb.map (·.1)) (f.D,f.B))from by
  have h2:=YE W B r.vb r.yb (h1.below hW).b (by rw[h.be];exact hs.blobsUp) (f.D,f.B) q4 c4 ⟨⟨hd,hg.ok.B⟩,hc.at_,hc.le,hc.max,hc.nil⟩ hc.u8 hl.b (Nat.le_trans (Nat.le_trans hB hb.below.size) hW.size)
  rw[hvx,<-hnx]at h2 ⊢
  exact h2))
 clear hb h h1 hk1 hg hd hbl hvx hB hs hl hf hD hnb hnx
 go_enter Tryz.func92,Tryz.ntmps92
 go_wp2_with fail
 go_region_law ((first
  | (go_simp;go_at_call 128;refine(HCL.out _ (qB _ w1).drew).mono ?_;rintro e w4 ⟨q4,c4,rfl,hc4,hb4⟩;(have HB4:=xF (show Below w1.heap.size w1 w4 from(qB _ w1).drew.trans hb4));(have HC4:=xF hc4);clear hb4 hc4;(have v4:w4.cell? ⟨g,2,none⟩=some (.slice px nx cx):=(HB4.out.cell (p:=⟨g,2,none⟩) (World.block_lt_of_cell? w1 _ v1)).trans v1);(have s4:w4.cell? ⟨gf,1,none⟩=some (i64c f.S):=(HB4.out.cell (p:=⟨gf,1,none⟩) (World.block_lt_of_cell? w1 _ cS)).trans cS);(have l4:=zB (HK1.out.below HB4.out HK1.out.lt) HL.out);(have m4:=mk q4 c4))
  | (go_simp;go_at_call 127;refine(HPL.out _ HB4.out q4 c4 HC4.out).mono ?_;rintro e w3 ⟨v',zs,rfl,hr3,hz3,hg3,_,_⟩;(obtain⟨v3,f3,hs3,hc3,_⟩:=xm (HS1.out.below HB4.out) (qB _ _) hr3 hg3);(obtain⟨q5,c5,rfl,_⟩:=hr3.told);(rw[HVX.out]at v3);(have HS3:=xF hs3);(have HC3:=xF hc3);(have HZ3:=xF hz3);clear hs3 hc3 hz3 hr3 hg3;generalize zs.length=n5 at *)))
 all_goals(
  go_wp2_with fail
  go_end0
  have hs:=HS3.out
  rw[HZ3.out,HE.out]at hs
  have hbb:=HB1.out.trans (HB4.out.mono HB1.out.size)
  rw[HON.out]
  exact⟨rfl,_,hs,zd ((Chg.refl _ w).grown (below_grown hbb none) fun k hk=>by cases hk) HC3.out⟩)
end
section
open Go.RowKit Sha Fct
attribute [local go_sem ↓] execOp_boxFact execOp_loadFact execOp_loadId zu
theorem yE (w:World)(B g:Nat)(s:Ste)(r:Rows9)(f:Fac)(q:Option Addr)(c:Nat)(h:StO w B g s r)(hf:f.K=9)(hg:sF.Good w f q c)(hd:idOk f.D)(hbl:f.B.length<=1000000)(hs:Sound s)(hl:Lens r)(hB:B<=w.heap.size):
 Calls Tryz.prog 92 #[.pointer (some ⟨g,0,none⟩),.agg (fcells f q c).toArray] w (DoP w B g (s.on f)):=by
 obtain⟨px,cx,hvx,_⟩:=h.d.told
 obtain⟨w1,hb⟩:=fbx9 w f q c
 have bx:=hb.b1
 have cK:=hb.K
 have cS:=hb.S
 rw[hf]at cK
 have hk1:=hb.k1
 have h1:=h.below hb.below
 obtain⟨gf,hgf⟩:∃b,b=w.heap.size:=⟨_,rfl⟩
 rw[<-hgf]at bx cK cS hk1
 clear hgf
 have hD:=hg.ok.len
 have v1:w1.cell? ⟨g,6,none⟩=some (.slice px r.yd.length cx):=by rw[h1.blk.cell 6,<-hvx];rfl
 have d1:w1.cell? ⟨gf,37,none⟩=some (.slice q f.B.length c):=(hk1.cell 37).trans (fcells_B hD q c)
 have l0:=zB (w:=w1.drew) (g:=gf) (f:=f) (q:=q) (c:=c) hk1 hD
 have HB1:=xF hb.below
 have HS1:=xF h1
 have HK1:=xF hk1
 have HGD:=xF hg
 have HD:=xF hd
 have HL:=xF hD
 have HBL:=xF hbl
 have HVX:=xF hvx
 have HBW:=xF (Nat.le_trans hB hb.below.size)
 have HE:=xF h.de
 have HUP:=xF (show Rise.Up dkey ilt (r.yd.map (·.1)) by rw[h.de];exact hs.decsUp)
 have HLN:=xF hl.d
 have HON:=xF (on_9 s hf)
 obtain⟨nb,hnb⟩:∃n,n=f.B.length:=⟨_,rfl⟩
 rw[<-hnb]at d1
 have HNB:=xF hnb
 have mk:=fun(q4:Option Addr) (c4:Nat) (w:World)=>xb f.S f.B q4 nb c4 hnb w
 obtain⟨nx,hnx⟩:∃n,n=r.yd.length:=⟨_,rfl⟩
 rw[<-hnx]at v1
 have HNX:=xF hnx
 have HCL:=xF (fun(W:World) (hW:Below w1.heap.size w1 W)=>(show Calls Tryz.prog 128 #[.slice q nb c] W (CpyP W f.B nb)from by
  have h2:=(hg.below hb.below).below hW
  exact clone8_any f.B nb q c W hnb.symm h2.at_ (by rw[hnb];exact h2.le) h2.max h2.nil (by rw[hnb];exact hbl)))
 have HPL:=xF (fun(W:World) (hW:Below w1.heap.size w1 W) (q4:Option Addr) (c4:Nat) (hc:Cpy W f.B q4 c4)=>(show Calls Tryz.prog 133 #[.slice px nx cx,.agg #[i64c f.S,.slice q4 nb c4],.func (.func 134) #[] #[]] W (PlcD W B r.vd (r.yd.map (·.1)) (f.S,f.B))from by
  have h2:=YM W B r.vd r.yd (h1.below hW).d (by rw[h.de];exact hs.decsUp) (f.S,f.B) q4 c4 ⟨⟨hg.ok.S,hg.ok.B⟩,hc.at_,hc.le,hc.max,hc.nil⟩ hc.u8 hl.d (Nat.le_trans (Nat.le_trans hB hb.below.size) hW.size)
  rw[hvx,<-hnx]at h2 ⊢
  rw[hnb]
  exact h2))
 clear hb h h1 hk1 hg hd hbl hvx hB hs hl hf hD hnb hnx
 go_enter Tryz.func92,Tryz.ntmps92
 go_wp2_with fail
 go_region_law ((first
  | (go_simp;go_at_call 128;refine(HCL.out _ (qB _ w1).drew).mono ?_;rintro e w4 ⟨q4,c4,rfl,hc4,hb4⟩;(have HB4:=xF (show Below w1.heap.size w1 w4 from(qB _ w1).drew.trans hb4));(have HC4:=xF hc4);clear hb4 hc4;(have v4:w4.cell? ⟨g,6,none⟩=some (.slice px nx cx):=(HB4.out.cell (p:=⟨g,6,none⟩) (World.block_lt_of_cell? w1 _ v1)).trans v1);(have s4:w4.cell? ⟨gf,1,none⟩=some (i64c f.S):=(HB4.out.cell (p:=⟨gf,1,none⟩) (World.block_lt_of_cell? w1 _ cS)).trans cS);(have l4:=zB (HK1.out.below HB4.out HK1.out.lt) HL.out);(have m4:=mk q4 c4))
  | (go_simp;go_at_call 133;refine(HPL.out _ HB4.out q4 c4 HC4.out).mono ?_;rintro e w3 ⟨v',zs,rfl,hr3,hz3,hg3,_,_⟩;(obtain⟨v3,f3,hs3,hc3,_⟩:=xt (HS1.out.below HB4.out) (qB _ _) hr3 hg3);(obtain⟨q5,c5,rfl,_⟩:=hr3.told);(rw[HVX.out]at v3);(have HS3:=xF hs3);(have HC3:=xF hc3);(have HZ3:=xF hz3);clear hs3 hc3 hz3 hr3 hg3;generalize zs.length=n5 at *)))
 all_goals(
  go_wp2_with fail
  go_end0
  have hs:=HS3.out
  rw[HZ3.out,HE.out]at hs
  have hbb:=HB1.out.trans (HB4.out.mono HB1.out.size)
  rw[HON.out]
  exact⟨rfl,_,hs,zd ((Chg.refl _ w).grown (below_grown hbb none) fun k hk=>by cases hk) HC3.out⟩)
end
section
namespace Rise
variable {α κ:Type} [DecidableEq κ] {key:α->κ} {lt:κ->κ->Bool}
theorem found_some {k:κ} {l:List α}(h:found key lt k l=true):∃y,look key lt k l=some y:=Option.isSome_iff_exists.1 h
theorem look_drop {k:κ} {l:List α} {y:α}(h:look key lt k l=some y):∃r,l.drop (place key lt k l)=y::r:=by
 obtain⟨r,hr,_⟩:=look_some h
 exact⟨r,by rw[drop_place];exact hr⟩
theorem add_at (x0:α)(l:List α):(add key lt x0 l)[place key lt (key x0) l]? = some ((look key lt (key x0) l).getD x0):=by
 cases hf:found key lt (key x0) l with
 | true=>
    obtain⟨y,hy⟩:=found_some hf
    obtain⟨r,hr⟩:=look_drop hy
    rw[add_found hf,hy]
    have:l[place key lt (key x0) l]? = (l.drop (place key lt (key x0) l))[0]?:=by rw[List.getElem?_drop];simp
    rw[this,hr];rfl
 | false=>
    rw[add_new hf,found_no hf]
    rw[List.getElem?_append_right (by rw[List.length_take];omega),List.length_take,Nat.min_eq_left (place_le _ _)]
    simp
theorem upd_set (x0 x:α)(h:key x=key x0)(l:List α):upd key lt x l=(add key lt x0 l).set (place key lt (key x0) l) x:=by
 cases hf:found key lt (key x0) l with
 | true=>
    obtain⟨y,hy⟩:=found_some hf
    obtain⟨r,hr⟩:=look_drop hy
    rw[add_found hf,upd_some (x:=x) (by rw[h];exact hy),h,<-take_place,<-drop_place,hr]
    have hp:=place_le (key:=key) (lt:=lt) (key x0) l
    generalize place key lt (key x0) l=p at *
    have e:l.set p x=(l.take p++y::r).set p x:=by conv=>lhs;rw[<-List.take_append_drop p l,hr]
    rw[e,List.set_append_right _ _ (by rw[List.length_take];omega),List.length_take,Nat.min_eq_left hp]
    simp
 | false=>
    rw[add_new hf,upd_none (x:=x) (by rw[h];exact found_no hf),h,<-take_place,<-drop_place]
    rw[List.set_append_right _ _ (by rw[List.length_take];omega),List.length_take,Nat.min_eq_left (place_le _ _)]
    simp
end Rise
end
end Go.Proofs.YtokpabkcaofahaaGreat
