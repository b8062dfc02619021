/-
  What stands under factPuts_holds: part 19.
-/
import Derived.Test.YtokpabkcaofahaaGreatPp18
import Derived.Test.YtokpabkcaofahaaGreatPp14
import Derived.Test.YtokpabkcaofahaaGreatPp2
import Derived.WideKeyArr
import Derived.MapKept
import Derived.Test.YtokpabkcaofahaaGreatPp7
import Derived.Deep.MidRow
namespace Go.Proofs.YtokpabkcaofahaaGreat
set_option linter.unusedSimpArgs false
set_option linter.unusedVariables false
set_option maxRecDepth 100000
set_option maxHeartbeats 20000000
section
open Go.RowKit Sha Fct
open Fld (Itm)
def facL:List Int->List Itm->Fac->Fac
 | a::s,y::ys,z=>facL s ys (layF z a y)
 | _,_,z=>z
theorem facL_at {l:List Int} {ys:List Itm}(z:Fac)(j:Nat)(hj:j < l.length)(hy:j < ys.length):facL (l.drop j) (ys.drop j) z=facL (l.drop (j+1)) (ys.drop (j+1)) (layF z l[j] ys[j]):=by
 rw[List.drop_eq_getElem_cons hj,List.drop_eq_getElem_cons hy];rfl
theorem layQ_good {w:World} {z:Fac} {q:Option Addr} {c:Nat} {y:Itm} {p:Option Addr} {d:Nat}(h:sF.Good w z q c)(hy:GoodI w y p d)(l:Int)(hl:isHas l):sF.Good w (layF z l y) (layQ l q p) (layQ l c d):=by
 have hok:=layF_ok h.ok hy.ok l
 rcases hl with rfl | rfl | rfl | rfl | rfl | rfl | rfl
 ·exact⟨hok,h.at_,h.le,h.max,h.nil⟩
 ·exact⟨hok,h.at_,h.le,h.max,h.nil⟩
 ·exact⟨hok,h.at_,h.le,h.max,h.nil⟩
 ·exact⟨hok,h.at_,h.le,h.max,h.nil⟩
 ·exact⟨hok,h.at_,h.le,h.max,h.nil⟩
 ·exact⟨hok,hy.at_,hy.le,hy.max,hy.nil⟩
 ·exact⟨hok,hy.at_,hy.le,hy.max,hy.nil⟩
theorem good_out {w w':World} {x:Fac} {q:Option Addr} {c g:Nat}(h:sF.Good w x q c)(ho:OutOf g x.B q)(ht:Touch [g] w w'):sF.Good w' x q c:=by
 refine⟨h.ok,?_,h.le,h.max,h.nil⟩
 by_cases e:x.B= []
 ·have h2:(sF.byt x).map v8= []:=by show x.B.map v8= [];rw[e];rfl
  rw[h2];exact At.nil _ _
 ·rcases h.at_ with h0 | ⟨b,off,rfl,hc⟩
  ·exact .inl h0
  ·refine .inr ⟨b,off,rfl,fun i v hi=>?_⟩
   have h1:=hc i v hi
   have hlt:b < w.heap.size:=World.block_lt_of_cell? w _ h1
   exact(World.cell?_of_block (w:=w) (a:=⟨b,off+i,none⟩) (ht.block b hlt (by have:=ho e _ rfl;simpa using this))).trans h1
theorem out_none (g:Nat)(b:List Int):OutOf g b none:=fun _ a ha=>nomatch ha
theorem layQ_out {g r:Nat} {z:Fac} {zq:Option Addr} {y:Itm} {yq:Option Addr} {l:Int}(h:OutOf g z.B zq/\OutOf r z.B zq)(hy:OutOf g y.B yq/\OutOf r y.B yq)(hl:isHas l):OutOf g (layF z l y).B (layQ l zq yq)/\OutOf r (layF z l y).B (layQ l zq yq):=by
 rcases hl with rfl | rfl | rfl | rfl | rfl | rfl | rfl
 ·exact h
 ·exact h
 ·exact h
 ·exact h
 ·exact h
 ·exact hy
 ·exact hy
theorem flat_getC:∀(ys:List Hdr),(∀y∈ys,y.1.ok)->∀(i:Nat)(hi:i < ys.length)(j:Nat)(v:Value),(icells ys[i].1 ys[i].2.1 ys[i].2.2)[j]? = some v->(ys.flatMap cellsI)[i*34+j]? = some v
 | [],_,i,hi,_,_,_=>by simp at hi
 | y::ys,h,0,_,j,v,hv=>by
    have hlt:=(List.getElem?_eq_some_iff.1 hv).1
    rw[List.flatMap_cons,Nat.zero_mul,Nat.zero_add,List.getElem?_append_left (by simpa[cellsI]using hlt)]
    exact hv
 | y::ys,h,i+1,hi,j,v,hv=>by
    have hl:(cellsI y).length=34:=icells_length (h y (List.mem_cons_self ..)) _ _
    rw[List.flatMap_cons,List.getElem?_append_right (by rw[hl];omega),hl,show(i+1)*34+j - 34=i*34+j by omega]
    exact flat_getC ys (fun y hy=>h y (List.mem_cons_of_mem _ hy)) i (by simpa using hi) j v (by simpa using hv)
def U8 (w:World)(q:Option Addr)(B:List Int):Prop:=B= []\/∃g cs,q=some ⟨g,0,none⟩/\Blk w g cs 5
theorem U8.on {w w':World} {q:Option Addr} {B:List Int}(h:U8 w q B)(hk:∀g cs,Blk w g cs 5->Blk w' g cs 5):U8 w' q B:=h.imp id fun⟨g,cs,e,hb⟩=>⟨g,cs,e,hk g cs hb⟩
theorem U8.below {w w':World} {q:Option Addr} {B:List Int}(h:U8 w q B)(hb:Below w.heap.size w w'):U8 w' q B:=h.on fun _ _ hk=>hk.below hb hk.lt
theorem U8.out {w:World} {q:Option Addr} {B:List Int}(h:U8 w q B) {r:Nat} {cs:List Value} {t:TypeId}(hr:Blk w r cs t)(ht:5≠t):OutOf r B q:=fun hne a ha e=>by
 rcases h with h | ⟨g,ds,hq,hk⟩
 ·exact hne h
 ·rw[hq]at ha;cases ha
  have e':g=r:=e
  subst e'
  exact blk_ne hk hr ht rfl
structure ToldC (u:Prop)(w:World)(p:Option Addr)(n c:Nat)(l:List Itm):Prop where
 told:Told w p n c l
 rows:∃ys:List Hdr,ys.map (·.1)=l/\At w p (ys.flatMap cellsI)/\∀y∈ys,GoodI w y.1 y.2.1 y.2.2/\(u->U8 w y.2.1 y.1.B)
theorem Told.c {w:World} {p:Option Addr} {n c:Nat} {l:List Itm}(h:Told w p n c l):ToldC False w p n c l:=by
 obtain⟨ys,h1,h2,h3⟩:=h.items
 exact⟨h,ys,h1,h2,fun y hy=>⟨h3 y hy,fun e=>e.elim⟩⟩
theorem ToldC.below {u:Prop} {w w':World} {p:Option Addr} {n c:Nat} {l:List Itm}(h:ToldC u w p n c l)(hb:Below w.heap.size w w'):ToldC u w' p n c l:=by
 obtain⟨ys,h1,h2,h3⟩:=h.rows
 exact⟨h.told.below hb,ys,h1,h2.below hb,fun y hy=>⟨(h3 y hy).1.below hb,fun hu=>((h3 y hy).2 hu).below hb⟩⟩
theorem items_atC {u:Prop} {w:World} {p:Option Addr} {n c:Nat} {l:List Itm}(h:ToldC u w p n c l)(h0:0 < l.length):∃b off,p=some ⟨b,off,none⟩/\∀i (hi:i < l.length),∃q d,ItmAt w b (off+i*34) l[i] q d/\(u->U8 w q l[i].B):=by
 obtain⟨ys,rfl,h2,h3⟩:=h.rows
 rw[List.length_map]at h0
 obtain⟨b,off,rfl,hc⟩:=h2.addr (by rw[flat_length _ (fun y hy=>(h3 y hy).1.ok)];omega)
 refine⟨b,off,rfl,fun i hi=>?_⟩
 rw[List.length_map]at hi
 obtain⟨b2,off2,hp,hit⟩:=items_at h.told (by rw[List.length_map];exact h0)
 cases hp
 have hyi:=h3 ys[i] (List.getElem_mem hi)
 refine⟨ys[i].2.1,ys[i].2.2,?_,by simpa using hyi.2⟩
 obtain⟨q,d,hI⟩:=hit i (by rw[List.length_map];exact hi)
 have hr:w.rangeAt b (off+i*34) (icells ys[i].1 ys[i].2.1 ys[i].2.2):=fun j v hv=>by
  rw[Nat.add_assoc]
  exact hc _ v (flat_getC ys (fun y hy=>(h3 y hy).1.ok) i hi j v hv)
 exact⟨by simpa using hr,by simpa using hyi.1,hI.lt⟩
def kindF (k:Int):Fac:=⟨k,0,0,0,0,Fld.zero32,[]⟩
theorem kindF_ok {k:Int}(h:fit k):(kindF k).ok:=fact_ok0 h (fit_small (by omega)) (fit_small (by omega)) (fit_small (by omega)) (fit_small (by omega)) zlen z32_ok.1 (by simp)
theorem fcells_q {x:Fac}(h:x.D.length=32) {q q':Option Addr} {c c':Nat}(he:(fcells x q c).toArray=(fcells x q' c').toArray):q=q'/\c=c':=by
 have h1:=congrArg (fun a:Array Value=>a.toList[37]?) he
 simp only[fcells_B h]at h1
 simp only[Option.some.injEq,Value.slice.injEq]at h1
 exact⟨h1.1,h1.2.2⟩
def FToldC (u:Prop)(x:Fac)(w:World)(e:Ending)(w':World):Prop:=∃q c,e= .returned (.agg (fcells x q c).toArray)/\sF.Good w' x q c/\(u->U8 w' q x.B)/\Below w.heap.size w w'
theorem layQ_u8 {u:Prop} {w:World} {z:Fac} {zq:Option Addr} {y:Itm} {yq:Option Addr} {l:Int}(h:u->U8 w zq z.B)(hy:u->U8 w yq y.B)(hl:isHas l):u->U8 w (layQ l zq yq) (layF z l y).B:=by
 rcases hl with rfl | rfl | rfl | rfl | rfl | rfl | rfl
 ·exact h
 ·exact h
 ·exact h
 ·exact h
 ·exact h
 ·exact hy
 ·exact hy
theorem u8f_ne:(5:TypeId)≠28:=by decide
attribute [local go_sem ↓] execOp_boxForm execOp_loadItem execOp_allocFact execOp_makeFact execOp_storeFact execOp_loadFact
theorem pfactC_any (u:Prop)(k:Int)(hk:fit k)(ys:List Itm)(p:Option Addr)(n cp:Nat)(w:World)(h:ToldC u w p n cp ys)(hn:n=(hasL k).length):
 Calls Tryz.prog 78 #[form k,.int .i64 k,.slice p n cp] w (FToldC u (facL (hasL k) ys (kindF k)) w):=by
 have hsz:=kHas_size k
 have hnm:=kHas_nums k
 have HIS:=Lib.hid (hasL_is k)
 have H128:=Lib.hid (hasL_128 k)
 show Calls Tryz.prog 78 #[.agg #[.string (kSh k),.string (kHas k)],.int .i64 k,.slice p n cp] w _
 generalize kSh k=s at *
 generalize kHas k=t at *
 generalize hasL k=l at *
 have HL:=Lib.hid (show l.length=t.size by rw[<-hnm,nums_length])
 obtain rfl:n=t.size:=by rw[hn,HL.out]
 have HNM:=Lib.hid hnm
 have HYL:=Lib.hid (show ys.length=t.size from h.told.len.symm)
 clear hnm hn
 have bx1:=run_boxOp (P:=Tryz.prog) (t:=79) (cs:=#[.string s,.string t]) w
 have hb1:=(Below.refl w.heap.size w).alloc (Nat.le_refl _) (.cells #[.string s,.string t] 79)
 have hk1:Blk (w.alloc (.cells #[.string s,.string t] 79)) w.heap.size [.string s,.string t] 79:=Blk.new w #[.string s,.string t] 79
 have hz1:(w.alloc (.cells #[.string s,.string t] 79)).heap.size=w.heap.size+1:=World.size_alloc ..
 obtain⟨w1,hw1⟩:∃v,v=w.alloc (.cells #[.string s,.string t] 79):=⟨_,rfl⟩
 rw[<-hw1]at bx1 hb1 hk1 hz1
 have al1:=alloc_fact w1
 have hb2:=hb1.alloc hb1.size (.cells (fcells fz none 0).toArray 28)
 have hr2:Blk (w1.alloc (.cells (fcells fz none 0).toArray 28)) w1.heap.size (fcells fz none 0) 28:=Blk.new w1 (fcells fz none 0).toArray 28
 have hk2:=hk1.old (.cells (fcells fz none 0).toArray 28)
 have hz2:(w1.alloc (.cells (fcells fz none 0).toArray 28)).heap.size=w1.heap.size+1:=World.size_alloc ..
 obtain⟨w2,hw2⟩:∃v,v=w1.alloc (.cells (fcells fz none 0).toArray 28):=⟨_,rfl⟩
 rw[<-hw2]at al1 hb2 hr2 hk2 hz2
 have al2:=alloc_fact w2
 have mk:∀w,(makeOp 28 #[(0,.int .i64 k)]).run Tryz.prog w= .ok (.value (.agg (fcells (kindF k) none 0).toArray)) w:=fun w=>run_makeOp w (kind_built k)
 have st:=store_fact1 w2 (x:=kindF k) (q:=none) (c:=0) zlen
 have hb3:=hb2.alloc hb2.size (.cells (fcells (kindF k) none 0).toArray 28)
 have hg3:Blk (w2.alloc (.cells (fcells (kindF k) none 0).toArray 28)) w2.heap.size (fcells (kindF k) none 0) 28:=Blk.new w2 (fcells (kindF k) none 0).toArray 28
 have hr3:=hr2.old (.cells (fcells (kindF k) none 0).toArray 28)
 have hk3:=hk2.old (.cells (fcells (kindF k) none 0).toArray 28)
 have hz3:(w2.alloc (.cells (fcells (kindF k) none 0).toArray 28)).heap.size=w2.heap.size+1:=World.size_alloc ..
 obtain⟨w3,hw3⟩:∃v,v=w2.alloc (.cells (fcells (kindF k) none 0).toArray 28):=⟨_,rfl⟩
 rw[<-hw3]at st hb3 hg3 hr3 hk3 hz3
 generalize hwq:w2.alloc (.cells (fcells fz none 0).toArray 28)=wq at *
 have c3:w3.cell? ⟨w.heap.size,1,none⟩=some (.string t):=hk3.cell 1
 obtain⟨r,hr⟩:∃r,r=w1.heap.size:=⟨_,rfl⟩
 obtain⟨g,hg⟩:∃g,g=w2.heap.size:=⟨_,rfl⟩
 rw[<-hr]at al1 hr3
 rw[<-hg]at al2 st hg3
 have HRG:=Lib.hid (show w.heap.size<=r/\r < g/\g < w3.heap.size by omega)
 have HB3:=Lib.hid hb3
 have HR3:=Lib.hid hr3
 have HG3:=Lib.hid hg3
 have HT:=Lib.hid h
 have HK:=Lib.hid hk
 clear hw1 hw2 hw3 hwq hr hg hz1 hz2 hz3 hb1 hb2 hb3 hk1 hk2 hk3 hr2 hr3 hg3 h hk
 go_enter Tryz.func78,Tryz.ntmps78
 go_wp2_with fail
 have HI0:=Lib.hid (World.iter_heap w3 t 0)
 have hal:(w3.iter t 0)=w3.alloc (.stringIter t 0):=rfl
 have HB4:=Lib.hid (show Below w.heap.size w (w3.iter t 0)from by rw[hal];exact HB3.out.alloc HB3.out.size _)
 have HR4:=Lib.hid (show Blk (w3.iter t 0) r (fcells fz none 0) 28 from by rw[hal];exact HR3.out.old _)
 have HG4:=Lib.hid (show Blk (w3.iter t 0) g (fcells (kindF k) none 0) 28 from by rw[hal];exact HG3.out.old _)
 obtain⟨gi,hgi⟩:∃gi,gi=w3.heap.size:=⟨_,rfl⟩
 rw[<-hgi]at HI0 ⊢
 have HGI:=Lib.hid (show w.heap.size<=gi/\g < gi by rw[hgi];exact⟨HB3.out.size,HRG.out.2.2⟩)
 have HZ0:=Lib.hid (show facL l ys (kindF k)=facL (l.drop 0) (ys.drop 0) (kindF k)from rfl)
 have HS0:=Lib.hid (show sF.Good (w3.iter t 0) (kindF k) none 0 from⟨kindF_ok HK.out,At.nil _ _,by simp[sF,kindF],by omega,fun _=>rfl⟩)
 have HU0:=Lib.hid (show u->U8 (w3.iter t 0) none (kindF k).B from fun _=>Or.inl rfl)
 clear hal hgi HB3 HR3 HG3
 generalize w3.iter t 0=w4 at *
 generalize hkf:kindF k=zk at *
 clear hkf c3 st al1 al2 mk bx1
 go_loopg [8] t.size (fun gh vv wr=>∃(j:Nat) (v:Value) (z:Fac) (zq:Option Addr) (zc:Nat),v=vv/\j<=t.size/\gh=t.size - j/\Hid (wr.heap[gi]? = some (.stringIter t j))/\Hid (facL l ys zk=facL (l.drop j) (ys.drop j) z)/\Hid (Blk wr g (fcells z zq zc) 28)/\Hid (Blk wr r (fcells fz none 0) 28)/\Hid (sF.Good wr z zq zc)/\Hid (OutOf g z.B zq/\OutOf r z.B zq)/\Hid (u->U8 wr zq z.B)/\Hid (Below w.heap.size w wr))
 case atStart=>exact⟨0,_,zk,none,0,rfl,by omega,rfl,HI0,HZ0,HG4,HR4,HS0,Lib.hid (show OutOf g zk.B none/\OutOf r zk.B none from⟨out_none _ _,out_none _ _⟩),HU0,HB4⟩
 case round=>
  obtain⟨j,v,z,zq,zc,rfl,hj,rfl,HI,HZ,HG,HR,HS,HOO,HU,HB⟩:=hrel
  clear HI0 HZ0 HG4 HR4 HS0 HU0 HB4
  by_cases hp:j < t.size
  ·obtain⟨ch,hn,hch⟩:=has_next t l HNM.out j hp H128.out
   have hnx:=fun ty=>hn.run wr gi ty HI.out
   have HC:=Lib.hid (HIS.out ch (List.mem_of_getElem? hch))
   have hjy:j < ys.length:=by rw[HYL.out];exact hp
   have hjl:j < l.length:=by rw[HL.out];exact hp
   obtain⟨b,off,rfl,hit⟩:=items_atC HT.out (by rw[HYL.out];omega)
   obtain⟨yq,yc,hI,hu⟩:=hit j hjy
   have HST:=Lib.hid (show facL l ys zk=facL (l.drop (j+1)) (ys.drop (j+1)) (layF z ch ys[j])from by
    rw[HZ.out,facL_at z j hjl hjy]
    have:l[j] = ch:=Option.some.inj ((List.getElem?_eq_getElem hjl).symm.trans hch)
    rw[this])
   have HI2:=Lib.hid (Lib.iterAt_heap _ _ _ _ (j+1) HI.out)
   have HB2:=Lib.hid (show Below w.heap.size w (wr.iterAt gi t (j+1))from Lib.below_iterAt HB.out HGI.out.1 t (j+1))
   have hck:=cells_iterAt HI.out (j+1)
   have HG2:=Lib.hid (show Blk (wr.iterAt gi t (j+1)) g (fcells z zq zc) 28 from hck.2 _ _ _ _ HG.out)
   have HR2:=Lib.hid (show Blk (wr.iterAt gi t (j+1)) r (fcells fz none 0) 28 from hck.2 _ _ _ _ HR.out)
   have HS2:=Lib.hid (show sF.Good (wr.iterAt gi t (j+1)) z zq zc from HS.out.carry fun a v hv=>by
    have hne:a.block≠gi:=fun e=>by
     have h2:=hv
     simp only[World.cell?]at h2
     rw[e,HI.out]at h2;simp at h2
    exact(World.cell?_of_block (w:=wr) (a:=a) (Lib.iterAt_other wr gi a.block t (j+1) hne)).trans hv)
   have HU2:=Lib.hid (show u->U8 (wr.iterAt gi t (j+1)) zq z.B from fun e=>(HU.out e).on fun g cs hk=>hck.2 _ _ _ _ hk)
   have HUY:=Lib.hid hu
   clear hn hch HI HB HZ HG HR HS HU hu hck hit
   obtain⟨w5,hw5⟩:∃w5,w5=wr.iterAt gi t (j+1):=⟨_,rfl⟩
   rw[<-hw5]at hnx HI2 HB2 HG2 HR2 HS2 HU2
   clear hw5
   have ld:(loadOp 83 (.pointer (some ⟨b,off+j*34,none⟩))).run Tryz.prog w5= .ok (.value (.agg (icells ys[j] yq yc).toArray)) w5:=load_at (hI.on HB2.out).g.ok (hI.on HB2.out).r
   have HY0:=Lib.hid hI.g
   generalize hyj:ys[j] = y at *
   have HY:=Lib.hid (HY0.out.below HB2.out)
   have HYO:=Lib.hid (show OutOf g y.B yq/\OutOf r y.B yq from⟨outOf_low HY0.out.at_ (by have:=HRG.out;omega),outOf_low HY0.out.at_ HRG.out.1⟩)
   have LY:=Lib.hid (lay_any ch HC.out g z zq zc y yq yc w5 HG2.out HS2.out.ok.len HY.out HYO.out.1)
   have hjn:(0:Int)<=(j:Int)/\(j:Int) < (t.size:Int):=by omega
   clear hyj hI hjy hjl
   go_wp2_with fail
   refine LY.out.mono ?_
   rintro e w6 ⟨rfl,hk6,ht6⟩
   have HI6:=Lib.hid ((ht6.block gi (Array.getElem?_eq_some_iff.1 HI2.out).1 (by have:=HGI.out;simp;omega)).trans HI2.out)
   have HR6:=Lib.hid (show Blk w6 r (fcells fz none 0) 28 from(ht6.block r HR2.out.lt (by have:=HRG.out;simp;omega)).trans HR2.out)
   have HB6:=Lib.hid (HB2.out.trans (ht6.below (B:=w.heap.size) (by have:=HRG.out;simp;omega) HB2.out.size))
   have HG6:=Lib.hid hk6
   have HS6:=Lib.hid (show sF.Good w6 (layF z ch y) (layQ ch zq yq) (layQ ch zc yc)from layQ_good (good_out HS2.out HOO.out.1 ht6) (HY0.out.below HB6.out) ch HC.out)
   have HO6:=Lib.hid (layQ_out HOO.out HYO.out HC.out)
   have HU6:=Lib.hid (show u->U8 w6 (layQ ch zq yq) (layF z ch y).B from layQ_u8 (fun e=>(HU2.out e).on fun k cs hk=>(ht6.block k hk.lt (by simp;exact blk_ne hk HG2.out u8f_ne)).trans hk) (fun e=>(HUY.out e).below HB6.out) HC.out)
   clear hk6 ht6 HI2 HR2 HG2 HS2 HB2 LY HY HYO HOO HU2 HUY
   go_wp2_with fail
   go_roundg (t.size - (j+1))
   case measure=>omega
   case rel=>exact⟨j+1,_,_,_,_,rfl,by omega,rfl,HI6,HST,HG6,HR6,HS6,HO6,HU6,HB6⟩
  ·obtain rfl:j=t.size:=by omega
   have hnx:=fun ty=>Lib.run_next_end_at (P:=Tryz.prog) wr gi t t.size ty HI.out (by omega)
   have HS2:=Lib.hid (show facL l ys zk=z from by
    rw[HZ.out,List.drop_eq_nil_of_le (by rw[HL.out];exact Nat.le_refl _)];rfl)
   have lf:=load_factB HG.out HS.out.ok.len
   have sf:=store_fact (q:=zq) (c:=zc) (x:=z) HR.out zlen HS.out.ok.len
   go_wp2_with fail
   have hend:=ftold_end HB.out HRG.out.1 HS.out HOO.out.2 HR.out
   rw[HS2.out]
   have hu2:u->U8 (wr.setRow r (fcells z zq zc).toArray) zq z.B:=fun e=>(HU.out e).on fun k cs hk=>hk.rowOther _ (blk_ne hk HR.out u8f_ne)
   obtain⟨q9,c9,he9,hg9,hb9⟩:=hend.2
   simp only[Ending.returned.injEq,Value.agg.injEq]at he9
   obtain⟨e1,e2⟩:=fcells_q HS.out.ok.len he9
   subst e1
   subst e2
   exact bodyPost_ret (v:=.agg (fcells z zq zc).toArray) (results_cell_row rfl _ _ _ _ _ _ _ rfl hend.1 (Tryz.underlying28) rfl (fact_sizeA HS.out.ok.len _ _)) rfl ⟨zq,zc,rfl,hg9,hu2,hb9⟩
theorem pfact_any (k:Int)(hk:fit k)(ys:List Itm)(p:Option Addr)(n cp:Nat)(w:World)(h:Told w p n cp ys)(hn:n=(hasL k).length):
 Calls Tryz.prog 78 #[form k,.int .i64 k,.slice p n cp] w (FTold (facL (hasL k) ys (kindF k)) w):=
 (pfactC_any False k hk ys p n cp w h.c hn).mono fun e w' ⟨q,c,he,hg,_,hb⟩=>⟨q,c,he,hg,hb⟩
end
section
open Go.RowKit Sha Fct
section
variable {V:Type} {S:Shp V} {w w':World}
def RowTy (w:World)(row:Option Nat)(t:TypeId):Prop:=∀k,row=some k->∃cs fz,w.heap[k]? = some (.cells cs t fz)
theorem RowTy.of {B n s:Nat} {t:TypeId} {v:Value} {xs:List Value}(h:w.ownsRow B t s v n xs):RowTy w v.ownBlock t:=fun k hk=>row_kind h k hk
theorem u8_grown {q:Option Addr} {b:List Int} {row:Option Nat} {t:TypeId}(hu:U8 w q b)(hg:w.grownBy w' row)(hr:RowTy w row t)(ht:5≠t):U8 w' q b:=hu.on fun g cs hk=>by
 have hne:some g≠row:=fun e=>by
  obtain⟨c2,fz,h2⟩:=hr g e.symm
  unfold Blk at hk
  rw[hk]at h2
  simp at h2
  exact ht h2.2.1
 unfold Blk
 rw[hg.block g hk.lt hne];exact hk
theorem good_grown {x:V} {q:Option Addr} {c:Nat} {row:Option Nat} {t:TypeId}(h:S.Good w x q c)(hu:U8 w q (S.byt x))(hg:w.grownBy w' row)(hr:RowTy w row t)(ht:5≠t):S.Good w' x q c:=by
 refine⟨h.ok,?_,h.le,h.max,h.nil⟩
 rcases hu with h0 | ⟨g,cs,rfl,hk⟩
 ·left;rw[h0];rfl
 ·rcases h.at_ with h1 | ⟨b,off,ha,hc⟩
  ·exact Or.inl h1
  ·cases ha
   refine Or.inr ⟨g,0,rfl,fun i u hi=>?_⟩
   have hne:some g≠row:=fun e=>by
    obtain⟨c2,fz,h2⟩:=hr g e.symm
    unfold Blk at hk
    rw[hk]at h2
    simp at h2
    exact ht h2.2.1
   exact hg.cell (hc i u hi) hne
structure Rws (S:Shp V)(t:TypeId)(w:World)(B:Nat)(v:Value)(ys:List (Hd V)):Prop where
 own:w.ownsRow B t S.n v ys.length (ys.flatMap S.row)
 good:∀y∈ys,S.Good w y.1 y.2.1 y.2.2/\U8 w y.2.1 (S.byt y.1)
theorem Rws.ok {t:TypeId} {B:Nat} {v:Value} {ys:List (Hd V)}(h:Rws S t w B v ys):∀y∈ys,S.ok y.1:=fun y hy=>(h.good y hy).1.ok
theorem Rws.below {t:TypeId} {B:Nat} {v:Value} {ys:List (Hd V)}(h:Rws S t w B v ys)(hb:Below w.heap.size w w'):Rws S t w' B v ys:=
 ⟨row_below_s h.own hb,fun y hy=>⟨(h.good y hy).1.below hb,(h.good y hy).2.below hb⟩⟩
theorem Rws.told {t:TypeId} {B:Nat} {v:Value} {ys:List (Hd V)}(h:Rws S t w B v ys):∃q c,v= .slice q ys.length c/\S.Told w q ys.length c (ys.map (·.1)):=by
 have h2:S.Own w B t v ys:=⟨h.own,fun y hy=>(h.good y hy).1⟩
 obtain⟨q,c,hv,ht⟩:=h2.told rfl
 rw[List.length_map]at hv ht
 exact⟨q,c,hv,ht⟩
theorem flat_takeS:∀(ys:List (Hd V)),(∀y∈ys,S.ok y.1)->∀i,(ys.flatMap S.row).take (i*S.n)=(ys.take i).flatMap S.row
 | [],_,i=>by simp
 | y::ys,h,0=>by simp
 | y::ys,h,i+1=>by
    have hl:(S.row y).length=S.n:=S.len _ _ (h y (List.mem_cons_self ..))
    rw[List.flatMap_cons,List.take_succ_cons,List.flatMap_cons,Nat.succ_mul,Nat.add_comm,<-flat_takeS ys (fun y hy=>h y (List.mem_cons_of_mem _ hy)) i,<-hl,List.take_length_add_append]
theorem flat_dropS:∀(ys:List (Hd V)),(∀y∈ys,S.ok y.1)->∀i,(ys.flatMap S.row).drop (i*S.n)=(ys.drop i).flatMap S.row
 | [],_,i=>by simp
 | y::ys,h,0=>by simp
 | y::ys,h,i+1=>by
    have hl:(S.row y).length=S.n:=S.len _ _ (h y (List.mem_cons_self ..))
    rw[List.flatMap_cons,List.drop_succ_cons,Nat.succ_mul,Nat.add_comm,<-flat_dropS ys (fun y hy=>h y (List.mem_cons_of_mem _ hy)) i,<-hl,List.drop_length_add_append]
end
end
section
open Go.RowKit Sha Fct
abbrev idc (d:Fct.Id):Value:=.agg (d.map v8).toArray
theorem idArr:Go.WideMaps.ArrKey Tryz.prog 25 5 32:=⟨Tryz.underlying25,by unfold Program.plainKey;rw[Tryz.underlying5],by kernel_rfl,by kernel_rfl⟩
theorem idLaw:Go.WideMaps.KeyLaw Tryz.prog 25:=idArr.law
theorem mapM_some {α β:Type}(f:α->Option β):∀l:List α,(∀x∈l,∃y,f x=some y)->∃ys,l.mapM f=some ys
 | [],_=>⟨[],by simp⟩
 | x::l,h=>by
    obtain⟨y,hy⟩:=h x (by simp)
    obtain⟨ys,hys⟩:=mapM_some f l (fun z hz=>h z (by simp[hz]))
    exact⟨y::ys,by simp[hy,hys]⟩
theorem types_size:∃m,Tryz.prog.types.size=m+1:=⟨Tryz.prog.types.size - 1,by decide +kernel⟩
theorem cells_id:Tryz.prog.cellsOf 25=32:=by kernel_rfl
theorem cells_u8:Tryz.prog.cellsOf 5=1:=by kernel_rfl
theorem idc_lits {d:Fct.Id}(h:idOk d)(m:Nat):∃ls,Tryz.prog.keyLits (m+2) 25 (d.map v8)=some ls:=by
 unfold Program.keyLits
 simp only[Tryz.underlying25]
 rw[if_pos (by rw[List.length_map,h.1,cells_id])]
 have h2:=mapM_some (fun i=>Tryz.prog.keyLits (m+1) 5 (((d.map v8).drop (i*Tryz.prog.cellsOf 5)).take (Tryz.prog.cellsOf 5))) (List.range 32) (fun i hi=>by
  have hi:=List.mem_range.1 hi
  rw[cells_u8,Nat.mul_one]
  have hd:i < d.length:=by rw[h.1];exact hi
  have e:((d.map v8).drop i).take 1= [v8 d[i]]:=by
   rw[List.drop_eq_getElem_cons (by simpa using hd)];simp
  rw[e]
  unfold Program.keyLits
  simp only[Tryz.underlying5]
  have hb:=h.2 _ (List.getElem_mem hd)
  refine⟨[.int .u8 d[i]],?_⟩
  rw[if_pos]
  refine⟨trivial,?_⟩
  have e1:IntKind.u8.min=0:=rfl
  have e2:IntKind.u8.max=255:=rfl
  simp only[Lit.wf,e1,e2,Bool.and_eq_true,decide_eq_true_eq]
  exact hb)
 obtain⟨ys,hy⟩:=h2
 exact⟨ys.flatten,by rw[hy];rfl⟩
theorem idc_key {d:Fct.Id}(h:idOk d):∃l,keyOf Tryz.prog 25 (idc d)=some l:=by
 unfold keyOf
 simp only[Tryz.underlying25]
 have h1:=idArr.keyType types_size
 have h2:(idc d).formed Tryz.prog 25=true:=by
  unfold Value.formed
  simp only[Tryz.underlying25]
  simp[h.1,cells_id]
 rw[if_pos (by rw[h1,h2];rfl)]
 obtain⟨m,hm⟩:=types_size
 obtain⟨ls,hl⟩:=idc_lits h m
 have e:(idc d).cells.toList=d.map v8:=by simp[Value.cells]
 rw[hm,e,hl]
 exact⟨_,rfl⟩
theorem idc_inj {a b:Fct.Id}(h:idc a=idc b):a=b:=by
 have h2:(a.map v8).toArray=(b.map v8).toArray:=by injection h
 have h3:a.map v8=b.map v8:=by simpa using h2
 exact(List.map_inj_right (fun x y e=>by simpa using e)).1 h3
structure Takn (w:World)(b:Nat)(S:List Fct.Id):Prop where
 ok:∀d∈S,idOk d
 nd:S.Nodup
 at_:∃es c,w.heap[b]? = some (.map es c)/\es.toList.map (·.key)=S.map idc/\∀e∈es.toList,e.val=i64c 1
theorem Takn.new (w:World):Takn (w.alloc (.map #[] 0)) w.heap.size []:=⟨by simp,by simp,#[],0,heap_alloc_new _ _,by simp,by simp⟩
theorem Takn.lt {w:World} {b:Nat} {S:List Fct.Id}(h:Takn w b S):b < w.heap.size:=by
 obtain⟨es,c,h1,_⟩:=h.at_
 exact(Array.getElem?_eq_some_iff.1 h1).1
theorem Takn.on {w w':World} {b:Nat} {S:List Fct.Id}(h:Takn w b S)(hb:w'.heap[b]? = w.heap[b]?):Takn w' b S:=by
 obtain⟨es,c,h1,h2⟩:=h.at_
 exact⟨h.ok,h.nd,es,c,hb.trans h1,h2⟩
theorem Takn.below {w w':World} {b:Nat} {S:List Fct.Id}(h:Takn w b S)(hb:Below w.heap.size w w'):Takn w' b S:=h.on (hb.block b h.lt)
theorem Takn.grown {w w':World} {b:Nat} {S:List Fct.Id} {row:Option Nat} {t:TypeId}(h:Takn w b S)(hg:w.grownBy w' row)(hr:RowTy w row t):Takn w' b S:=by
 refine h.on (hg.block b h.lt fun e=>?_)
 obtain⟨es,c,h1,_⟩:=h.at_
 obtain⟨cs,fz,h2⟩:=hr b e.symm
 rw[h1]at h2
 simp at h2
theorem Takn.find {w:World} {es:Array MapEntry} {S:List Fct.Id}(hk:es.toList.map (·.key)=S.map idc)(hok:∀d∈S,idOk d) {d:Fct.Id}(hd:idOk d):
 ((Instr.findKey 25 (idc d) es.toList).run Tryz.prog w= .ok none w/\d∉S)\/
 ∃j e,(Instr.findKey 25 (idc d) es.toList).run Tryz.prog w= .ok (some (j,e.val)) w/\es[j]? = some e/\e.key=idc d/\S[j]? = some d:=by
 obtain⟨l,hl⟩:=idc_key hd
 have hall:∀e∈es.toList,∃l,keyOf Tryz.prog 25 e.key=some l:=fun e he=>by
  have:e.key∈S.map idc:=by rw[<-hk];exact List.mem_map_of_mem he
  obtain⟨x,hx,e2⟩:=List.mem_map.1 this
  rw[<-e2];exact idc_key (hok x hx)
 rcases idLaw.find w hl es.toList hall with⟨h1,h2⟩ | ⟨j,e,h1,h2,h3⟩
 ·refine Or.inl ⟨h1,fun hm=>?_⟩
  have:idc d∈es.toList.map (·.key):=by rw[hk];exact List.mem_map_of_mem hm
  obtain⟨e,he,e2⟩:=List.mem_map.1 this
  exact h2 e he e2
 ·refine Or.inr ⟨j,e,h1,by simpa using h2,h3,?_⟩
  have e4:(es.toList.map (·.key))[j]? = some (idc d):=by rw[List.getElem?_map,h2,<-h3];rfl
  rw[hk,List.getElem?_map]at e4
  cases hs:S[j]? with
  | none=>rw[hs]at e4;simp at e4
  | some x=>rw[hs]at e4;simp only[Option.map_some,Option.some.injEq]at e4;rw[idc_inj e4]
theorem idc_check (w:World)(em:Bool) {d:Fct.Id}(hd:idOk d):(Instr.checkKey em 10000 25 (idc d)).run Tryz.prog w= .ok () w:=by
 obtain⟨l,hl⟩:=idc_key hd
 exact idLaw.check w em hl
theorem int_zero (w:World):(zeroValue 3).run Tryz.prog w= .ok (i64c 0) w:=by kernel_rfl
theorem Takn.look {w:World} {b:Nat} {S:List Fct.Id}(h:Takn w b S) {d:Fct.Id}(hd:idOk d):
 (Instr.lookup 215 (.map (some b)) (idc d) false).run Tryz.prog w= .ok (i64c (if d∈S then 1 else 0)) w:=by
 obtain⟨es,c,h1,h2,h3⟩:=h.at_
 rcases Takn.find (w:=w) h2 h.ok hd with⟨f1,f2⟩ | ⟨j,e,f1,f2,f3,f4⟩
 ·rw[if_neg f2]
  simp[Instr.lookup,run_underlying Tryz.underlying215,MapKept.run_getObj_map h1,idc_check w _ hd,f1,Result.andThen,int_zero w]
 ·rw[if_pos (List.mem_of_getElem? f4)]
  have hv:=h3 e (by rw[Array.mem_toList_iff];exact Array.mem_of_getElem? f2)
  simp[Instr.lookup,run_underlying Tryz.underlying215,MapKept.run_getObj_map h1,idc_check w _ hd,f1,Result.andThen,hv]
theorem Takn.set_ {w:World} {b:Nat} {S S':List Fct.Id}(h:Takn w b S) {es:Array MapEntry} {c:Nat}(hk:es.toList.map (·.key)=S'.map idc)(hv:∀e∈es.toList,e.val=i64c 1)(hok:∀d∈S',idOk d)(hn:S'.Nodup):
 Takn {w with heap:=w.heap.setIfInBounds b (.map es c)} b S'/\w.grownBy {w with heap:=w.heap.setIfInBounds b (.map es c)} (some b):=by
 refine⟨⟨hok,hn,es,c,?_,hk,hv⟩,⟨rfl,rfl,rfl,by simp,fun k hkk hne=>?_⟩⟩
 ·show(w.heap.setIfInBounds b _)[b]? = _
  have:=h.lt
  simp[this]
 ·show(w.heap.setIfInBounds b _)[k]? = _
  have:b≠k:=fun e=>hne (by rw[e])
  rw[Array.getElem?_setIfInBounds_ne this]
theorem Takn.put {w:World} {b:Nat} {S:List Fct.Id}(h:Takn w b S) {d:Fct.Id}(hd:idOk d):
 ∃w',(Instr.mapUpdate 215 (.map (some b)) (idc d) (i64c 1)).run Tryz.prog w= .ok () w'/\Takn w' b (if d∈S then S else S++[d])/\w.grownBy w' (some b):=by
 obtain⟨es,c,h1,h2,h3⟩:=h.at_
 obtain⟨l,hl⟩:=idc_key hd
 rcases Takn.find (w:=w) h2 h.ok hd with⟨f1,f2⟩ | ⟨j,e,f1,f2,f3,f4⟩
 ·rw[if_neg f2]
  have hs:=h.set_ (S':=S++[d]) (es:=es.push ⟨idc d,i64c 1,c⟩) (c:=c+1) (by simp[h2]) (by
   intro e he
   rw[Array.toList_push]at he
   rcases List.mem_append.1 he with he | he
   ·exact h3 e he
   ·rw[List.mem_singleton.1 he])
   (by
     intro x hx
     rcases List.mem_append.1 hx with hx | hx
     ·exact h.ok x hx
     ·rw[List.mem_singleton.1 hx];exact hd)
   (by rw[List.nodup_append];exact⟨h.nd,by simp,by intro x hx y hy e;rw[List.mem_singleton.1 hy]at e;exact f2 (e ▸ hx)⟩)
  exact⟨_,by simp[Instr.mapUpdate,run_underlying Tryz.underlying215,MapKept.run_getObj_map h1,idc_check w _ hd,f1,MapKept.run_setObj_map _ h1,Result.andThen],hs⟩
 ·rw[if_pos (List.mem_of_getElem? f4)]
  have hv:=h3 e (by rw[Array.mem_toList_iff];exact Array.mem_of_getElem? f2)
  have hst:=idLaw.stays w hl
  have hm:(es.modify j fun e=>{e with key:=idc d,val:=i64c 1}).toList.map (·.key)=S.map idc:=by
   rw[<-h2]
   refine MapKept.modify_keys j (fun e=>{e with key:=idc d,val:=i64c 1}) ?_
   intro e' he'
   have h5:e'=e:=Option.some.inj (he'.symm.trans f2)
   show idc d=e'.key
   rw[h5,f3]
  have hm2:∀x∈(es.modify j fun e=>{e with key:=idc d,val:=i64c 1}).toList,x.val=i64c 1:=by
   intro x hx
   rw[Array.mem_toList_iff]at hx
   obtain⟨i,hi,rfl⟩:=Array.getElem_of_mem hx
   rw[Array.getElem_modify]
   split
   ·rfl
   ·exact h3 _ (by simp)
  have hs:=h.set_ (c:=c) hm hm2 h.ok h.nd
  exact⟨_,by simp[Instr.mapUpdate,run_underlying Tryz.underlying215,MapKept.run_getObj_map h1,idc_check w _ hd,f1,f2,f3,hst,MapKept.run_setObj_map _ h1,Result.andThen],hs⟩
theorem toList_erase {α:Type}(a:Array α)(j:Nat):(a.eraseIdxIfInBounds j).toList=a.toList.eraseIdx j:=by
 rw[Array.eraseIdxIfInBounds_eq]
 split
 ·rw[Array.toList_eraseIdx]
 ·rename_i h
  rw[List.eraseIdx_of_length_le (by simpa using h)]
theorem Takn.drop {w:World} {b:Nat} {S:List Fct.Id}(h:Takn w b S) {d:Fct.Id}(hd:idOk d):
 ∃w',(∀ty,(Builtin.delete_ #[215,25] ty #[.map (some b),idc d]).run Tryz.prog w= .ok (.tuple #[]) w')/\Takn w' b (S.filter fun x=>!decide (x=d))/\w.grownBy w' (some b):=by
 obtain⟨es,c,h1,h2,h3⟩:=h.at_
 rcases Takn.find (w:=w) h2 h.ok hd with⟨f1,f2⟩ | ⟨j,e,f1,f2,f3,f4⟩
 ·have hS:(S.filter fun x=>!decide (x=d))=S:=List.filter_eq_self.2 (fun x hx=>by simp;rintro rfl;exact f2 hx)
  rw[hS]
  have hs:=h.set_ (c:=c) h2 h3 h.ok h.nd
  exact⟨_,fun ty=>by simp[Builtin.delete_,run_underlying Tryz.underlying215,MapKept.run_getObj_map h1,idc_check w _ hd,f1,MapKept.run_setObj_map _ h1,Result.andThen],hs⟩
 ·have hS:(S.filter fun x=>!decide (x=d))=S.eraseIdx j:=by
   exact ChangeMaps.filter_eq_eraseIdx (fun x:Fct.Id=>decide (x=d)) S j d f4 (by simp) (h.nd.imp fun {a b} hab h2=>hab (by have h3:=of_decide_eq_true h2.1;have h4:=of_decide_eq_true h2.2;rw[h3,h4]))
  rw[hS]
  have hs:=h.set_ (S':=S.eraseIdx j) (es:=es.eraseIdxIfInBounds j) (c:=c) (by rw[toList_erase,ChangeMaps.map_eraseIdx,h2,<-ChangeMaps.map_eraseIdx]) (by intro e he;rw[toList_erase]at he;exact h3 e (List.mem_of_mem_eraseIdx he))
   (fun x hx=>h.ok x (List.mem_of_mem_eraseIdx hx)) (h.nd.sublist (List.eraseIdx_sublist ..))
  exact⟨_,fun ty=>by simp[Builtin.delete_,run_underlying Tryz.underlying215,MapKept.run_getObj_map h1,idc_check w _ hd,f1,MapKept.run_setObj_map _ h1,Result.andThen],hs⟩
end
section
open Go.RowKit Sha Fct
theorem run_nilb_eq (w:World)(p:Option Addr)(n c:Nat):(binOp .eql 26 (.slice p n c) (.slice none 0 0)).run Tryz.prog w= .ok (.bool p.isNone) w:=Lib.run_eql_slice_nil w _ _ p n c 0 0 Tryz.underlying26
structure Cpy (w':World)(zs:List Int)(q:Option Addr)(c:Nat):Prop where
 at_:At w' q (zs.map v8)
 le:zs.length<=c
 max:c<=9223372036854775807
 nil:q=none->c=0
 u8:U8 w' q zs
def CpyP (w:World)(zs:List Int)(n:Nat)(e:Ending)(w':World):Prop:=∃q c,e= .returned (.slice q n c)/\Cpy w' zs q c/\Below w.heap.size w w'
theorem cpy_own {w w':World} {zs:List Int} {v:Value} {n:Nat}(h:Own8 w' w.heap.size 5 v n (zs.map v8))(hn:zs.length=n)(hb:Below w.heap.size w w'):CpyP w zs n (.returned v) w':=by
 obtain⟨p,cap,hv,h1,h2,h3,h4,h5⟩:=own_at h.row
 refine⟨p,cap,by rw[hv],⟨h3,by omega,h2,h5,?_⟩,hb⟩
 by_cases h0:n=0
 ·exact Or.inl (List.eq_nil_of_length_eq_zero (by omega))
 ·obtain⟨g,c2,rest,e,_,_,_,hk,_,_⟩:=own_whole h.row (by omega)
  rw[hv]at e
  injection e with e1 e2 e3
  exact Or.inr ⟨g,_,e1,hk⟩
theorem clone8_any (zs:List Int)(n:Nat)(p:Option Addr)(cap:Nat)(w:World)(hn:zs.length=n)(hA:At w p (zs.map v8))(hc:n<=cap)(hm:cap<=9223372036854775807)(hnil:p=none->cap=0)(hs:n<=1000000):
 Calls Tryz.prog 128 #[.slice p n cap] w (CpyP w zs n):=by
 have HA:=Lib.hid hA
 have HN:=Lib.hid hn
 have q:=fun w n c=>run_nilb_eq w p n c
 cases p with
 | none=>
    have h0:=hnil rfl
    subst h0
    obtain rfl:n=0:=by omega
    have hz:zs= []:=List.eq_nil_of_length_eq_zero hn
    subst hz
    clear hA hn
    go_enter Tryz.func128,Tryz.ntmps128
    go_wp2_with fail
    go_ret
    exact cpy_own (Own8.nil _ _ _) rfl (Below.refl _ _)
 | some a=>
    have H0:=Lib.hid (Own8.mk (World.ownsRow_made (base:=w.heap.size) (size:=1) (e:=5) w #[] 0 (Nat.le_refl _) (by decide) rfl) (ints_block (n:=0) (c:=0) (heap_alloc_new _ _) (by simp)))
    have HI:=Lib.hid (fun h:(some a:Option Addr)=none=>hnil h)
    clear hA hn hnil
    go_enter Tryz.func128,Tryz.ntmps128
    go_wp2_with (at_builtin;refine wpList_app8 rfl (.tmp 5) (.tmp 6) 26 rfl w.heap.size 5 Tryz.underlying26 kbyte_info _ 0 [] rfl H0.out (some a) n cap (zs.map v8) rfl (HA.out.alloc _) (by rw[List.length_map];exact HN.out) HI.out hc (ints_map _) (by omega) (by unfold maxLen;omega) (by simp) ?_;intro v4 w4 hown4 _ hb4 hs4;have O4:=Lib.hid hown4;have B4:=Lib.hid (((Below.refl _ w).alloc (Nat.le_refl _) _).trans hb4);clear hown4 hb4)
    go_ret
    exact cpy_own (by have:=O4.out;rw[Nat.zero_add,List.nil_append]at this;exact this) HN.out B4.out
end
section
open Go.RowKit Sha Fct
def IsMapB (w:World)(b:Nat):Prop:=∃es c,w.heap[b]? = some (.map es c)
theorem Takn.isMap {w:World} {b:Nat} {S:List Fct.Id}(h:Takn w b S):IsMapB w b:=by
 obtain⟨es,c,h1,_⟩:=h.at_
 exact⟨es,c,h1⟩
theorem grown_refl (w:World)(row:Option Nat):w.grownBy w row:=⟨rfl,rfl,rfl,Nat.le_refl _,fun _ _ _=>rfl⟩
theorem grown_trans {a b c:World} {row:Option Nat}(h:a.grownBy b row)(k:b.grownBy c row):a.grownBy c row:=⟨k.os.trans h.os,k.tape.trans h.tape,k.output.trans h.output,Nat.le_trans h.size k.size,fun j hj hn=>(k.block j (Nat.lt_of_lt_of_le hj h.size) hn).trans (h.block j hj hn)⟩
theorem below_grown {a b:World}(h:Below a.heap.size a b)(row:Option Nat):a.grownBy b row:=⟨h.os,h.tape,h.output,h.size,fun j hj _=>h.block j hj⟩
theorem alloc_grown (w:World)(o:Obj)(row:Option Nat):w.grownBy (w.alloc o) row:=below_grown ((Below.refl w.heap.size w).alloc (Nat.le_refl _) o) row
theorem blk_grown {w w':World} {g:Nat} {cs:List Value} {t:TypeId} {row:Option Nat}(h:Blk w g cs t)(hg:w.grownBy w' row)(hne:row≠some g):Blk w' g cs t:=by
 unfold Blk;rw[hg.block g h.lt (fun e=>hne e.symm)];exact h
theorem isMap_ne {w:World} {b g:Nat} {cs:List Value} {t:TypeId}(h:IsMapB w b)(hk:Blk w g cs t):b≠g:=by
 rintro rfl
 obtain⟨es,c,h1⟩:=h
 unfold Blk at hk
 rw[h1]at hk;cases hk
section
variable {V:Type} {S:Shp V} {w w':World}
theorem u8_map {q:Option Addr} {b:List Int} {m:Nat}(hu:U8 w q b)(hg:w.grownBy w' (some m))(hm:IsMapB w m):U8 w' q b:=hu.on fun g cs hk=>blk_grown hk hg fun e=>isMap_ne hm hk (by cases e;rfl)
theorem good_map {x:V} {q:Option Addr} {c m:Nat}(h:S.Good w x q c)(hg:w.grownBy w' (some m))(hm:IsMapB w m):S.Good w' x q c:=h.carry fun p v hv=>by
 by_cases e:p.block=m
 ·obtain⟨es,cl,h1⟩:=hm
  rw[<-e]at h1
  unfold World.cell? at hv
  simp[h1]at hv
 ·exact hg.cell hv (by simpa using e)
theorem own_map {t:TypeId} {B n s m:Nat} {v:Value} {xs:List Value}(h:w.ownsRow B t s v n xs)(hg:w.grownBy w' (some m))(hm:IsMapB w m):w'.ownsRow B t s v n xs:=by
 refine h.kept hg ?_
 cases hv:v.ownBlock with
 | none=>exact Or.inl rfl
 | some k=>
    refine Or.inr fun e=>?_
    obtain⟨c1,f1,h1⟩:=RowTy.of h k hv
    obtain⟨es,cl,h2⟩:=hm
    cases e
    rw[h1]at h2;cases h2
theorem Rws.map_ {t:TypeId} {B m:Nat} {v:Value} {ys:List (Hd V)}(h:Rws S t w B v ys)(hg:w.grownBy w' (some m))(hm:IsMapB w m):Rws S t w' B v ys:=
 ⟨own_map h.own hg hm,fun y hy=>⟨good_map (h.good y hy).1 hg hm,u8_map (h.good y hy).2 hg hm⟩⟩
theorem flat_el {ys:List (Hd V)}(hok:∀y∈ys,S.ok y.1)(k:Nat)(hk:k < ys.length):ys.flatMap S.row=(ys.take k).flatMap S.row++S.row ys[k]++(ys.drop (k+1)).flatMap S.row:=by
 conv=>lhs;rw[<-List.take_append_drop k ys,List.flatMap_append,List.drop_eq_getElem_cons hk,List.flatMap_cons]
 rw[List.append_assoc]
theorem flat_len {ys:List (Hd V)}(hok:∀y∈ys,S.ok y.1):(ys.flatMap S.row).length=ys.length*S.n:=Shp.flat_length ys hok
theorem Rws.el {t:TypeId} {B:Nat} {v:Value} {ys:List (Hd V)}(h:Rws S t w B v ys)(k:Nat)(hk:k < ys.length):∃g c,v= .slice (some ⟨g,0,none⟩) ys.length c/\w.rangeAt g (k*S.n) (S.row ys[k]):=by
 obtain⟨g,cap,rest,hv,_,_,_,hb,hl,_⟩:=own_whole h.own (by omega)
 refine⟨g,cap,hv,fun j u hj=>?_⟩
 rw[flat_el h.ok k hk,List.append_assoc ((ys.take k).flatMap S.row++_)]at hb
 have:=cells_in (o:=k*S.n) hb (by rw[flat_len (fun y hy=>h.ok y (List.mem_of_mem_take hy)),List.length_take,Nat.min_eq_left (by omega)]) j u hj
 rw[Addr.add_mid]at this;exact this
end
end
section
open Go.RowKit Sha Fct
structure PrdK (mb:Nat)(cap:Value)(Pr:Int×Fct.Id->Bool)(ys:List (Hd (Int×Fct.Id)))(I:World->Nat->Prop):Prop where
 call:∀w k (hk:k < ys.length),I w k->Calls Tryz.prog 165 #[.agg (kcells ys[k].1 ys[k].2.1 ys[k].2.2).toArray,cap] w fun e w'=>e= .returned (.bool (Pr ys[k].1))/\I w' (k+1)/\w.grownBy w' (some mb)
 stays:∀w w' k row,I w k->w.grownBy w' row->RowTy w row 95->I w' k
 map:∀w k,I w k->IsMapB w mb
attribute [local go_sem ↓] execOp_loadOK
def ixK (Pr:Int×Fct.Id->Bool)(ys:List (Hd (Int×Fct.Id))):Nat:=ys.findIdx fun y=>Pr y.1
def IxdK (mb:Nat)(Pr:Int×Fct.Id->Bool)(ys:List (Hd (Int×Fct.Id)))(I:World->Nat->Prop)(w:World)(e:Ending)(w':World):Prop:=
 ∃r:Int,e= .returned (.int .i64 r)/\((r= -1/\ixK Pr ys=ys.length/\I w' ys.length)\/(r=(ixK Pr ys:Nat)/\ixK Pr ys < ys.length/\I w' (ixK Pr ys+1)))/\w.grownBy w' (some mb)
theorem idx_K (mb:Nat)(cap:Value)(Pr:Int×Fct.Id->Bool)(ys:List (Hd (Int×Fct.Id)))(I:World->Nat->Prop)(HP:PrdK mb cap Pr ys I)(w:World)(B:Nat)(v:Value)(h:Rws sK 95 w B v ys)(hI:I w 0)(hn:ys.length<=1000000000):
 Calls Tryz.prog 184 #[v,.func (.func 165) #[] #[cap]] w (IxdK mb Pr ys I w):=by
 obtain⟨p,c,rfl,_⟩:=h.told
 obtain⟨n,hnl⟩:∃n,n=ys.length:=⟨_,rfl⟩
 obtain⟨ix,hix⟩:∃i,i=ixK Pr ys:=⟨_,rfl⟩
 have hle:ix<=n:=by rw[hix,hnl];exact List.findIdx_le_length
 have H1:=Lib.hid (show∀a (ha:a < ys.length),a < ix->Pr ys[a].1=false from fun a ha h=>by
  have:=List.not_of_lt_findIdx (p:=fun y:Hd (Int×Fct.Id)=>Pr y.1) (xs:=ys) (i:=a) (by rw[hix]at h;exact h)
  simpa using this)
 have H2:=Lib.hid (show∀(ha:ix < ys.length),Pr ys[ix].1=true from fun ha=>by
  subst hix
  exact List.findIdx_getElem (p:=fun y:Hd (Int×Fct.Id)=>Pr y.1) (xs:=ys) (w:=ha))
 have HR:=Lib.hid h
 have HNL:=Lib.hid hnl
 have HIX:=Lib.hid hix
 have HI:=Lib.hid hI
 rw[<-hnl]at hn ⊢
 clear hnl hix h hI
 go_enter Tryz.func184,Tryz.ntmps184
 go_wp2_with fail
 go_loopw [8] (fun i wr=>∃a:Nat,i= .int .i64 a/\a<=ix/\Hid (I wr a)/\Hid (w.grownBy wr (some mb))) (fun i _=>n - (intOf i).toNat)
 case atStart=>exact⟨0,rfl,by omega,HI,Lib.hid (grown_refl _ _)⟩
 case round=>
  obtain⟨a,rfl,ha,HA,HG⟩:=hrel
  by_cases han:a < n
  ·have hay:a < ys.length:=by rw[<-HNL.out];exact han
   have HR2:=Lib.hid (HR.out.map_ HG.out (HP.map _ _ HI.out))
   obtain⟨g,c2,hv,hr⟩:=HR2.out.el a hay
   have hv2:p=some ⟨g,0,none⟩:=by injection hv
   subst hv2
   have hr2:wr.rangeAt g (a*33) (kcells ys[a].1 ys[a].2.1 ys[a].2.2):=hr
   have l1:=load_OK (HR2.out.ok _ (List.getElem_mem hay)) hr2
   have HC:=Lib.hid (HP.call wr a hay HA.out)
   have h1:=H1.out a hay
   have h2:∀(e:a=ix),Pr ys[a].1=true:=fun e=>by subst e;exact H2.out hay
   generalize ys[a].1=x at *
   generalize ys[a].2.1=xq at *
   generalize ys[a].2.2=xc at *
   clear hr hr2 hv
   go_wp2_with fail
   refine HC.out.mono ?_
   rintro e w2 ⟨rfl,hI2,hg2⟩
   have HA2:=Lib.hid hI2
   have HG2:=Lib.hid (grown_trans HG.out hg2)
   clear hI2 hg2 l1
   by_cases hai:a=ix
   ·have hp:Pr x=true:=h2 hai
    rw[hp]
    clear h1 h2 hp HC
    go_wp2_with fail
    go_ret
    subst hai
    exact⟨_,rfl,Or.inr ⟨by rw[HIX.out],by rw[<-HIX.out];exact hay,by rw[<-HIX.out];exact HA2.out⟩,HG2.out⟩
   ·have hp:Pr x=false:=h1 (by omega)
    rw[hp]
    clear h1 h2 hp HC
    go_wp2_with fail
    go_roundw
    case rel=>exact⟨a+1,by go_num,by omega,HA2,HG2⟩
    case measure=>simp[intOf];omega
  ·obtain rfl:a=n:=by omega
   obtain rfl:ix=a:=by omega
   go_wp2_with fail
   go_ret
   exact⟨_,rfl,Or.inl ⟨rfl,by rw[<-HIX.out,HNL.out],by rw[<-HNL.out];exact HA.out⟩,HG.out⟩
end
section
open Go.RowKit Sha
structure Chg (S:Nat->Prop)(w w':World):Prop where
 os:w'.os=w.os
 tape:w'.tape=w.tape
 output:w'.output=w.output
 size:w.heap.size<=w'.heap.size
 block:∀k,k < w.heap.size->¬S k->w'.heap[k]? = w.heap[k]?
theorem Chg.refl (S:Nat->Prop)(w:World):Chg S w w:=⟨rfl,rfl,rfl,Nat.le_refl _,fun _ _ _=>rfl⟩
theorem Chg.trans {S:Nat->Prop} {a b c:World}(h:Chg S a b)(k:Chg S b c):Chg S a c:=⟨k.os.trans h.os,k.tape.trans h.tape,k.output.trans h.output,Nat.le_trans h.size k.size,fun j hj hn=>(k.block j (Nat.lt_of_lt_of_le hj h.size) hn).trans (h.block j hj hn)⟩
theorem Chg.mono {S S':Nat->Prop} {a b:World}(h:Chg S a b)(hs:∀k,k < a.heap.size->S k->S' k):Chg S' a b:=⟨h.os,h.tape,h.output,h.size,fun j hj hn=>h.block j hj fun e=>hn (hs j hj e)⟩
theorem Chg.grown {S:Nat->Prop} {a b c:World} {row:Option Nat}(h:Chg S a b)(hg:b.grownBy c row)(hr:∀k,row=some k->k < a.heap.size->S k):Chg S a c:=
 ⟨hg.os.trans h.os,hg.tape.trans h.tape,hg.output.trans h.output,Nat.le_trans h.size hg.size,fun j hj hn=>(hg.block j (Nat.lt_of_lt_of_le hj h.size) (fun e=>hn (hr j e.symm hj))).trans (h.block j hj hn)⟩
theorem Chg.blk {S:Nat->Prop} {w w':World} {g:Nat} {cs:List Value} {t:TypeId}(h:Chg S w w')(hb:Blk w g cs t)(hs:¬S g):Blk w' g cs t:=by
 unfold Blk;rw[h.block g hb.lt hs];exact hb
theorem setCells_grown (w:World)(g o:Nat)(vs:List Value):w.grownBy (w.setCells g o vs) (some g):=by
 have h:=setCells_below (a:=w) (B:=g) (Nat.le_refl _) vs o w (Below.refl _ _)
 exact⟨h.os,h.tape,h.output,h.size,fun k hk hn=>setCells_heap g _ o w k (fun e=>hn (by rw[e]))⟩
section
variable {P:Program} {t e:TypeId} {s:Nat}
theorem zeroCells_one {z:Array Value}(hz:0 < z.size)(h1:∀v∈z.toList,v.oneCell'=true)(n:Nat):∀v∈(Builtin.zeroCells z n).toList,v.oneCell'=true:=by
 intro v hv
 rw[Array.mem_toList_iff]at hv
 obtain⟨i,hi,rfl⟩:=Array.mem_iff_getElem.1 hv
 simp only[Builtin.zeroCells,Array.getElem_map,Array.getElem_range]
 have hlt:i % z.size < z.size:=Nat.mod_lt _ hz
 rw[getElem!_pos z (i % z.size) hlt]
 exact h1 _ (by simp)
theorem run_clearS (w:World)(hu:P.underlying t=some (.slice e)) {z:Value}(hz:∀w,(zeroValue e).run P w= .ok z w)(hp:0 < z.cells.size)(h1:∀v∈z.cells.toList,v.oneCell'=true)(g o n c:Nat)(hn:0 < n)
 (ht:w.there g o (n*z.cells.size)) (ty:TypeId):(Builtin.clear_ #[t] ty #[.slice (some ⟨g,o,none⟩) n c]).run P w= .ok (.tuple #[]) (w.setCells g o (Builtin.zeroCells z.cells n).toList):=by
 have hl:(Builtin.zeroCells z.cells n).toList.length=n*z.cells.size:=by rw[Array.length_toList,size_zeroCells]
 have h2:=run_storeCells_cells (P:=P) g o (Builtin.zeroCells z.cells n).toList 0 w (fun j hj=>by rw[hl]at hj;simpa using(ht j hj).1) (fun j hj=>by rw[hl]at hj;simpa using(ht j hj).2) (zeroCells_one hp h1 n)
 simp only[Nat.add_zero]at h2
 obtain⟨m,rfl⟩:∃m,n=m+1:=⟨n - 1,by omega⟩
 simp[Builtin.clear_,run_underlying hu,hz,h2]
theorem clear_law (w:World) {ops:Array Oper} {rest:List Oper} {o:Oper} {a:Act} {Q:Exit->Act->World->Prop}(hgd:o.guard=none)(d:Operand)(t1:TypeId)
 (ho:o.op= .call {callee:=.builtin .clear,args:=#[d],argTypes:=#[t1]}) (v:Value) (hd:a.eval d=v) {v':Value} {w':World}
 (hr:(Builtin.clear_ #[t1] o.type #[v]).run P w= .ok v' w') (h:wpList P ops Q rest (a.put o.dst v') w'):wpList P ops Q (o::rest) a w:=by
 refine wpList_plain hgd fun K hK=>?_
 unfold Oper.wp execOp
 simp only[ho,resolve,invoke,builtin,Sem.run_bind,Sem.run_pure,Result.andThen_ok,List.map_toArray,List.map_cons,List.map_nil,hd,hr]
 exact hK _ _ h
theorem delete_law (w:World) {ops:Array Oper} {rest:List Oper} {o:Oper} {a:Act} {Q:Exit->Act->World->Prop}(hgd:o.guard=none)(d x:Operand)(t1 t2:TypeId)
 (ho:o.op= .call {callee:=.builtin .delete,args:=#[d,x],argTypes:=#[t1,t2]}) (v u:Value) (hd:a.eval d=v) (hx:a.eval x=u) {v':Value} {w':World}
 (hr:(Builtin.delete_ #[t1,t2] o.type #[v,u]).run P w= .ok v' w') (h:wpList P ops Q rest (a.put o.dst v') w'):wpList P ops Q (o::rest) a w:=by
 refine wpList_plain hgd fun K hK=>?_
 unfold Oper.wp execOp
 simp only[ho,resolve,invoke,builtin,Sem.run_bind,Sem.run_pure,Result.andThen_ok,List.map_toArray,List.map_cons,List.map_nil,hd,hx,hr]
 exact hK _ _ h
theorem run_storeMid {w:World} {g:Nat} {pre mid post cs:List Value} {te:TypeId}(hb:Blk w g (pre++mid++post) te)(hl:mid.length=cs.length)(hi:(P.info? t).map (·.size)=some cs.length)(h1:∀v∈cs,v.oneCell'=true):
 (storeOp t (.pointer (some ⟨g,pre.length,none⟩)) (.agg cs.toArray)).run P w= .ok .skip (w.setCells g pre.length cs):=by
 have:=run_storeAt_mid (P:=P) w g pre.length t cs.toArray (hb.there _ _ (by simp[hl])) (by simpa using hi) (by simpa using h1)
 unfold storeOp
 simp only[Sem.run_bind,this,Result.andThen_ok,Sem.run_pure]
end
end
section
open Go.RowKit Sha Fct
section
variable {V:Type} {S:Shp V} {w:World} {g:Nat} {t:TypeId}
theorem good_blk {w':World} {x:V} {q:Option Addr} {c:Nat}(h:S.Good w x q c)(hu:U8 w q (S.byt x))(hk:∀g cs,Blk w g cs 5->Blk w' g cs 5):S.Good w' x q c:=by
 refine⟨h.ok,?_,h.le,h.max,h.nil⟩
 rcases hu with h0 | ⟨g,cs,rfl,hb⟩
 ·left;rw[h0];rfl
 ·rcases h.at_ with h1 | ⟨b,off,ha,hc⟩
  ·exact Or.inl h1
  ·cases ha
   refine Or.inr ⟨g,0,rfl,fun i u hi=>?_⟩
   have h2:=hc i u hi
   rw[hb.cell]at h2
   rw[(hk g cs hb).cell];exact h2
theorem u8_keeps {w':World} {P:Nat->Prop}(hg:Chg P w w')(hp:∀k cs,Blk w k cs 5->¬P k):∀g cs,Blk w g cs 5->Blk w' g cs 5:=fun g cs hk=>hg.blk hk (hp g cs hk)
theorem blk_ty {g:Nat} {cs cs':List Value} {t t':TypeId}(h:Blk w g cs t)(h':Blk w g cs' t'):t=t':=by
 unfold Blk at h h'
 rw[h]at h';simp at h';exact h'.2
def MidB (S:Shp V)(w:World)(g:Nat)(t:TypeId)(F:List (Hd V))(G:List Value)(D:List (Hd V))(rest:List Value):Prop:=Blk w g (F.flatMap S.row++G++D.flatMap S.row++rest) t
theorem MidB.kept {w':World} {F:List (Hd V)} {G:List Value} {D:List (Hd V)} {rest:List Value} {row:Option Nat}(h:MidB S w g t F G D rest)(hg:w.grownBy w' row)(hne:row≠some g):MidB S w' g t F G D rest:=blk_grown h hg hne
variable {F D:List (Hd V)} {G rest:List Value} {y:Hd V} {i j:Nat}
theorem MidB.range (h:MidB S w g t F G (y::D) rest)(hF:∀y∈F,S.ok y.1)(hi:F.length=i)(hG:G.length=(j - i)*S.n)(hij:i<=j):w.rangeAt g (j*S.n) (S.row y):=by
 intro k u hk
 unfold MidB at h
 rw[List.flatMap_cons,<-List.append_assoc,List.append_assoc (F.flatMap S.row++G++S.row y)]at h
 have:=cells_in (o:=j*S.n) h (by rw[List.length_append,flat_len hF,hi,hG,<-Nat.add_mul];congr 1;omega) k u hk
 rw[Addr.add_mid]at this;exact this
theorem MidB.skip (h:MidB S w g t F G (y::D) rest):MidB S w g t F (G++S.row y) D rest:=by
 unfold MidB at h ⊢
 rw[List.flatMap_cons]at h
 simpa only[List.append_assoc]using h
theorem MidB.keep (h:MidB S w g t F G (y::D) rest)(hF:∀y∈F,S.ok y.1)(hy:S.ok y.1)(hi:F.length=i)(hG:G.length=(j - i)*S.n)(hij:i < j):
 MidB S (w.setCells g (i*S.n) (S.row y)) g t (F++[y]) (G.drop S.n++S.row y) D rest/\(G.drop S.n++S.row y).length=(j+1 - (i+1))*S.n/\
 ∀{P:Program} {ty:TypeId},(P.info? ty).map (·.size)=some S.n->(storeOp ty (.pointer (some ⟨g,i*S.n,none⟩)) (.agg (S.row y).toArray)).run P w= .ok .skip (w.setCells g (i*S.n) (S.row y)):=by
 have hl:(S.row y).length=S.n:=S.len _ _ hy
 have h1:S.n<=G.length:=by rw[hG];have:1*S.n<=(j - i)*S.n:=Nat.mul_le_mul_right _ (by omega);omega
 have hp:(F.flatMap S.row).length=i*S.n:=by rw[flat_len hF,hi]
 unfold MidB at h ⊢
 have hb:Blk w g (F.flatMap S.row++G.take S.n++(G.drop S.n++(y::D).flatMap S.row++rest)) t:=by
  have e:F.flatMap S.row++G++(y::D).flatMap S.row++rest=F.flatMap S.row++G.take S.n++(G.drop S.n++(y::D).flatMap S.row++rest):=by
   conv=>lhs;rw[<-List.take_append_drop S.n G]
   simp only[List.append_assoc]
  rw[<-e];exact h
 have hm:(G.take S.n).length=(S.row y).length:=by rw[List.length_take,hl];omega
 refine⟨?_,?_,fun {P ty} hs=>?_⟩
 ·have:=Blk.setCells (S.row y) (i*S.n) w _ _ _ hb hp hm
  rw[List.flatMap_append,List.flatMap_cons,List.flatMap_nil,List.append_nil]
  rw[List.flatMap_cons]at this
  simpa only[List.append_assoc]using this
 ·obtain⟨d,hd⟩:∃d,j - i=d+1:=⟨j - i - 1,by omega⟩
  rw[List.length_append,List.length_drop,hG,hl,show j+1 - (i+1)=d+1 by omega,hd,Nat.succ_mul];omega
 ·have:=run_storeMid (P:=P) (t:=ty) hb hm (by rw[hl];exact hs) (S.one _ _ _)
  rw[hp]at this;exact this
theorem MidB.clear (h:MidB S w g t F G [] rest)(hF:∀y∈F,S.ok y.1)(hi:F.length=i)(hG:G.length=(j - i)*S.n) {Z:List Value}(hZ:Z.length=(j - i)*S.n)(hij:i<=j) {B cap:Nat}(hB:B<=g)(hjc:j<=cap)(hm:cap<=maxLen)
 (hr:rest.length=(cap - j)*S.n):(w.setCells g (i*S.n) Z).ownsRow B t S.n (.slice (some ⟨g,0,none⟩) i cap) i (F.flatMap S.row)/\w.there g (i*S.n) ((j - i)*S.n):=by
 unfold MidB at h
 rw[List.flatMap_nil,List.append_nil]at h
 have hp:(F.flatMap S.row).length=i*S.n:=by rw[flat_len hF,hi]
 refine⟨?_,h.there _ _ (by rw[List.length_append,List.length_append,hp,hG];omega)⟩
 have h2:=Blk.setCells Z (i*S.n) w _ _ _ h hp (by rw[hG,hZ])
 rw[List.append_assoc]at h2
 exact own_ofBlk hB h2 (by omega) hm hp (by rw[List.length_append,List.length_append,hp,hZ,hr,<-Nat.add_mul,<-Nat.add_mul];congr 1;omega)
theorem filter_upto {α:Type}(kp:α->Bool)(ys:List α)(j:Nat)(hj:j < ys.length):(ys.take (j+1)).filter kp=(ys.take j).filter kp++if kp ys[j] = true then [ys[j]]else []:=by
 rw[List.take_succ_eq_append_getElem hj,List.filter_append]
 congr 1
 cases h:kp ys[j]<;>simp[h]
end
end
end Go.Proofs.YtokpabkcaofahaaGreat
