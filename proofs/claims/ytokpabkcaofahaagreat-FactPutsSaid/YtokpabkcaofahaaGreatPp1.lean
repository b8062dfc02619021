/-
  What stands under factPuts_holds: part 1.
-/
import Derived.WalkKit
import Derived.Deep.WholeRow
import Derived.Deep.QuietTactic
import Derived.BigQuiet
import Derived.Lib.Hide
import Derived.StillTailTactics
import Derived.Deep.RegionHeld3
import Derived.Deep.MidRow
import Derived.Laws.Cover3
import Derived.Laws.AppendOwnNone
import Derived.OwnWalk
import Derived.Deep.Onto
import Derived.Test.YtokpabkcaofahaaGreatRows
import Derived.Laws.BytesArg
import Derived.WalkSpells
import Derived.IntWalk
import Derived.WalkLawsBesides
import Derived.Laws.StructEq
import Derived.Deep.Upon
import Derived.Laws.CopyOwn
import Derived.Lib.OthersKept
import Derived.BigFrame
namespace Go.Proofs.YtokpabkcaofahaaGreat
set_option linter.unusedSimpArgs false
set_option linter.unusedVariables false
set_option maxRecDepth 100000
set_option maxHeartbeats 20000000
section
namespace Fld
structure Itm where
 N:Int
 B:List Int
 D:List Int
deriving DecidableEq
def zero32:List Int:=List.replicate 32 0
theorem zero32_length:zero32.length=32:=by simp[zero32]
structure Itm.ok (x:Itm):Prop where
 N0:-9223372036854775808<=x.N
 N1:x.N<=9223372036854775807
 B:∀n∈x.B,0<=n/\n<=255
 D:∀n∈x.D,0<=n/\n<=255
 len:x.D.length=32
def chkL:List Int->Bool->Bool->Bool
 | [],o,_=>!o
 | c::r,o,k=>if c=110\/c=98\/c=100 then chkL r o true else if c=40/\o=false then chkL r true false else if c=41/\o=true/\k=true then chkL r false k else false
def chk (s:List Int):Bool:=decide (s.length<=40) && chkL s false false
def chkE (s:List Int):Int:=if chk s=true then 0 else 2
theorem chkE_ok {s:List Int}(h:chk s=true):chkE s=0:=by simp[chkE,h]
theorem chkE_no {s:List Int}(h:chk s=false):chkE s=2:=by simp[chkE,h]
attribute [irreducible] chkE
section
variable {σ:Type} (f:Int->σ->σ×Int×Int)
def once:List Int->σ->σ×Int
 | [],st=>(st,0)
 | c::r,st=>if(f c st).2.2=0 then once r (f c st).1 else((f c st).1,(f c st).2.2)
def rep (g:List Int):Nat->σ->σ×Int
 | 0,st=>(st,0)
 | n+1,st=>if(once f g st).2=0 then rep g n (once f g st).1 else once f g st
def walkL:Option (List Int)->Int->List Int->σ->σ×Int
 | _,_,[],st=>(st,0)
 | none,_,c::r,st=>if(f c st).2.2=0 then walkL (if c=40 then some []else none) (f c st).2.1 r (f c st).1 else((f c st).1,(f c st).2.2)
 | some g,t,c::r,st=>if c=41 then(if(rep f g t.toNat st).2=0 then walkL none t r (rep f g t.toNat st).1 else rep f g t.toNat st)else walkL (some (g++[c])) t r st
end
def num (n:Nat):List Int:=if h:n < 128 then [(n:Int)]else((n % 128+128:Nat):Int)::num (n / 128)
termination_by n
decreasing_by omega
theorem num_lt {n:Nat}(h:n < 128):num n= [(n:Int)]:=by rw[num];simp[h]
theorem num_ge {n:Nat}(h:128<=n):num n=((n % 128+128:Nat):Int)::num (n / 128):=by rw[num];simp[show¬n < 128 by omega]
def rd:Nat->Nat->List Int->Int×Int×Nat
 | i,_,[]=>(4,0,i)
 | i,acc,x::r=>if i=9 then(10,0,0)else if 128<=x then rd (i+1) (acc+(x % 128).toNat*128 ^ i) r else
    if(x=0/\0 < i)\/4611686018427387903 < acc+(x % 128).toNat*128 ^ i then(10,0,0)else(0,((acc+(x % 128).toNat*128 ^ i:Nat):Int),i+1)
def rdTop (bs:List Int):Int×Int×Nat:=if 4000 < (rd 0 0 bs).2.1 then(3,0,0)else rd 0 0 bs
def okFor (c:Int)(x:Itm):Bool:=if c=98 then decide (x.N=0) && decide (x.D=zero32)else if c=100 then decide (x.N=0) && decide (x.B= [])else decide (x.B= []) && decide (x.D=zero32)
def bound (c:Int)(x:Itm):Int:=if x.N < 0\/4611686018427387903 < x.N then 5 else if 4000 < x.B.length\/(c=40/\4000 < x.N)then 3 else 0
def enc (c:Int)(x:Itm):List Int:=if c=98 then num x.B.length++x.B else if c=100 then x.D else num x.N.toNat
def putS (c:Int)(st:List Int×List Itm):(List Int×List Itm)×Int×Int:=
 match st.2 with
 | []=>(st,0,2)
 | x::l=>if okFor c x=true then(if bound c x=0 then((st.1++enc c x,l),x.N,0)else(st,0,bound c x))else(st,0,2)
def put (s:List Int)(l:List Itm):List Int×Int:=
 if chk s=true then
  let r:=walkL putS none 0 s ([],l)
  if r.2=0 then(if r.1.2= []then(r.1.1,0)else([],2))else([],r.2)
 else([],2)
def getS (b:List Int)(c:Int)(st:Nat×List Itm):(Nat×List Itm)×Int×Int:=
 if c=98 then
  let r:=rdTop (b.drop st.1)
  if r.1=0 then(if b.length - (st.1+r.2.2) < r.2.1 then((b.length,st.2),0,4)else
   ((st.1+r.2.2+r.2.1.toNat,st.2++[⟨0,(b.drop (st.1+r.2.2)).take r.2.1.toNat,zero32⟩]),0,0))
  else((if r.1=4 then b.length else st.1,st.2),0,r.1)
 else if c=100 then
  if b.length - st.1 < 32 then((b.length,st.2),0,4)else((st.1+32,st.2++[⟨0,[],(b.drop st.1).take 32⟩]),0,0)
 else
  let r:=if c=40 then rdTop (b.drop st.1)else rd 0 0 (b.drop st.1)
  if r.1=0 then((st.1+r.2.2,st.2++[⟨r.2.1,[],zero32⟩]),r.2.1,0)else((if r.1=4 then b.length else st.1,st.2),0,r.1)
def get (s:List Int)(b:List Int):List Itm×Int×Nat:=
 if chk s=true then
  let r:=walkL (getS b) none 0 s (0,[])
  if r.2=0 then(if r.1.1 < b.length then([],4,r.1.1)else(r.1.2,0,0))else([],r.2,r.1.1)
 else([],2,0)
end Fld
end
section
variable {P:Program}
def Blk (w:World)(g:Nat)(cs:List Value)(t:TypeId):Prop:=w.heap[g]? = some (.cells cs.toArray t (0,0))
theorem Blk.new (w:World)(cs:Array Value)(t:TypeId):Blk (w.alloc (.cells cs t)) w.heap.size cs.toList t:=by
 unfold Blk;rw[heap_alloc_new]
theorem Blk.old {w:World} {g:Nat} {cs:List Value} {t:TypeId}(h:Blk w g cs t)(o:Obj):Blk (w.alloc o) g cs t:=by
 have hlt:g < w.heap.size:=by
  by_cases hlt:g < w.heap.size
  ·exact hlt
  ·unfold Blk at h;rw[Array.getElem?_eq_none (by omega)]at h;cases h
 unfold Blk;rw[RowKit.Below.heap_alloc _ _ _ hlt];exact h
theorem Blk.lt {w:World} {g:Nat} {cs:List Value} {t:TypeId}(h:Blk w g cs t):g < w.heap.size:=by
 by_cases hlt:g < w.heap.size
 ·exact hlt
 ·unfold Blk at h;rw[Array.getElem?_eq_none (by omega)]at h;cases h
theorem Blk.drew {w:World} {g:Nat} {cs:List Value} {t:TypeId}(h:Blk w g cs t):Blk w.drew g cs t:=h
theorem Blk.drewN {w:World} {g:Nat} {cs:List Value} {t:TypeId}(h:Blk w g cs t)(n:Nat):Blk (w.drewN n) g cs t:=h
theorem Blk.below {w w':World} {B g:Nat} {cs:List Value} {t:TypeId}(h:Blk w g cs t)(hb:RowKit.Below B w w')(hg:g < B):Blk w' g cs t:=by
 unfold Blk;rw[hb.block g hg];exact h
theorem Blk.cell {w:World} {g:Nat} {cs:List Value} {t:TypeId}(h:Blk w g cs t)(i:Nat):w.cell? ⟨g,i,none⟩=cs[i]?:=by
 rw[cell_of_row w g i cs.toArray t (0,0) h];simp
theorem Blk.free {w:World} {g:Nat} {cs:List Value} {t:TypeId}(h:Blk w g cs t)(i:Nat):w.frozen? ⟨g,i,none⟩=false:=frozen_of_row w g i _ t h
theorem Blk.set {w:World} {g:Nat} {cs:List Value} {t:TypeId}(h:Blk w g cs t)(i:Nat)(v:Value):Blk (w.setCell ⟨g,i,none⟩ v) g (cs.set i v) t:=by
 unfold Blk;rw[heap_setCell_same w g i _ t v h];simp
theorem Blk.setOther {w:World} {g:Nat} {cs:List Value} {t:TypeId}(h:Blk w g cs t)(a:Addr)(v:Value)(hn:g≠a.block):Blk (w.setCell a v) g cs t:=by
 unfold Blk;rw[heap_setCell_other w a g v hn];exact h
theorem Blk.row {w:World} {g:Nat} {cs:List Value} {t:TypeId}(h:Blk w g cs t)(cs':List Value):Blk (w.setRow g cs'.toArray) g cs' t:=setRow_heap w g _ _ t (0,0) h
theorem Blk.rowOther {w:World} {g k:Nat} {cs:List Value} {t:TypeId}(h:Blk w g cs t)(cs':Array Value)(hn:g≠k):Blk (w.setRow k cs') g cs t:=by
 unfold Blk;rw[setRow_other w k g cs' hn];exact h
theorem below_drewN {B:Nat} {a w:World}(h:RowKit.Below B a w)(n:Nat):RowKit.Below B a (w.drewN n):=⟨h.os,h.tape,h.output,h.size,h.block⟩
theorem Below.setRow {B:Nat} {a w:World}(h:RowKit.Below B a w) {g:Nat}(hg:B<=g)(cs:Array Value):RowKit.Below B a (w.setRow g cs):=
 h.trans ⟨rfl,rfl,rfl,by simp,fun k hk=>setRow_other w g k cs (by omega)⟩
theorem still_of_quiet {ops:Array Oper} {w:World} {Q:Act->Prop}:∀(l:List Oper)(a:Act),wpQuiet P ops (fun w'=>w'=w) Q l a->wpStill P ops w Q l a
 | [],_,h=>h
 | o::rest,a,h=>by
    unfold wpQuiet at h
    unfold wpStill
    split
    ·rename_i hw
     rw[if_pos hw]at h
     obtain⟨v,h1,h2⟩:=h
     have h3:=h1 w rfl
     have h4:=still_of_quiet rest _ h2
     unfold Oper.quietAt at h3
     unfold Oper.still
     generalize(execOp a.eval o).run P w=r at *
     cases r with
     | ok n w'=>
        cases n<;>simp only[Oper.quietUpon]at h3<;>simp only[Oper.stillUpon]
        case value u=>obtain⟨e1,e2⟩:=h3;subst e2;exact⟨e1,h4⟩
        case skip=>obtain⟨e1,e2⟩:=h3;subst e2;exact⟨e1,h4⟩
        case enter f args=>exact⟨h3.1,v,h3.2,h4⟩
     | halt x w'=>simp only[Oper.quietUpon]at h3
    ·rename_i hw
     rw[if_neg hw]at h
     exact still_of_quiet rest _ h
theorem region_tail {id:Nat} {Q:Exit->Act->World->Prop} {a:Act} {w:World} {l:List Oper}(n:Nat)(hm:P.follows .mixedOrders=true)(hB:Region.lexTailB .any l.toArray n=true)
 (h:wpQuiet P l.toArray (fun w'=>w'=w.drew) (fun a'=>wpList P l.toArray Q (l.drop n) a' w.drew) (l.take n) a):(Code.region id l.toArray true).wp P Q a w:=
 wp_region_still_tail n hm hB (still_of_quiet _ _ h)
structure Two (w0:World)(B:Nat)(d1 d2:Bool)(t1 t2:TypeId)(c1 c2:List Value)(g1 g2:Nat)(wv:World):Prop where
 below:RowKit.Below B w0 wv
 size:B<=wv.heap.size
 one:d1=true->B<=g1/\Blk wv g1 c1 t1
 two:d2=true->B<=g2/\Blk wv g2 c2 t2
 apart:d1=true->d2=true->g1≠g2
variable {w0 wv:World} {B g1 g2:Nat} {d1 d2:Bool} {t1 t2:TypeId} {c1 c2:List Value}
theorem Two.alloc1 (h:Two w0 B false d2 t1 t2 c1 c2 g1 g2 wv)(c:List Value):Two w0 B true d2 t1 t2 c c2 wv.heap.size g2 (wv.alloc (.cells c.toArray t1)):=
 ⟨h.below.alloc h.size _,by simp;have:=h.size;omega,fun _=>⟨h.size,by simpa using Blk.new wv c.toArray t1⟩,fun e=>⟨(h.two e).1,(h.two e).2.old _⟩,fun _ e=>by have:=(h.two e).2.lt;omega⟩
theorem Two.alloc2 (h:Two w0 B d1 false t1 t2 c1 c2 g1 g2 wv)(c:List Value):Two w0 B d1 true t1 t2 c1 c g1 wv.heap.size (wv.alloc (.cells c.toArray t2)):=
 ⟨h.below.alloc h.size _,by simp;have:=h.size;omega,fun e=>⟨(h.one e).1,(h.one e).2.old _⟩,fun _=>⟨h.size,by simpa using Blk.new wv c.toArray t2⟩,fun e _=>by have:=(h.one e).2.lt;omega⟩
theorem Two.call (h:Two w0 B d1 d2 t1 t2 c1 c2 g1 g2 wv) {w1:World}(hb:RowKit.Below wv.heap.size wv w1):Two w0 B d1 d2 t1 t2 c1 c2 g1 g2 w1:=
 ⟨h.below.trans (hb.mono h.size),Nat.le_trans h.size hb.size,fun e=>⟨(h.one e).1,(h.one e).2.below hb (h.one e).2.lt⟩,fun e=>⟨(h.two e).1,(h.two e).2.below hb (h.two e).2.lt⟩,h.apart⟩
theorem Two.store1 (h:Two w0 B true d2 t1 t2 c1 c2 g1 g2 wv)(c:List Value):Two w0 B true d2 t1 t2 c c2 g1 g2 (wv.setRow g1 c.toArray):=
 ⟨Below.setRow h.below (h.one rfl).1 _,by simp;exact h.size,fun _=>⟨(h.one rfl).1,(h.one rfl).2.row c⟩,fun e=>⟨(h.two e).1,(h.two e).2.rowOther _ (fun e'=>h.apart rfl e e'.symm)⟩,h.apart⟩
theorem Two.store2 (h:Two w0 B d1 true t1 t2 c1 c2 g1 g2 wv)(c:List Value):Two w0 B d1 true t1 t2 c1 c g1 g2 (wv.setRow g2 c.toArray):=
 ⟨Below.setRow h.below (h.two rfl).1 _,by simp;exact h.size,fun e=>⟨(h.one e).1,(h.one e).2.rowOther _ (h.apart e rfl)⟩,fun _=>⟨(h.two rfl).1,(h.two rfl).2.row c⟩,h.apart⟩
section
variable {ops:Array Oper} {rest:List Oper} {o:Oper} {a:Act} {w:World} {Q:Exit->Act->World->Prop}
variable {K:Act->World->Prop}
theorem wp_alloc_arr (ty:TypeId)(ho:o.op= .alloc ty)(cs:Array Value)(hz:(P.info? ty).map (fun i=>i.zero)=some (some (.agg cs)))
 (h:K (a.put o.dst (.pointer (some ⟨w.heap.size,0,none⟩))) (w.alloc (.cells cs ty))):o.wp P a w K Q:=by
 unfold Oper.wp execOp
 have hz':(zeroValue ty).run P w= .ok (.agg cs) w:=by
  cases hq:P.info? ty with
  | none=>simp[hq]at hz
  | some i=>simp[hq]at hz;simp[zeroValue,typeInfo,hq,hz]
 simp only[ho,Instr.alloc,Sem.run_bind,hz',Result.andThen_ok,Sem.run_pure]
 exact h
theorem ready_step {md:Region.Mode} {fuel:Nat} {listed:Array Bool} {i:Nat} {o:Oper} {rs:List Nat}(ho:ops[i]? = some o)(hw:Region.wanted o (yielded ops a.tmps)=true)
 (h:∀K:Act->World->Prop,(∀a w,wpAny P md ops Q fuel (listed.setIfInBounds i true) a w->K a w)->o.wp P a w K Q)
 (hs:AllReady P md ops Q fuel listed a w rs):AllReady P md ops Q fuel listed a w (i::rs):=
 AllReady.cons ho (fun K hK=>by rw[if_pos hw];exact h K hK) hs
theorem ready_stepH {md:Region.Mode} {S:World->Prop} {fuel:Nat} {listed:Array Bool} {i:Nat} {o:Oper} {rs:List Nat}(ho:ops[i]? = some o)(hw:Region.wanted o (yielded ops a.tmps)=true)
 (h:∀K:Act->World->Prop,(∀a w,S w->wpAnyH P md ops Q S fuel (listed.setIfInBounds i true) a w->K a w)->o.wp P a w K Q)
 (hs:AllReadyH P md ops Q S fuel listed a w rs):AllReadyH P md ops Q S fuel listed a w (i::rs):=
 AllReadyH.cons ho (fun K hK=>by rw[if_pos hw];exact h K (fun a w hS h'=>hK.out a w hS (fun _=>h'))) hs
theorem yieldsIf_load_row {S:World->Prop} {o:Oper} {a:Act}(hw:Region.wanted o (yielded ops a.tmps)=true)(ty:TypeId)(x:Operand)(ho:o.op= .load ty x)
 (g:Nat) (hx:a.eval x= .pointer (some ⟨g,0,none⟩)) (cs:List Value) (t:TypeId) (d:TypeDesc) (hS:∀w,S w->Blk w g cs t)
 (hu:P.underlying ty=some d) (hd:(match d with | .struct _ | .array _ _=>true | _=>false)=true) (hi:(P.info? ty).map (·.size)=some cs.toArray.size):YieldsIf P ops S o (.agg cs.toArray) a:=
 .inl ⟨hw,fun w hw'=>by
  unfold execOp
  simp only[ho,hx,Instr.loadAt,Instr.sureAddr,Sem.run_bind,Sem.run_pure,Result.andThen_ok,run_loadVar_row w g t ty cs.toArray (0,0) d (hS w hw') hu hd hi]⟩
theorem wpList_alloc_arr (hgd:o.guard=none)(ty:TypeId)(ho:o.op= .alloc ty)(cs:Array Value)(hz:(P.info? ty).map (fun i=>i.zero)=some (some (.agg cs)))
 (h:wpList P ops Q rest (a.put o.dst (.pointer (some ⟨w.heap.size,0,none⟩))) (w.alloc (.cells cs ty))):wpList P ops Q (o::rest) a w:=by
 exact wpList_plain hgd fun K hK=>wp_alloc_arr ty ho cs hz (hK _ _ h)
theorem wpList_box_arr (hgd:o.guard=none)(ty:TypeId)(x:Operand)(ho:o.op= .box ty x)(cs:Array Value)(hx:a.eval x= .agg cs)
 (h:wpList P ops Q rest (a.put o.dst (.pointer (some ⟨w.heap.size,0,none⟩))) (w.alloc (.cells cs ty))):wpList P ops Q (o::rest) a w:=by
 refine wpList_plain hgd fun K hK=>?_
 unfold Oper.wp execOp
 simp only[ho,hx,Instr.box,Sem.run_bind,Result.andThen_ok,Sem.run_pure]
 exact hK _ _ h
theorem wpList_build' (hg:o.guard=none)(t:TypeId)(parts:Array (Nat×Operand))(ho:o.op= .build t parts)(cs:Array Value)
 (hf:P.built t (parts.map fun(i,x)=>(i,a.eval x)).toList=some cs)
 (h:wpList P ops Q rest (a.put o.dst (.agg cs)) w):wpList P ops Q (o::rest) a w:=
 wpList_build hg t parts ho (by rw[hf];rfl) (by rw[hf];exact h)
theorem run_index_arr (ty:TypeId)(cs:Array Value)(i:Int)(n:Nat)(elem:TypeId)(hu:P.underlying ty=some (.array n elem))(d:TypeDesc)(hue:P.underlying elem=some d)
 (hna:(match d with | .struct _ | .array _ _=>true | _=>false)=false) (he:(P.info? elem).map (fun i=>i.size)=some 1) (hi:0<=i/\i < n) (v:Value) (hv:cs[i.toNat]? = some v) (w:World):
 (Instr.index ty (.agg cs) (.int .i64 i)).run P w= .ok v w:=by
 have h2:(sizeOf elem).run P w= .ok 1 w:=by
  cases hq:P.info? elem with
  | none=>simp[hq]at he
  | some j=>simp[hq]at he;simp[sizeOf,typeInfo,hq,he]
 have hagg:(isAgg elem).run P w= .ok false w:=by
  unfold isAgg
  rw[Sem.run_bind,run_underlying hue w]
  cases d<;>simp_all
 simp[Instr.index,asIntOf,run_underlying hu,hi,h2,part,hagg,hv]
theorem wpList_index_arr (hgd:o.guard=none)(ty:TypeId)(x ix:Operand)(ho:o.op= .index ty x ix)(cs:Array Value)(hx:a.eval x= .agg cs)(i:Int)(hi:a.eval ix= .int .i64 i)
 (n:Nat) (elem:TypeId) (hu:P.underlying ty=some (.array n elem)) (d:TypeDesc) (hue:P.underlying elem=some d)
 (hna:(match d with | .struct _ | .array _ _=>true | _=>false)=false) (he:(P.info? elem).map (fun i=>i.size)=some 1) (hlt:0<=i/\i < n) (v:Value) (hv:cs[i.toNat]? = some v)
 (h:wpList P ops Q rest (a.put o.dst v) w):wpList P ops Q (o::rest) a w:=by
 refine wpList_plain hgd fun K hK=>?_
 unfold Oper.wp execOp
 simp only[ho,hx,hi,Sem.run_bind,run_index_arr ty cs i n elem hu d hue hna he hlt v hv,Result.andThen_ok,Sem.run_pure]
 exact hK _ _ h
end
end
section
variable {P:Program}
def At (w:World)(a:Option Addr)(cs:List Value):Prop:=cs= []\/∃b off,a=some ⟨b,off,none⟩/\∀i v,cs[i]? = some v->w.cell? ⟨b,off+i,none⟩=some v
theorem At.nil (w:World)(a:Option Addr):At w a []:=Or.inl rfl
theorem At.carry {w w':World} {a:Option Addr} {cs:List Value}(h:At w a cs)(hc:∀p v,w.cell? p=some v->w'.cell? p=some v):At w' a cs:=by
 rcases h with h | ⟨b,off,ha,hc'⟩
 ·exact Or.inl h
 ·exact Or.inr ⟨b,off,ha,fun i v hi=>hc _ _ (hc' i v hi)⟩
theorem At.below {w w':World} {a:Option Addr} {cs:List Value}(h:At w a cs)(hb:RowKit.Below w.heap.size w w'):At w' a cs:=
 h.carry fun p v hv=>by rw[hb.cell (World.block_lt_of_cell? w p hv)];exact hv
theorem At.drew {w:World} {a:Option Addr} {cs:List Value}(h:At w a cs):At w.drew a cs:=h
theorem At.alloc {w:World} {a:Option Addr} {cs:List Value}(h:At w a cs)(o:Obj):At (w.alloc o) a cs:=
 h.below (RowKit.Below.alloc (RowKit.Below.refl _ _) (Nat.le_refl _) o)
theorem At.addr {w:World} {a:Option Addr} {cs:List Value}(h:At w a cs)(hn:0 < cs.length):∃b off,a=some ⟨b,off,none⟩/\∀i v,cs[i]? = some v->w.cell? ⟨b,off+i,none⟩=some v:=by
 rcases h with h | h
 ·subst h;simp at hn
 ·exact h
theorem At.sub {w:World} {a:Option Addr} {cs:List Value}(h:At w a cs)(lo hi cap:Nat)(hc:cs.length<=cap):At w (if cap=lo then a else a.map (·.add lo)) ((cs.take hi).drop lo):=by
 by_cases e:cap=lo
 ·left;simp;omega
 rw[if_neg e]
 rcases h with h | ⟨b,off,ha,hc'⟩
 ·left;simp[h]
 ·refine Or.inr ⟨b,off+lo,by rw[ha];simp[Addr.add_mid],fun i v hi'=>?_⟩
  rw[List.getElem?_drop,List.getElem?_take]at hi'
  split at hi'
  ·have:=hc' (lo+i) v hi'
   rwa [<-Nat.add_assoc]at this
  ·cases hi'
theorem At.range {w:World} {b off:Nat} {cs:List Value}(h:At w (some ⟨b,off,none⟩) cs):w.rangeAt b off cs:=by
 rcases h with h | ⟨b',off',ha,hc'⟩
 ·subst h;intro j v hv;simp at hv
 ·cases ha;exact hc'
def cutV (p:Option Addr)(l h cap:Nat):Value:=.slice (if cap=l then p else p.map (·.add l)) (h - l) (cap - l)
theorem size_one {e:TypeId}(he:(P.info? e).map (fun i=>i.size)=some 1)(w:World):(sizeOf e).run P w= .ok 1 w:=by
 cases hq:P.info? e with
 | none=>simp[hq]at he
 | some j=>simp[hq]at he;simp[sizeOf,typeInfo,hq,he]
theorem elem_of {t e:TypeId}(hu:P.underlying t=some (.slice e)):P.elem t=e:=by simp[Program.elem,hu]
section
variable (t e:TypeId) (p:Option Addr) (len cap:Nat) (hu:P.underlying t=some (.slice e)) (he:(P.info? e).map (fun i=>i.size)=some 1)
include hu he
theorem run_cut_lh (kl kh:IntKind)(l h:Int)(h0:0<=l)(h1:l<=h)(h2:h<=cap)(w:World):
 (Instr.sliceAt t (.slice p len cap) (some (.int kl l)) (some (.int kh h)) none).run P w= .ok (cutV p l.toNat h.toNat cap) w:=by
 have hu':P.underlying t=some (.slice (P.elem t)):=by rw[elem_of hu];exact hu
 rw[run_sliceAt_slice w t _ _ _ _ hu',run_slice_lh w t p len cap hu' kl kh l h h0 h1 h2,elem_of hu,size_one he]
 simp[Result.andThen,sliced,cutV]
theorem run_cut_h (kh:IntKind)(h:Int)(h0:0<=h)(h2:h<=cap)(w:World):
 (Instr.sliceAt t (.slice p len cap) none (some (.int kh h)) none).run P w= .ok (cutV p 0 h.toNat cap) w:=by
 have hu':P.underlying t=some (.slice (P.elem t)):=by rw[elem_of hu];exact hu
 rw[run_sliceAt_slice w t _ _ _ _ hu',run_slice_h w t p len cap hu' kh h h0 h2,elem_of hu,size_one he]
 simp[Result.andThen,sliced,cutV]
theorem run_cut_l (kl:IntKind)(l:Int)(h0:0<=l)(h1:l<=len)(w:World):
 (Instr.sliceAt t (.slice p len cap) (some (.int kl l)) none none).run P w= .ok (cutV p l.toNat len cap) w:=by
 have hu':P.underlying t=some (.slice (P.elem t)):=by rw[elem_of hu];exact hu
 rw[run_sliceAt_slice w t _ _ _ _ hu',run_slice_l w t p len cap hu' kl l h0 h1,elem_of hu,size_one he]
 simp[Result.andThen,sliced,cutV]
end
section
variable {ops:Array Oper} {rest:List Oper} {o:Oper} {a:Act} {w:World} {Q:Exit->Act->World->Prop} {C:World->Prop} {K:Act->Prop}
theorem quiet_cut (t:TypeId)(x:Operand)(lo hi:Option Operand)(ho:o.op= .slice t x lo hi none)(p:Option Addr)(l h cap:Nat)
 (hr:∀w,(Instr.sliceAt t (a.eval x) (lo.map a.eval) (hi.map a.eval) none).run P w= .ok (cutV p l h cap) w) (w0:World) (cs:List Value) (hA:At w0 p cs) (hc:cs.length<=cap)
 (hn:∀p',At w0 p' ((cs.take h).drop l)->K (a.put o.dst (.slice p' (h - l) (cap - l)))):o.quiet P a C K:=
 ⟨cutV p l h cap,fun w _=>by
  unfold Oper.quietAt execOp
  simp only[ho,Option.map_none,Sem.run_bind,hr,Result.andThen_ok,Sem.run_pure]
  exact⟨rfl,rfl⟩,hn _ (hA.sub l h cap hc)⟩
theorem quiet_array (t:TypeId)(x:Operand)(ho:o.op= .sliceToArrayPointer t x)(e:TypeId)(n:Nat)(p:Option Addr)(len cap:Nat)(hu:P.underlying t=some (.array n e))(hn:n<=len)
 (hx:a.eval x= .slice p len cap) (h:K (a.put o.dst (.pointer p))):o.quiet P a C K:=
 ⟨.pointer p,fun w _=>by
  unfold Oper.quietAt execOp
  simp only[ho,hx,Sem.run_bind,run_arrayAt w t e n p len cap hu hn,Result.andThen_ok,Sem.run_pure]
  exact⟨rfl,rfl⟩,h⟩
theorem quiet_load_mid (ty:TypeId)(x:Operand)(ho:o.op= .load ty x)(b off:Nat)(hx:a.eval x= .pointer (some ⟨b,off,none⟩))(cs:List Value)(d:TypeDesc)(hC:∀w,C w->w.rangeAt b off cs)
 (hu:P.underlying ty=some d) (hd:d.isRow=true) (hi:(P.info? ty).map (·.size)=some cs.length) (h:K (a.put o.dst (.agg cs.toArray))):o.quiet P a C K:=
 ⟨.agg cs.toArray,fun w hw=>by
  unfold Oper.quietAt execOp
  simp only[ho,hx,Instr.loadAt,Instr.sureAddr,Sem.run_bind,Sem.run_pure,Result.andThen_ok,run_loadVar_mid w b off ty cs d (hC w hw) hu hd hi]
  exact⟨rfl,rfl⟩,h⟩
theorem Blk.range {w:World} {g:Nat} {cs:List Value} {t:TypeId}(h:Blk w g cs t):w.rangeAt g 0 cs:=fun j v hv=>by rw[Nat.zero_add,h.cell];exact hv
theorem yields_move {ops:Array Oper}(hw:Region.wanted o (yielded ops a.tmps)=true)(x:Operand)(ho:o.op= .move x)(V:Value)(hx:a.eval x=V):Yields P ops o V a:=
 .inl ⟨hw,fun w=>by
  unfold execOp
  simp only[ho,hx,Sem.run_pure]⟩
theorem yields_cut {ops:Array Oper}(hw:Region.wanted o (yielded ops a.tmps)=true)(t:TypeId)(x:Operand)(lo hi:Option Operand)(ho:o.op= .slice t x lo hi none)(V:Value)
 (hr:∀w,(Instr.sliceAt t (a.eval x) (lo.map a.eval) (hi.map a.eval) none).run P w= .ok V w):Yields P ops o V a:=
 .inl ⟨hw,fun w=>by
  unfold execOp
  simp only[ho,Option.map_none,Sem.run_bind,hr,Result.andThen_ok,Sem.run_pure]⟩
theorem wpList_cut (hgd:o.guard=none)(t:TypeId)(x:Operand)(lo hi:Option Operand)(ho:o.op= .slice t x lo hi none)(p:Option Addr)(l h cap:Nat)
 (hr:∀w,(Instr.sliceAt t (a.eval x) (lo.map a.eval) (hi.map a.eval) none).run P w= .ok (cutV p l h cap) w) (cs:List Value) (hA:At w p cs) (hc:cs.length<=cap)
 (hn:∀p',At w p' ((cs.take h).drop l)->wpList P ops Q rest (a.put o.dst (.slice p' (h - l) (cap - l))) w):wpList P ops Q (o::rest) a w:=by
 refine wpList_plain hgd fun K hK=>?_
 unfold Oper.wp execOp
 simp only[ho,Option.map_none,Sem.run_bind,hr,Result.andThen_ok,Sem.run_pure]
 exact hK _ _ (hn _ (hA.sub l h cap hc))
end
end
section
variable {P:Program} {ops:Array Oper} {rest:List Oper} {o:Oper} {a:Act} {w:World} {Q:Exit->Act->World->Prop}
def lenOf:Value->Nat
 | .slice _ n _=>n
 | _=>0
theorem own_form {B n:Nat} {e:TypeId} {v:Value} {xs:List Value}(h:w.ownsRow B e 1 v n xs)(hn:0 < n):∃g cap,v= .slice (some ⟨g,0,none⟩) n cap/\B<=g/\n<=cap/\cap<=maxLen/\g < w.heap.size:=by
 obtain⟨_,h⟩:=h
 rcases h with⟨_,h0⟩ | ⟨g,cap,cur,hv,hg,hh,h1,h2,_⟩
 ·omega
 ·exact⟨g,cap,hv,hg,h1,h2,Blk.lt (cs:=cur.toList) (t:=e) (by unfold Blk;simpa using hh)⟩
theorem own_at {B n:Nat} {e:TypeId} {v:Value} {xs:List Value}(h:w.ownsRow B e 1 v n xs):∃p cap,v= .slice p n cap/\n<=cap/\cap<=maxLen/\At w p xs/\xs.length=n/\(p=none->cap=0):=by
 have hl:xs.length=n:=by simpa using h.1
 rcases h.2 with⟨hv,h0⟩ | ⟨g,cap,cur,hv,hg,hh,h1,h2,h3,h4⟩
 ·exact⟨none,0,by rw[hv,h0],by omega,by simp[maxLen],Or.inl (List.eq_nil_of_length_eq_zero (by omega)),hl,fun _=>rfl⟩
 ·refine⟨_,cap,hv,h1,h2,Or.inr ⟨g,0,rfl,fun i v hi=>?_⟩,hl,fun h=>by cases h⟩
  subst hv
  have hlt:i < xs.length:=by
   by_cases hlt:i < xs.length
   ·exact hlt
   ·rw[List.getElem?_eq_none (by omega)]at hi;cases hi
  rw[Nat.zero_add,h.cellAt i (by omega)];exact hi
theorem at_one (w:World)(v:Value)(e:TypeId):At (w.alloc (.cells #[v] e)) (some ⟨w.heap.size,0,none⟩) [v]:=by
 refine Or.inr ⟨_,0,rfl,fun i u hi=>?_⟩
 rw[Nat.zero_add,(Blk.new w #[v] e).cell];exact hi
theorem wpList_app (hgd:o.guard=none)(s x:Operand)(t:TypeId)(ho:o.op= .call {callee:=.builtin .append,args:=#[s,x],argTypes:=#[t,t]})
 (B:Nat) (e:TypeId) {z:Value} {by_:Nat} (ht:P.underlying t=some (.slice e)) (hi:(P.info? e).map (fun i=>(i.zero,i.size,i.bytes))=some (some z,1,by_)) (hz:z.cells.size=1)
 (v:Value) (n:Nat) (xs:List Value) (hs:a.eval s=v) (hown:w.ownsRow B e 1 v n xs)
 (p:Option Addr) (m c:Nat) (news:List Value) (hx:a.eval x= .slice p m c) (hA:At w p news) (hl:news.length=m) (hn:p=none->c=0) (hmc:m<=c) (h1:∀u∈news,u.oneCell'=true)
 (hbytes:(n+m)*by_<=140737488355328) (hmax:n+m<=maxLen) (hB:B<=w.heap.size)
 (h:∀v' w',w'.ownsRow B e 1 v' (n+m) (xs++news)->w.grownBy w' v.ownBlock->RowKit.Below B w w'->B<=w'.heap.size->(v'= .slice none 0 0↔v= .slice none 0 0/\m=0)->wpList P ops Q rest (a.put o.dst v') w'):wpList P ops Q (o::rest) a w:=by
 obtain⟨i,hi,hz0,hz1,hz2⟩:=info_parts hi
 have hblock:∀k,v.ownBlock=some k->B<=k:=by
  intro k hk
  rcases hown.2 with⟨hv,_⟩ | ⟨g,cap,cur,hv,hg,_⟩
  ·rw[hv]at hk;cases hk
  ·rw[hv]at hk;cases hk;exact hg
 cases p with
 | none=>
    have hc:=hn rfl
    have hm:m=0:=by omega
    subst hc hm
    have hnews:news= []:=List.eq_nil_of_length_eq_zero hl
    subst hnews
    refine wpList_append_own_none hgd s x t ho B e i 1 ht hi v n xs hs hown hx (h v w (by simpa using hown) ⟨rfl,rfl,rfl,Nat.le_refl _,fun _ _ _=>rfl⟩ (RowKit.Below.refl _ _) hB (by simp))
 | some ad=>
    refine wpList_append_own w hgd s x t ho B e i z 1 by_ ht hi hz0 hz1 hz2 hz (by decide) v n xs hs hown ad m c news hx (by omega) ?_ h1 hmax hbytes hB ?_
    ·intro j u hj
     rcases hA with hA | ⟨b,off,hA,hc⟩
     ·subst hA;simp at hj
     ·cases hA;rw[Addr.add_mid];exact hc j u hj
    ·intro v' w' h1 h2 h3
     exact h v' w' h1 h2 ((RowKit.Below.refl B w).grown h2 hB hblock) (Nat.le_trans hB h2.size) h3
end
section
namespace Sha
abbrev W:=BitVec 32
def U (x:W):Int:=(x.toNat:Int)
def rotr (x:W)(n:Nat):W:=x.rotateRight n
abbrev v32 (x:W):Value:=.int .u32 (U x)
abbrev v8 (n:Int):Value:=.int .u8 n
theorem ofInt_U (x:W):BitVec.ofInt 32 (U x)=x:=by
 unfold U;apply BitVec.eq_of_toNat_eq;simp[BitVec.toNat_ofInt]
theorem U_ofInt (n:Int):U (BitVec.ofInt 32 n)=n % (4294967296:Int):=by
 unfold U;simp[BitVec.toNat_ofInt];omega
theorem u32_wrap (n:Int):IntKind.u32.wrap n=U (BitVec.ofInt 32 n):=by rw[IntKind.wrap_u32,U_ofInt]
theorem U_and (x y:W):bits .and .u32 (U x) (U y)=U (x &&& y):=by
 show IntKind.u32.wrap ((BitVec.ofInt 32 (U x) &&& BitVec.ofInt 32 (U y)).toNat:Int)=_
 rw[ofInt_U,ofInt_U,u32_wrap];exact congrArg U (ofInt_U _)
theorem U_xor (x y:W):bits .xor .u32 (U x) (U y)=U (x ^^^ y):=by
 show IntKind.u32.wrap ((BitVec.ofInt 32 (U x) ^^^ BitVec.ofInt 32 (U y)).toNat:Int)=_
 rw[ofInt_U,ofInt_U,u32_wrap];exact congrArg U (ofInt_U _)
theorem U_or (x y:W):bits .or .u32 (U x) (U y)=U (x ||| y):=by
 show IntKind.u32.wrap ((BitVec.ofInt 32 (U x) ||| BitVec.ofInt 32 (U y)).toNat:Int)=_
 rw[ofInt_U,ofInt_U,u32_wrap];exact congrArg U (ofInt_U _)
theorem U_or_int (x:W)(n:Int):bits .or .u32 (U x) n=U (x ||| BitVec.ofInt 32 n):=by
 show IntKind.u32.wrap ((BitVec.ofInt 32 (U x) ||| BitVec.ofInt 32 n).toNat:Int)=_
 rw[ofInt_U,u32_wrap];exact congrArg U (ofInt_U _)
theorem U_add (x y:W):(U x+U y) % (4294967296:Int)=U (x+y):=by
 rw[<-U_ofInt,BitVec.ofInt_add,ofInt_U,ofInt_U]
theorem U_shl (x:W)(k:Nat):(U x*(2:Int) ^ k) % (4294967296:Int)=U (x <<< k):=by
 unfold U;rw[BitVec.toNat_shiftLeft,Nat.shiftLeft_eq];simp
theorem U_shr (x:W)(k:Nat):U x / (2:Int) ^ k=U (x >>> k):=by
 unfold U;rw[BitVec.toNat_ushiftRight,Nat.shiftRight_eq_div_pow];simp
theorem U_shl8 (x:W):(U x*(256:Int)) % (4294967296:Int)=U (x <<< 8):=U_shl x 8
theorem U_shr3 (x:W):U x / (8:Int)=U (x >>> 3):=U_shr x 3
theorem U_shr10 (x:W):U x / (1024:Int)=U (x >>> 10):=U_shr x 10
theorem U_not (x:W):(4294967295:Int) - U x=U (~~~x):=by
 unfold U;rw[BitVec.toNat_not];have:=x.isLt;omega
theorem U_mod (n:Int):n % (4294967296:Int)=U (BitVec.ofInt 32 n):=(U_ofInt n).symm
theorem U_notmax (x:W):bits .xor .u32 IntKind.u32.max (U x)=U (~~~x):=by
 rw[show IntKind.u32.max=U (BitVec.allOnes 32) by decide,U_xor];congr 1
theorem U_not3 (x:W):bits .xor .u32 (if IntKind.u32.signed=true then -1 else IntKind.u32.max) (U x)=U (~~~x):=U_notmax x
theorem ret_int {k:IntKind} {a b:Int}(h:a=b):Ending.returned (.int k a)= .returned (.int k b):=by rw[h]
theorem rot (x:W)(n:Nat)(h:1<=n/\n<=31):(x <<< (32 - n) ||| x >>> n)=rotr x n:=by
 unfold rotr;rw[BitVec.rotateRight_def,Nat.mod_eq_of_lt (by omega),BitVec.or_comm]
def fillStep (zs:List Int)(l:List W)(i:Nat):List W:=l.set (i / 4) (l.getD (i / 4) 0 <<< 8 ||| BitVec.ofInt 32 (zs.getD i 0))
def fill (zs:List Int):Nat->List W
 | 0=>List.replicate 64 0
 | i+1=>fillStep zs (fill zs i) i
def small0 (x:W):W:=rotr x 7 ^^^ rotr x 18 ^^^ x >>> 3
def small1 (x:W):W:=rotr x 17 ^^^ rotr x 19 ^^^ x >>> 10
def extStep (l:List W)(k:Nat):List W:=l.set (k+16) (l.getD k 0+small0 (l.getD (k+1) 0)+l.getD (k+9) 0+small1 (l.getD (k+14) 0))
def ext (l:List W):Nat->List W
 | 0=>l
 | k+1=>extStep (ext l k) k
def wordsOf (zs:List Int):List W:=ext (fill zs 64) 48
theorem fill_length (zs:List Int)(i:Nat):(fill zs i).length=64:=by
 induction i with
 | zero=>simp[fill]
 | succ i ih=>simp[fill,fillStep,ih]
theorem fill_succ (zs:List Int)(k:Nat)(x:W)(n:Int)(hx:x=(fill zs k).getD (k / 4) 0)(hn:n=zs.getD k 0):
 (fill zs (k+1)).map v32=((fill zs k).map v32).set (k / 4) (v32 (x <<< 8 ||| BitVec.ofInt 32 n)):=by
 subst hx hn;simp[fill,fillStep,List.map_set]
theorem ext_succ (l:List W)(k:Nat)(x0 x1 x9 x14:W)(h0:x0=(ext l k).getD k 0)(h1:x1=(ext l k).getD (k+1) 0)(h9:x9=(ext l k).getD (k+9) 0)(h14:x14=(ext l k).getD (k+14) 0):
 (ext l (k+1)).map v32=((ext l k).map v32).set (k+16) (v32 (x0+small0 x1+x9+small1 x14)):=by
 subst h0 h1 h9 h14;simp[ext,extStep,List.map_set]
theorem ext_length (l:List W)(k:Nat):(ext l k).length=l.length:=by
 induction k with
 | zero=>rfl
 | succ i ih=>simp[ext,extStep,ih]
theorem wordsOf_eq (zs:List Int):wordsOf zs=ext (fill zs 64) 48:=rfl
def kList:List W:=[0x428a2f98#32,0x71374491#32,0xb5c0fbcf#32,0xe9b5dba5#32,0x3956c25b#32,0x59f111f1#32,0x923f82a4#32,0xab1c5ed5#32,0xd807aa98#32,0x12835b01#32,0x243185be#32,0x550c7dc3#32,0x72be5d74#32,0x80deb1fe#32,0x9bdc06a7#32,0xc19bf174#32,0xe49b69c1#32,0xefbe4786#32,0x0fc19dc6#32,0x240ca1cc#32,0x2de92c6f#32,0x4a7484aa#32,0x5cb0a9dc#32,0x76f988da#32,0x983e5152#32,0xa831c66d#32,0xb00327c8#32,0xbf597fc7#32,0xc6e00bf3#32,0xd5a79147#32,0x06ca6351#32,0x14292967#32,0x27b70a85#32,0x2e1b2138#32,0x4d2c6dfc#32,0x53380d13#32,0x650a7354#32,0x766a0abb#32,0x81c2c92e#32,0x92722c85#32,0xa2bfe8a1#32,0xa81a664b#32,0xc24b8b70#32,0xc76c51a3#32,0xd192e819#32,0xd6990624#32,0xf40e3585#32,0x106aa070#32,0x19a4c116#32,0x1e376c08#32,0x2748774c#32,0x34b0bcb5#32,0x391c0cb3#32,0x4ed8aa4a#32,0x5b9cca4f#32,0x682e6ff3#32,0x748f82ee#32,0x78a5636f#32,0x84c87814#32,0x8cc70208#32,0x90befffa#32,0xa4506ceb#32,0xbef9a3f7#32,0xc67178f2#32]
def first8:List W:=[0x6a09e667#32,0xbb67ae85#32,0x3c6ef372#32,0xa54ff53a#32,0x510e527f#32,0x9b05688c#32,0x1f83d9ab#32,0x5be0cd19#32]
structure R8 where
 a:W
 b:W
 c:W
 d:W
 e:W
 f:W
 g:W
 h:W
def R8.list (r:R8):List W:=[r.a,r.b,r.c,r.d,r.e,r.f,r.g,r.h]
def R8.get (s:List W):R8:=⟨s.getD 0 0,s.getD 1 0,s.getD 2 0,s.getD 3 0,s.getD 4 0,s.getD 5 0,s.getD 6 0,s.getD 7 0⟩
def pOf (r:R8)(k x:W):W:=r.h+(rotr r.e 6 ^^^ rotr r.e 11 ^^^ rotr r.e 25)+(r.e &&& r.f ^^^ ~~~r.e &&& r.g)+k+x
def qOf (r:R8):W:=(rotr r.a 2 ^^^ rotr r.a 13 ^^^ rotr r.a 22)+(r.a &&& r.b ^^^ r.a &&& r.c ^^^ r.b &&& r.c)
def round (r:R8)(k x:W):R8:=⟨pOf r k x+qOf r,r.a,r.b,r.c,r.d+pOf r k x,r.e,r.f,r.g⟩
def rounds (ks ws:List W)(r:R8):Nat->R8
 | 0=>r
 | t+1=>round (rounds ks ws r t) (ks.getD t 0) (ws.getD t 0)
def addStep (l r:List W)(i:Nat):List W:=l.set i (l.getD i 0+r.getD i 0)
def addUpto (l r:List W):Nat->List W
 | 0=>l
 | i+1=>addStep (addUpto l r i) r i
theorem addUpto_length (l r:List W)(i:Nat):(addUpto l r i).length=l.length:=by
 induction i with
 | zero=>rfl
 | succ i ih=>simp[addUpto,addStep,ih]
def behindOf (s ks:List W)(zs:List Int):List W:=addUpto s (rounds ks (wordsOf zs) (R8.get s) 64).list 8
theorem behindOf_eq (s ks:List W)(zs:List Int):behindOf s ks zs=addUpto s (rounds ks (wordsOf zs) (R8.get s) 64).list 8:=rfl
theorem behindOf_length (s ks:List W)(zs:List Int):(behindOf s ks zs).length=s.length:=by rw[behindOf,addUpto_length]
theorem wordsOf_length (zs:List Int):(wordsOf zs).length=64:=by rw[wordsOf_eq,ext_length,fill_length]
theorem eight (s:List W)(h:s.length=8):∃a b c d e f g h,s= [a,b,c,d,e,f,g,h]:=by
 match s,h with
 | [a,b,c,d,e,f,g,h],_=>exact⟨a,b,c,d,e,f,g,h,rfl⟩
theorem get_eight (a b c d e f g h:W):R8.get [a,b,c,d,e,f,g,h] = ⟨a,b,c,d,e,f,g,h⟩:=rfl
theorem rounds_zero (ks ws:List W)(r:R8):rounds ks ws r 0=r:=rfl
theorem rounds_succ (ks ws:List W)(r:R8)(t:Nat)(a b c d e f g h k x:W)(hr:rounds ks ws r t=⟨a,b,c,d,e,f,g,h⟩)(hk:k=ks.getD t 0)(hx:x=ws.getD t 0):
 rounds ks ws r (t+1)=⟨h+(rotr e 6 ^^^ rotr e 11 ^^^ rotr e 25)+(e &&& f ^^^ ~~~e &&& g)+k+x+((rotr a 2 ^^^ rotr a 13 ^^^ rotr a 22)+(a &&& b ^^^ a &&& c ^^^ b &&& c)),a,b,c,d+(h+(rotr e 6 ^^^ rotr e 11 ^^^ rotr e 25)+(e &&& f ^^^ ~~~e &&& g)+k+x),e,f,g⟩:=by
 subst hk hx;rw[rounds,hr];rfl
theorem addUpto_zero (l r:List W):addUpto l r 0=l:=rfl
theorem addUpto_succ (l r:List W)(i:Nat)(x y:W)(hx:x=(addUpto l r i).getD i 0)(hy:y=r.getD i 0):
 (addUpto l r (i+1)).map v32=((addUpto l r i).map v32).set i (v32 (x+y)):=by
 subst hx hy;simp[addUpto,addStep,List.map_set]
def part (zs:List Int)(i:Nat):List Int:=(zs.take ((i+1)*64)).drop (i*64)
def thru (s ks:List W)(zs:List Int):Nat->List W
 | 0=>s
 | i+1=>behindOf (thru s ks zs i) ks (part zs i)
theorem thru_zero (s ks:List W)(zs:List Int):thru s ks zs 0=s:=rfl
theorem thru_succ (s ks:List W)(zs:List Int)(i:Nat):thru s ks zs (i+1)=behindOf (thru s ks zs i) ks (part zs i):=rfl
theorem thru_length (s ks:List W)(zs:List Int)(i:Nat):(thru s ks zs i).length=s.length:=by
 induction i with
 | zero=>rfl
 | succ i ih=>rw[thru_succ,behindOf_length,ih]
theorem part_length (zs:List Int)(i:Nat)(h:(i+1)*64<=zs.length):(part zs i).length=64:=by simp[part];omega
theorem part_mem (zs:List Int)(i:Nat)(P:Int->Prop)(h:∀n∈zs,P n):∀n∈part zs i,P n:=fun n hn=>h n (List.mem_of_mem_take (List.mem_of_mem_drop hn))
theorem part_map (zs:List Int)(i:Nat)(f:Int->Value):((zs.map f).take ((i+1)*64)).drop (i*64)=(part zs i).map f:=by simp[part,List.map_take,List.map_drop]
attribute [irreducible] thru fill ext wordsOf rounds addUpto behindOf kList first8
end Sha
end
section
open Go.RowKit Sha
theorem kbyte_info:(Tryz.prog.info? 5).map (fun i=>(i.zero,i.size,i.bytes))=some (some (.int .u8 0),1,1):=by kernel_rfl
theorem kslice1:(Tryz.prog.info? 5).map (fun i=>i.size)=some 1:=by kernel_rfl
theorem kone8 (l:List Int):∀u∈l.map v8,u.oneCell'=true:=by simp[Value.oneCell']
theorem at_made (w:World)(cs:List Value)(t:TypeId):At (w.alloc (.cells cs.toArray t)) (some ⟨w.heap.size,0,none⟩) cs:=by
 refine Or.inr ⟨_,0,rfl,fun i v hi=>?_⟩
 rw[Nat.zero_add,(Blk.new w cs.toArray t).cell];exact hi
theorem run_conv_at {P:Program}(w:World)(src dst e:TypeId)(hs:P.underlying src=some (.slice e))(he:P.underlying e=some (.int .u8))(hd:P.underlying dst=some .string)(xs:List Int)(n:Nat)(p:Option Addr)(c:Nat)(hn:xs.length=n)(hA:At w p (xs.map v8)):
 (convert src dst (.slice p n c)).run P w= .ok (.string (strOfNums xs)) w:=by
 cases p with
 | none=>
    have h0:xs= []:=by
     rcases hA with h | ⟨b,off,h,_⟩
     ·simpa using h
     ·cases h
    subst h0 hn
    exact run_convert_bytes_nil w src e hs he _ c dst hd
 | some a=>
    by_cases h0:xs= []
    ·subst h0 hn
     rw[run_convert_bytes_string w src dst e _ _ c hs he hd,run_bytesToString w _ _ c [] (by simpa using run_loadCells_list (P:=P) w a [] (fun j v hj=>by simp at hj))]
     rfl
    ·obtain⟨b,off,ha,hc⟩:=hA.addr (by rw[List.length_map];exact List.length_pos_iff.2 h0)
     cases ha
     exact run_convert_bytes_arg w src e hs he b off n c xs hn (fun i hi=>hc i _ (by rw[List.getElem?_map,List.getElem?_eq_getElem (by omega),List.getD_eq_getElem?_getD,List.getElem?_eq_getElem (by omega)];rfl)) dst hd
theorem strOfNums_toList (xs:List Int):(strOfNums xs).toList=xs.map fun n=>UInt8.ofNat n.toNat:=by
 rw[ByteArray.toList_eq,strOfNums_data]
theorem strOfNums_inj (xs ys:List Int)(hx:∀n∈xs,0<=n/\n<=255)(hy:∀n∈ys,0<=n/\n<=255):((strOfNums xs).toList == (strOfNums ys).toList)=decide (xs=ys):=by
 rw[Bool.eq_iff_iff,beq_iff_eq,decide_eq_true_iff,strOfNums_toList,strOfNums_toList]
 constructor
 ·intro h
  apply List.ext_getElem
  ·simpa using congrArg List.length h
  ·intro i h1 h2
   have h3:=congrArg (·[i]?) h
   simp[h1,h2]at h3
   have h4:=congrArg UInt8.toNat h3
   have b1:=hx xs[i] (List.getElem_mem h1)
   have b2:=hy ys[i] (List.getElem_mem h2)
   simp at h4
   omega
 ·intro h;rw[h]
theorem same_any (xs ys:List Int)(n m:Nat)(p q:Option Addr)(c d:Nat)(w:World)(hn:xs.length=n)(hm:ys.length=m)(hx:At w p (xs.map v8))(hy:At w q (ys.map v8))(bx:∀n∈xs,0<=n/\n<=255)(by_:∀n∈ys,0<=n/\n<=255):
 Calls Tryz.prog 14 #[.slice p n c,.slice q m d] w fun e w'=>e= .returned (.bool (decide (xs=ys)))/\w=w':=by
 have h1:=run_conv_at (P:=Tryz.prog) w 26 9 5 Tryz.underlying26 Tryz.underlying5 Tryz.underlying9 xs n p c hn hx
 have h2:=run_conv_at (P:=Tryz.prog) w 26 9 5 Tryz.underlying26 Tryz.underlying5 Tryz.underlying9 ys m q d hm hy
 have HI:=Lib.hid (strOfNums_inj xs ys bx by_)
 clear hn hm hx hy bx by_
 go_enter Tryz.func14,Tryz.ntmps14
 go_wp2_with fail
 go_ret
 exact⟨congrArg (fun b=>Ending.returned (Value.bool b)) HI.out,rfl⟩
theorem At.front {w:World} {a:Option Addr} {xs ys:List Value}(h:At w a (xs++ys)):At w a xs:=by
 rcases h with h | ⟨b,off,ha,hc⟩
 ·exact Or.inl (List.append_eq_nil_iff.1 h).1
 ·exact Or.inr ⟨b,off,ha,fun i v hi=>hc i v (by rw[List.getElem?_append_left (by by_cases hl:i < xs.length;exact hl;rw[List.getElem?_eq_none (by omega)]at hi;cases hi)];exact hi)⟩
theorem At.back {w:World} {b off:Nat} {xs ys:List Value}(h:At w (some ⟨b,off,none⟩) (xs++ys)):At w (some ⟨b,off+xs.length,none⟩) ys:=by
 rcases h with h | ⟨b',off',ha,hc⟩
 ·exact Or.inl (List.append_eq_nil_iff.1 h).2
 ·cases ha
  exact Or.inr ⟨b,off+xs.length,rfl,fun i v hi=>by rw[Nat.add_assoc];exact hc _ v (by rw[List.getElem?_append_right (by omega),Nat.add_sub_cancel_left];exact hi)⟩
theorem same_true (xs:List Int)(n m:Nat)(p q:Option Addr)(c d:Nat)(w:World)(hn:xs.length=n)(hm:xs.length=m)(hx:At w p (xs.map v8))(hy:At w q (xs.map v8))(bx:∀n∈xs,0<=n/\n<=255):
 Calls Tryz.prog 14 #[.slice p n c,.slice q m d] w fun e w'=>e= .returned (.bool true)/\w=w':=
 (same_any xs xs n m p q c d w hn hm hx hy bx bx).mono fun _ _ ⟨he,hw⟩=>⟨by rw[he];simp,hw⟩
end
section
variable {P:Program}
theorem run_part_one {e:TypeId} {d:TypeDesc}(hue:P.underlying e=some d)(hna:(match d with | .struct _ | .array _ _=>true | _=>false)=false)(cs:Array Value)(i:Nat)(v:Value)(hv:cs[i]? = some v)(w:World):
 (part e cs i).run P w= .ok v w:=by
 have hagg:(isAgg e).run P w= .ok false w:=by
  unfold isAgg
  rw[Sem.run_bind,run_underlying hue w]
  cases d<;>simp_all
 simp[part,hagg,hv]
theorem run_eq_loop (w:World)(d:Nat)(e:TypeId)(k:IntKind)(hue:P.underlying e=some (.int k))(xs ys:List Int)(hl:xs.length=ys.length):
 ∀(m j:Nat),j+m=xs.length->
 (forIn (List.range' j m) ((none:Option Bool),()) fun i __s=>(do
         let a<-part e (xs.map (Value.int k)).toArray (i*1)
         let b<-part e (ys.map (Value.int k)).toArray (i*1)
         let r<-Op.equalIn (d+1) e a b
         if(!r)=true then pure (ForInStep.done (some false,()))else pure (ForInStep.yield (none,())):Sem (ForInStep (Option Bool×Unit)))).run P w
  = .ok (if xs.drop j=ys.drop j then((none:Option Bool),())else(some false,())) w
 | 0,j,h=>by
    have h1:xs.drop j= []:=by rw[List.drop_eq_nil_iff];omega
    have h2:ys.drop j= []:=by rw[List.drop_eq_nil_iff];omega
    simp[h1,h2,Sem.run_pure]
 | m+1,j,h=>by
    have hjx:j < xs.length:=by omega
    have hjy:j < ys.length:=by omega
    have hx:(xs.map (Value.int k)).toArray[j]? = some (.int k xs[j]):=by simp[hjx]
    have hy:(ys.map (Value.int k)).toArray[j]? = some (.int k ys[j]):=by simp[hjy]
    have ih:=run_eq_loop w d e k hue xs ys hl m (j+1) (by omega)
    have dx:xs.drop j=xs[j]::xs.drop (j+1):=List.drop_eq_getElem_cons hjx
    have dy:ys.drop j=ys[j]::ys.drop (j+1):=List.drop_eq_getElem_cons hjy
    rw[List.range'_succ,List.forIn_cons]
    simp only[Sem.run_bind,Nat.mul_one,run_part_one hue rfl _ _ _ hx,run_part_one hue rfl _ _ _ hy,run_equalIn_int (P:=P) w d e k k _ _ hue,Result.andThen_ok]
    by_cases hb:xs[j] = ys[j]
    ·simp only[hb,beq_self_eq_true,Bool.not_true,Bool.false_eq_true,if_false,Sem.run_pure,Result.andThen_ok]
     simp only[Nat.mul_one]at ih
     have hiff:(xs.drop j=ys.drop j)=(xs.drop (j+1)=ys.drop (j+1)):=by
      rw[dx,dy,hb];exact propext ⟨fun h=>(List.cons.inj h).2,fun h=>by rw[h]⟩
     rw[ih];simp only[hiff]
    ·have hb2:(xs[j] == ys[j])=false:=by simpa using hb
     simp only[hb2,Bool.not_false,if_true,Sem.run_pure,Result.andThen_ok]
     have hne:¬xs.drop j=ys.drop j:=by rw[dx,dy];intro h;exact hb (List.cons.inj h).1
     rw[if_neg hne]
theorem run_equalIn_arr (w:World)(d:Nat)(t e:TypeId)(n:Nat)(k:IntKind)(hu:P.underlying t=some (.array n e))(hue:P.underlying e=some (.int k))(he:(P.info? e).map (fun i=>i.size)=some 1)
 (xs ys:List Int) (hx:xs.length=n) (hy:ys.length=n):
 (Op.equalIn (d+2) t (.agg (xs.map (Value.int k)).toArray) (.agg (ys.map (Value.int k)).toArray)).run P w= .ok (decide (xs=ys)) w:=by
 have h2:(sizeOf e).run P w= .ok 1 w:=by
  cases hq:P.info? e with
  | none=>simp[hq]at he
  | some j=>simp[hq]at he;simp[sizeOf,typeInfo,hq,he]
 rw[Op.equalIn]
 simp only[Sem.run_bind,run_underlying hu,Result.andThen_ok,h2]
 rw[Std.Legacy.Range.forIn_eq_forIn_range']
 have:=run_eq_loop w d e k hue xs ys (by omega) n 0 (by omega)
 simp only[Std.Legacy.Range.size,Nat.sub_zero,Nat.add_sub_cancel,Nat.div_one]at this ⊢
 rw[this]
 simp only[List.drop_zero,Result.andThen_ok]
 by_cases h:xs=ys
 ·simp[h,Sem.run_pure]
 ·simp[h,Sem.run_pure]
theorem run_eql_arr (w:World)(x y:Operand)(t e:TypeId)(n:Nat)(k:IntKind)(hu:P.underlying t=some (.array n e))(hue:P.underlying e=some (.int k))(he:(P.info? e).map (fun i=>i.size)=some 1)
 (xs ys:List Int) (hx:xs.length=n) (hy:ys.length=n):
 (do eqGuard .eql t x y (.agg (xs.map (Value.int k)).toArray) (.agg (ys.map (Value.int k)).toArray);binOp .eql t (.agg (xs.map (Value.int k)).toArray) (.agg (ys.map (Value.int k)).toArray):Sem Value).run P w= .ok (.bool (decide (xs=ys))) w:=by
 have hg:P.eqGuardType P.depth t=false:=by
  unfold Program.depth
  simp[Program.eqGuardType,hu,hue]
 have hq:(Op.equal t (.agg (xs.map (Value.int k)).toArray) (.agg (ys.map (Value.int k)).toArray)).run P w= .ok (decide (xs=ys)) w:=
  run_equalIn_arr w 9998 t e n k hu hue he xs ys hx hy
 simp[eqGuard,binOp,hg,hq,Sem.run_pure]
theorem run_neq_arr (w:World)(x y:Operand)(t e:TypeId)(n:Nat)(k:IntKind)(hu:P.underlying t=some (.array n e))(hue:P.underlying e=some (.int k))(he:(P.info? e).map (fun i=>i.size)=some 1)
 (xs ys:List Int) (hx:xs.length=n) (hy:ys.length=n):
 (do eqGuard .neq t x y (.agg (xs.map (Value.int k)).toArray) (.agg (ys.map (Value.int k)).toArray);binOp .neq t (.agg (xs.map (Value.int k)).toArray) (.agg (ys.map (Value.int k)).toArray):Sem Value).run P w= .ok (.bool (!decide (xs=ys))) w:=by
 have hg:P.eqGuardType P.depth t=false:=by
  unfold Program.depth
  simp[Program.eqGuardType,hu,hue]
 have hq:(Op.equal t (.agg (xs.map (Value.int k)).toArray) (.agg (ys.map (Value.int k)).toArray)).run P w= .ok (decide (xs=ys)) w:=
  run_equalIn_arr w 9998 t e n k hu hue he xs ys hx hy
 simp[eqGuard,binOp,hg,hq,Sem.run_pure]
section
variable {ops:Array Oper} {rest:List Oper} {o:Oper} {a:Act} {w:World} {Q:Exit->Act->World->Prop} {C:World->Prop} {K:Act->Prop}
theorem wpList_eql_arr (hgd:o.guard=none)(t:TypeId)(x y:Operand)(r:TypeId)(ho:o.op= .binOp .eql t x y r)(e:TypeId)(n:Nat)(k:IntKind)(hu:P.underlying t=some (.array n e))(hue:P.underlying e=some (.int k))(he:(P.info? e).map (fun i=>i.size)=some 1)
 (xs ys:List Int) (hx:a.eval x= .agg (xs.map (Value.int k)).toArray) (hy:a.eval y= .agg (ys.map (Value.int k)).toArray) (hxl:xs.length=n) (hyl:ys.length=n)
 (h:wpList P ops Q rest (a.put o.dst (.bool (decide (xs=ys)))) w):wpList P ops Q (o::rest) a w:=by
 refine wpList_plain hgd fun K hK=>?_
 unfold Oper.wp execOp
 have hr:=run_eql_arr (P:=P) w x y t e n k hu hue he xs ys hxl hyl
 simp only[ho,hx,hy]
 rw[Sem.run_bind,hr]
 simp only[Result.andThen_ok,Sem.run_pure]
 exact hK _ _ h
theorem wp_eql_arr {K:Act->World->Prop}(t:TypeId)(x y:Operand)(r:TypeId)(ho:o.op= .binOp .eql t x y r)(e:TypeId)(n:Nat)(k:IntKind)(hu:P.underlying t=some (.array n e))(hue:P.underlying e=some (.int k))(he:(P.info? e).map (fun i=>i.size)=some 1)
 (xs ys:List Int) (hx:a.eval x= .agg (xs.map (Value.int k)).toArray) (hy:a.eval y= .agg (ys.map (Value.int k)).toArray) (hxl:xs.length=n) (hyl:ys.length=n)
 (h:K (a.put o.dst (.bool (decide (xs=ys)))) w):o.wp P a w K Q:=by
 unfold Oper.wp execOp
 have hr:=run_eql_arr (P:=P) w x y t e n k hu hue he xs ys hxl hyl
 simp only[ho,hx,hy]
 rw[Sem.run_bind,hr]
 simp only[Result.andThen_ok,Sem.run_pure]
 exact h
end
end
section
open Go.RowKit Sha
variable {P:Program}
open Fld (Itm)
def icells (x:Itm)(q:Option Addr)(c:Nat):List Value:=.int .i64 x.N::.slice q x.B.length c::x.D.map v8
theorem icells_0 (x:Itm)(q:Option Addr)(c:Nat):(icells x q c)[0]? = some (.int .i64 x.N):=rfl
theorem icells_1 (x:Itm)(q:Option Addr)(c:Nat):(icells x q c)[1]? = some (.slice q x.B.length c):=rfl
theorem icells_2 (x:Itm)(q:Option Addr)(c:Nat)(j:Nat):(icells x q c)[2+j]? = (x.D.map v8)[j]?:=by
 unfold icells;rw[Nat.add_comm,List.getElem?_cons_succ,List.getElem?_cons_succ]
theorem icells_length {x:Itm}(h:x.ok)(q:Option Addr)(c:Nat):(icells x q c).length=34:=by
 unfold icells;simp[h.len]
theorem icells_one (x:Itm)(q:Option Addr)(c:Nat):∀v∈icells x q c,v.oneCell'=true:=by
 unfold icells
 intro v hv
 rcases List.mem_cons.1 hv with rfl | hv
 ·simp[Value.oneCell']
 ·rcases List.mem_cons.1 hv with rfl | hv
  ·simp[Value.oneCell']
  ·obtain⟨n,_,rfl⟩:=List.mem_map.1 hv
   simp[Value.oneCell']
attribute [irreducible] icells
abbrev Hdr:=Itm×Option Addr×Nat
def cellsI (y:Hdr):List Value:=icells y.1 y.2.1 y.2.2
structure GoodI (w:World)(x:Itm)(q:Option Addr)(c:Nat):Prop where
 ok:x.ok
 at_:At w q (x.B.map v8)
 le:x.B.length<=c
 max:c<=9223372036854775807
 nil:q=none->c=0
theorem GoodI.below {w w':World} {x:Itm} {q:Option Addr} {c:Nat}(h:GoodI w x q c)(hb:Below w.heap.size w w'):GoodI w' x q c:=⟨h.ok,h.at_.below hb,h.le,h.max,h.nil⟩
def ItemsAt (w:World)(p:Option Addr)(xs:List Itm):Prop:=∃ys:List Hdr,ys.map (·.1)=xs/\At w p (ys.flatMap cellsI)/\∀y∈ys,GoodI w y.1 y.2.1 y.2.2
theorem ItemsAt.below {w w':World} {p:Option Addr} {xs:List Itm}(h:ItemsAt w p xs)(hb:Below w.heap.size w w'):ItemsAt w' p xs:=by
 obtain⟨ys,h1,h2,h3⟩:=h
 exact⟨ys,h1,h2.below hb,fun y hy=>(h3 y hy).below hb⟩
theorem ItemsAt.nil (w:World)(p:Option Addr):ItemsAt w p []:=⟨[],rfl,At.nil _ _,by simp⟩
theorem ItemsAt.ok {w:World} {p:Option Addr} {xs:List Itm}(h:ItemsAt w p xs):∀x∈xs,x.ok:=by
 obtain⟨ys,rfl,_,h3⟩:=h
 intro x hx
 obtain⟨y,hy,rfl⟩:=List.mem_map.1 hx
 exact(h3 y hy).ok
theorem flat_length (ys:List Hdr)(h:∀y∈ys,y.1.ok):(ys.flatMap cellsI).length=ys.length*34:=by
 induction ys with
 | nil=>rfl
 | cons y ys ih=>
    rw[List.flatMap_cons,List.length_append,ih (fun y hy=>h y (List.mem_cons_of_mem _ hy)),List.length_cons]
    unfold cellsI
    rw[icells_length (h y (List.mem_cons_self ..))]
    omega
theorem flat_get (ys:List Hdr)(h:∀y∈ys,y.1.ok)(i:Nat)(hi:i < ys.length)(j:Nat)(v:Value)(hv:(cellsI ys[i])[j]? = some v):(ys.flatMap cellsI)[i*34+j]? = some v:=by
 induction ys generalizing i with
 | nil=>simp at hi
 | cons y ys ih=>
    have hl:(cellsI y).length=34:=icells_length (h y (List.mem_cons_self ..)) _ _
    rw[List.flatMap_cons]
    cases i with
    | zero=>
       simp at hv
       rw[Nat.zero_mul,Nat.zero_add,List.getElem?_append_left (List.getElem?_eq_some_iff.1 hv).1]
       exact hv
    | succ i=>
       simp at hv
       rw[List.getElem?_append_right (by omega),show(i+1)*34+j - (cellsI y).length=i*34+j by rw[hl];omega]
       exact ih (fun y hy=>h y (List.mem_cons_of_mem _ hy)) i (by simpa using hi) hv
theorem ItemsAt.get {w:World} {p:Option Addr} {xs:List Itm}(h:ItemsAt w p xs)(i:Nat)(hi:i < xs.length):
 ∃b off q c,p=some ⟨b,off,none⟩/\w.rangeAt b (off+i*34) (icells xs[i] q c)/\GoodI w xs[i] q c:=by
 obtain⟨ys,rfl,h2,h3⟩:=h
 rw[List.length_map]at hi
 have hok:∀y∈ys,y.1.ok:=fun y hy=>(h3 y hy).ok
 obtain⟨b,off,rfl,hc⟩:=h2.addr (by rw[flat_length ys hok];omega)
 refine⟨b,off,(ys[i]).2.1,(ys[i]).2.2,rfl,fun j v hv=>?_,?_⟩
 ·rw[Nat.add_assoc]
  exact hc _ v (flat_get ys hok i hi j v (by simpa[cellsI]using hv))
 ·simpa using h3 ys[i] (List.getElem_mem hi)
theorem ItemsAt.tail {w:World} {p:Option Addr} {x:Itm} {xs:List Itm}(h:ItemsAt w p (x::xs))(cap:Nat)(hc:xs.length+1<=cap):ItemsAt w (if cap=1 then p else p.map (·.add 34)) xs:=by
 obtain⟨ys,h1,h2,h3⟩:=h
 cases ys with
 | nil=>simp at h1
 | cons y ys=>
    simp only[List.map_cons,List.cons.injEq]at h1
    obtain⟨rfl,rfl⟩:=h1
    refine⟨ys,rfl,?_,fun z hz=>h3 z (List.mem_cons_of_mem _ hz)⟩
    by_cases e:cap=1
    ·have:ys= []:=List.eq_nil_of_length_eq_zero (by simp at hc;omega)
     subst this
     exact At.nil _ _
    ·rw[if_neg e]
     have hl:(cellsI y).length=34:=icells_length (h3 y (List.mem_cons_self ..)).ok _ _
     obtain⟨b,off,rfl,hcell⟩:=h2.addr (by rw[List.flatMap_cons,List.length_append,hl];omega)
     have:=At.back (w:=w) (b:=b) (off:=off) (xs:=cellsI y) (ys:=ys.flatMap cellsI) (Or.inr ⟨b,off,rfl,by simpa[List.flatMap_cons]using hcell⟩)
     rw[hl]at this
     simpa[Addr.add_mid]using this
theorem rangeAt_id {w:World} {b o:Nat} {x:Itm} {q:Option Addr} {c:Nat}(h:w.rangeAt b o (icells x q c)):w.rangeAt b (o+2) (x.D.map v8):=fun j v hv=>by
 rw[Nat.add_assoc];exact h _ v (by rw[icells_2];exact hv)
theorem Blk.rangeId {w:World} {g:Nat} {x:Itm} {q:Option Addr} {c:Nat} {t:TypeId}(h:Blk w g (icells x q c) t):w.rangeAt g 2 (x.D.map v8):=by
 have:=rangeAt_id (o:=0) h.range
 rwa [Nat.zero_add]at this
structure Told (w:World)(p:Option Addr)(n c:Nat)(l:List Itm):Prop where
 len:n=l.length
 le:n<=c
 max:c<=9223372036854775807
 nil:p=none->c=0
 items:ItemsAt w p l
theorem Told.below {w w':World} {p:Option Addr} {n c:Nat} {l:List Itm}(h:Told w p n c l)(hb:Below w.heap.size w w'):Told w' p n c l:=⟨h.len,h.le,h.max,h.nil,h.items.below hb⟩
theorem Told.none_ (w:World):Told w none 0 0 []:=⟨rfl,by omega,by omega,fun _=>rfl,ItemsAt.nil _ _⟩
theorem setCells_heap (b:Nat):∀(vs:List Value)(o:Nat)(w:World)(i:Nat),i≠b->(w.setCells b o vs).heap[i]? = w.heap[i]?
 | [],_,_,_,_=>rfl
 | v::r,o,w,i,h=>by
    rw[World.setCells,setCells_heap b r (o+1) _ i h]
    exact Below.heap_setCell w ⟨b,o,none⟩ v i h
theorem setCells_below {B b:Nat} {a:World}(hb:B<=b):∀(vs:List Value)(o:Nat)(w:World),Below B a w->Below B a (w.setCells b o vs)
 | [],_,_,h=>h
 | v::r,o,w,h=>by rw[World.setCells];exact setCells_below hb r (o+1) _ (h.setCell hb v)
theorem Blk.setCells {g:Nat} {t:TypeId}:∀(vs:List Value)(o:Nat)(w:World)(pre mid post:List Value),Blk w g (pre++mid++post) t->pre.length=o->mid.length=vs.length->Blk (w.setCells g o vs) g (pre++vs++post) t
 | [],o,w,pre,mid,post,h,_,hm=>by
    have:mid= []:=List.eq_nil_of_length_eq_zero hm
    subst this;exact h
 | v::r,o,w,pre,mid,post,h,ho,hm=>by
    cases mid with
    | nil=>simp at hm
    | cons m mid=>
       rw[World.setCells]
       have h1:=h.set o v
       have e:(pre++(m::mid)++post).set o v=(pre++[v])++mid++post:=by
        subst ho;simp
       rw[e]at h1
       have:=Blk.setCells r (o+1) _ (pre++[v]) mid post h1 (by simp[ho]) (by simpa using hm)
       simpa using this
theorem Blk.there {w:World} {g:Nat} {cs:List Value} {t:TypeId}(h:Blk w g cs t)(o n:Nat)(hn:o+n<=cs.length):w.there g o n:=fun j hj=>
 ⟨by rw[h.cell,List.getElem?_eq_getElem (by omega)];rfl,h.free _⟩
theorem icells_set2 {x:Itm}(q:Option Addr)(c:Nat)(t:TypeId) {w:World} {g:Nat}(h:Blk w g (icells x q c) t)(D':List Int)(hl:D'.length=x.D.length):Blk (w.setCells g 2 (D'.map v8)) g (icells ⟨x.N,x.B,D'⟩ q c) t:=by
 have e:∀(x:Itm),icells x q c= [.int .i64 x.N,.slice q x.B.length c]++x.D.map v8++[]:=fun x=>by unfold icells;simp
 rw[e]at h ⊢
 exact Blk.setCells (D'.map v8) 2 w _ (x.D.map v8) [] h rfl (by simp[hl])
theorem icells_set1 (x:Itm)(q:Option Addr)(c:Nat)(B':List Int)(q':Option Addr)(c':Nat):(icells x q c).set 1 (.slice q' B'.length c')=icells ⟨x.N,B',x.D⟩ q' c':=by unfold icells;rfl
theorem icells_set0 (x:Itm)(q:Option Addr)(c:Nat)(n:Int):(icells x q c).set 0 (.int .i64 n)=icells ⟨n,x.B,x.D⟩ q c:=by unfold icells;rfl
section
variable {ops:Array Oper} {rest:List Oper} {o:Oper} {a:Act} {w:World} {Q:Exit->Act->World->Prop}
theorem wpList_box_new (hgd:o.guard=none)(ty:TypeId)(x:Operand)(ho:o.op= .box ty x)(cs:List Value)(hx:a.eval x= .agg cs.toArray)
 (h:∀w' g,Blk w' g cs ty->Below w.heap.size w w'->w.heap.size<=g->wpList P ops Q rest (a.put o.dst (.pointer (some ⟨g,0,none⟩))) w'):wpList P ops Q (o::rest) a w:=
 wpList_box_arr hgd ty x ho cs.toArray hx (h _ _ (by simpa using Blk.new w cs.toArray ty) ((Below.refl _ _).alloc (Nat.le_refl _) _) (Nat.le_refl _))
end
theorem wp_build' {o:Oper} {a:Act} {w:World} {K:Act->World->Prop} {Q:Exit->Act->World->Prop}(t:TypeId)(parts:Array (Nat×Operand))(ho:o.op= .build t parts)(cs:Array Value)
 (hf:P.built t (parts.map fun(i,x)=>(i,a.eval x)).toList=some cs) (h:K (a.put o.dst (.agg cs)) w):o.wp P a w K Q:=
 wp_build t parts ho (by rw[hf];rfl) (by rw[hf];exact h)
theorem wpList_slice_run {ops:Array Oper} {rest:List Oper} {o:Oper} {a:Act} {w:World} {Q:Exit->Act->World->Prop}(hgd:o.guard=none)(t:TypeId)(x:Operand)(lo hi:Option Operand)(ho:o.op= .slice t x lo hi none)(V:Value)
 (hr:(Instr.sliceAt t (a.eval x) (lo.map a.eval) (hi.map a.eval) none).run P w= .ok V w) (h:wpList P ops Q rest (a.put o.dst V) w):wpList P ops Q (o::rest) a w:=by
 refine wpList_plain hgd fun K hK=>?_
 unfold Oper.wp execOp
 simp only[ho,Option.map_none,Sem.run_bind,hr,Result.andThen_ok,Sem.run_pure]
 exact hK _ _ h
theorem size_of {e:TypeId} {s:Nat}(he:(P.info? e).map (fun i=>i.size)=some s)(w:World):(sizeOf e).run P w= .ok s w:=by
 cases hq:P.info? e with
 | none=>simp[hq]at he
 | some j=>simp[hq]at he;simp[sizeOf,typeInfo,hq,he]
theorem run_cut1 {t e:TypeId} {s:Nat}(hu:P.underlying t=some (.slice e))(he:(P.info? e).map (fun i=>i.size)=some s)(p:Option Addr)(len cap:Nat)(h1:1<=len)(w:World):
 (Instr.sliceAt t (.slice p len cap) (some (.int .i64 1)) none none).run P w= .ok (.slice (if cap=1 then p else p.map (·.add s)) (len - 1) (cap - 1)) w:=by
 have hu':P.underlying t=some (.slice (P.elem t)):=by rw[elem_of hu];exact hu
 rw[run_sliceAt_slice w t _ _ _ _ hu',run_slice_l w t p len cap hu' .i64 1 (by omega) (by omega),elem_of hu,size_of he]
 simp[Result.andThen,sliced]
theorem item_info:(Tryz.prog.info? 83).map (fun i=>i.zero)=some (some (.agg (icells ⟨0,[],Fld.zero32⟩ none 0).toArray)):=by unfold icells;kernel_rfl
theorem item_size:(Tryz.prog.info? 83).map (fun i=>i.size)=some 34:=by kernel_rfl
theorem id_size:(Tryz.prog.info? 25).map (fun i=>i.size)=some 32:=by kernel_rfl
theorem id_zero:Tryz.prog.built 25 [] = some (Fld.zero32.map v8).toArray:=by kernel_rfl
theorem v8_one (l:List Int):(l.map v8).toArray.all (·.oneCell')=true:=by simp[Value.oneCell']
end
section
open Go.RowKit Sha
variable {P:Program}
structure Shp (V:Type) where
 n:Nat
 byt:V->List Int
 cells:V->Option Addr->Nat->List Value
 ok:V->Prop
 pos:0 < n
 len:∀{x} q c,ok x->(cells x q c).length=n
 one:∀x q c,∀v∈cells x q c,v.oneCell'=true
 byte:∀{x},ok x->∀m∈byt x,0<=m/\m<=255
section
variable {V:Type} (S:Shp V)
abbrev Hd (V:Type):=V×Option Addr×Nat
def Shp.row (y:Hd V):List Value:=S.cells y.1 y.2.1 y.2.2
structure Shp.Good (w:World)(x:V)(q:Option Addr)(c:Nat):Prop where
 ok:S.ok x
 at_:At w q ((S.byt x).map v8)
 le:(S.byt x).length<=c
 max:c<=9223372036854775807
 nil:q=none->c=0
variable {S}
theorem Shp.Good.carry {w w':World} {x:V} {q:Option Addr} {c:Nat}(h:S.Good w x q c)(hc:∀p v,w.cell? p=some v->w'.cell? p=some v):S.Good w' x q c:=⟨h.ok,h.at_.carry hc,h.le,h.max,h.nil⟩
theorem Shp.Good.below {w w':World} {x:V} {q:Option Addr} {c:Nat}(h:S.Good w x q c)(hb:Below w.heap.size w w'):S.Good w' x q c:=⟨h.ok,h.at_.below hb,h.le,h.max,h.nil⟩
variable (S)
def Shp.At (w:World)(p:Option Addr)(xs:List V):Prop:=∃ys:List (Hd V),ys.map (·.1)=xs/\Go.Proofs.YtokpabkcaofahaaGreat.At w p (ys.flatMap S.row)/\∀y∈ys,S.Good w y.1 y.2.1 y.2.2
structure Shp.Told (w:World)(p:Option Addr)(n c:Nat)(l:List V):Prop where
 len:n=l.length
 le:n<=c
 max:c<=9223372036854775807
 nil:p=none->c=0
 rows:S.At w p l
variable {S}
theorem Shp.At.below {w w':World} {p:Option Addr} {xs:List V}(h:S.At w p xs)(hb:Below w.heap.size w w'):S.At w' p xs:=by
 obtain⟨ys,h1,h2,h3⟩:=h
 exact⟨ys,h1,h2.below hb,fun y hy=>(h3 y hy).below hb⟩
theorem Shp.At.none_ (w:World)(p:Option Addr):S.At w p []:=⟨[],rfl,Go.Proofs.YtokpabkcaofahaaGreat.At.nil _ _,by simp⟩
theorem Shp.flat_length (ys:List (Hd V))(h:∀y∈ys,S.ok y.1):(ys.flatMap S.row).length=ys.length*S.n:=by
 induction ys with
 | nil=>simp
 | cons y ys ih=>
    rw[List.flatMap_cons,List.length_append,ih (fun y hy=>h y (List.mem_cons_of_mem _ hy)),List.length_cons]
    unfold Shp.row
    rw[S.len _ _ (h y (List.mem_cons_self ..)),Nat.succ_mul];omega
theorem Shp.flat_get (ys:List (Hd V))(h:∀y∈ys,S.ok y.1)(i:Nat)(hi:i < ys.length)(j:Nat)(v:Value)(hv:(S.row ys[i])[j]? = some v):(ys.flatMap S.row)[i*S.n+j]? = some v:=by
 induction ys generalizing i with
 | nil=>simp at hi
 | cons y ys ih=>
    have hl:(S.row y).length=S.n:=S.len _ _ (h y (List.mem_cons_self ..))
    rw[List.flatMap_cons]
    cases i with
    | zero=>
       simp at hv
       rw[Nat.zero_mul,Nat.zero_add,List.getElem?_append_left (List.getElem?_eq_some_iff.1 hv).1]
       exact hv
    | succ i=>
       simp at hv
       rw[List.getElem?_append_right (by rw[hl,Nat.succ_mul];omega),show(i+1)*S.n+j - (S.row y).length=i*S.n+j by rw[hl,Nat.succ_mul];omega]
       exact ih (fun y hy=>h y (List.mem_cons_of_mem _ hy)) i (by simpa using hi) hv
theorem flat_mul {ys:List (Hd V)}(S:Shp V)(h:0 < ys.length):0 < ys.length*S.n:=Nat.mul_pos h S.pos
theorem Shp.At.get {w:World} {p:Option Addr} {xs:List V}(h:S.At w p xs)(i:Nat)(hi:i < xs.length):
 ∃b off q c,p=some ⟨b,off,none⟩/\w.rangeAt b (off+i*S.n) (S.cells xs[i] q c)/\S.Good w xs[i] q c:=by
 obtain⟨ys,rfl,h2,h3⟩:=h
 rw[List.length_map]at hi
 have hok:∀y∈ys,S.ok y.1:=fun y hy=>(h3 y hy).ok
 obtain⟨b,off,rfl,hc⟩:=h2.addr (by rw[Shp.flat_length ys hok];exact flat_mul S (by omega))
 refine⟨b,off,(ys[i]).2.1,(ys[i]).2.2,rfl,fun j v hv=>?_,?_⟩
 ·rw[Nat.add_assoc]
  exact hc _ v (Shp.flat_get ys hok i hi j v (by simpa[Shp.row]using hv))
 ·simpa using h3 ys[i] (List.getElem_mem hi)
theorem Shp.Told.below {w w':World} {p:Option Addr} {n c:Nat} {l:List V}(h:S.Told w p n c l)(hb:Below w.heap.size w w'):S.Told w' p n c l:=⟨h.len,h.le,h.max,h.nil,h.rows.below hb⟩
variable (S)
structure Shp.Own (w:World)(B:Nat)(t:TypeId)(v:Value)(ys:List (Hd V)):Prop where
 own:w.ownsRow B t S.n v ys.length (ys.flatMap S.row)
 good:∀y∈ys,S.Good w y.1 y.2.1 y.2.2
variable {S}
theorem Shp.Own.told {w:World} {B:Nat} {t:TypeId} {v:Value} {ys:List (Hd V)}(h:S.Own w B t v ys) {xs:List V}(hx:ys.map (·.1)=xs):∃q c',v= .slice q xs.length c'/\S.Told w q xs.length c' xs:=by
 have hl:ys.length=xs.length:=by rw[<-hx,List.length_map]
 have ho:=h.own
 rw[hl]at ho
 have hi:∀q,Go.Proofs.YtokpabkcaofahaaGreat.At w q (ys.flatMap S.row)->S.At w q xs:=fun q hA=>⟨ys,hx,hA,h.good⟩
 rcases ho.2 with⟨hv,h0⟩ | ⟨g,cap,cur,hv,hg,hh,h1,h2,h3,h4⟩
 ·refine⟨none,0,by rw[hv,h0],rfl,by omega,by omega,fun _=>rfl,hi none (Or.inl ?_)⟩
  have:=ho.1
  rw[h0]at this
  exact List.eq_nil_of_length_eq_zero (by simpa using this)
 ·refine⟨_,cap,hv,rfl,h1,by unfold maxLen at h2;omega,(fun h=>by cases h),hi _ (Or.inr ⟨g,0,rfl,fun i u hu=>?_⟩)⟩
  have:=ho.cells (g:=g) (by rw[hv];rfl) i u hu
  rwa [Addr.add_mid]at this
theorem Shp.flat_one (ys:List (Hd V)):∀v∈ys.flatMap S.row,v.oneCell'=true:=by
 intro v hv
 obtain⟨y,_,hv⟩:=List.mem_flatMap.1 hv
 exact S.one _ _ _ v hv
theorem Shp.Told.rows' {w:World} {p:Option Addr} {n c:Nat} {l:List V}(h:S.Told w p n c l):∃ys:List (Hd V),ys.map (·.1)=l/\ys.length=n/\Go.Proofs.YtokpabkcaofahaaGreat.At w p (ys.flatMap S.row)/\(∀y∈ys,S.Good w y.1 y.2.1 y.2.2)/\(ys.flatMap S.row).length=n*S.n:=by
 obtain⟨ys,h1,h2,h3⟩:=h.rows
 have hl:ys.length=n:=by rw[h.len,<-h1,List.length_map]
 exact⟨ys,h1,hl,h2,h3,by rw[Shp.flat_length ys (fun y hy=>(h3 y hy).ok),hl]⟩
end
end
end Go.Proofs.YtokpabkcaofahaaGreat
