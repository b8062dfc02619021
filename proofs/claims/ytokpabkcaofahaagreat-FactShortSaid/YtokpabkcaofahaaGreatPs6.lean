/-
  What stands under factShort_holds: part 6.
-/
import Derived.Test.YtokpabkcaofahaaGreatPs4
import Derived.Test.YtokpabkcaofahaaGreatPs5
import Derived.Deep.WholeRow
import Derived.Test.YtokpabkcaofahaaGreatPs3
import Derived.Laws.StructEq
namespace Go.Proofs.YtokpabkcaofahaaGreat
set_option linter.unusedSimpArgs false
set_option linter.unusedVariables false
set_option maxRecDepth 100000
set_option maxHeartbeats 20000000
section
open Go.RowKit Sha Fct
theorem len32 {α:Type}(l:List α)(h:l.length=32):∃a0 a1 a2 a3 a4 a5 a6 a7 a8 a9 a10 a11 a12 a13 a14 a15 a16 a17 a18 a19 a20 a21 a22 a23 a24 a25 a26 a27 a28 a29 a30 a31,l= [a0,a1,a2,a3,a4,a5,a6,a7,a8,a9,a10,a11,a12,a13,a14,a15,a16,a17,a18,a19,a20,a21,a22,a23,a24,a25,a26,a27,a28,a29,a30,a31]:=by
 obtain⟨a0,l,rfl⟩:=List.exists_cons_of_length_eq_add_one h
 replace h:=Nat.succ.inj h
 obtain⟨a1,l,rfl⟩:=List.exists_cons_of_length_eq_add_one h
 replace h:=Nat.succ.inj h
 obtain⟨a2,l,rfl⟩:=List.exists_cons_of_length_eq_add_one h
 replace h:=Nat.succ.inj h
 obtain⟨a3,l,rfl⟩:=List.exists_cons_of_length_eq_add_one h
 replace h:=Nat.succ.inj h
 obtain⟨a4,l,rfl⟩:=List.exists_cons_of_length_eq_add_one h
 replace h:=Nat.succ.inj h
 obtain⟨a5,l,rfl⟩:=List.exists_cons_of_length_eq_add_one h
 replace h:=Nat.succ.inj h
 obtain⟨a6,l,rfl⟩:=List.exists_cons_of_length_eq_add_one h
 replace h:=Nat.succ.inj h
 obtain⟨a7,l,rfl⟩:=List.exists_cons_of_length_eq_add_one h
 replace h:=Nat.succ.inj h
 obtain⟨a8,l,rfl⟩:=List.exists_cons_of_length_eq_add_one h
 replace h:=Nat.succ.inj h
 obtain⟨a9,l,rfl⟩:=List.exists_cons_of_length_eq_add_one h
 replace h:=Nat.succ.inj h
 obtain⟨a10,l,rfl⟩:=List.exists_cons_of_length_eq_add_one h
 replace h:=Nat.succ.inj h
 obtain⟨a11,l,rfl⟩:=List.exists_cons_of_length_eq_add_one h
 replace h:=Nat.succ.inj h
 obtain⟨a12,l,rfl⟩:=List.exists_cons_of_length_eq_add_one h
 replace h:=Nat.succ.inj h
 obtain⟨a13,l,rfl⟩:=List.exists_cons_of_length_eq_add_one h
 replace h:=Nat.succ.inj h
 obtain⟨a14,l,rfl⟩:=List.exists_cons_of_length_eq_add_one h
 replace h:=Nat.succ.inj h
 obtain⟨a15,l,rfl⟩:=List.exists_cons_of_length_eq_add_one h
 replace h:=Nat.succ.inj h
 obtain⟨a16,l,rfl⟩:=List.exists_cons_of_length_eq_add_one h
 replace h:=Nat.succ.inj h
 obtain⟨a17,l,rfl⟩:=List.exists_cons_of_length_eq_add_one h
 replace h:=Nat.succ.inj h
 obtain⟨a18,l,rfl⟩:=List.exists_cons_of_length_eq_add_one h
 replace h:=Nat.succ.inj h
 obtain⟨a19,l,rfl⟩:=List.exists_cons_of_length_eq_add_one h
 replace h:=Nat.succ.inj h
 obtain⟨a20,l,rfl⟩:=List.exists_cons_of_length_eq_add_one h
 replace h:=Nat.succ.inj h
 obtain⟨a21,l,rfl⟩:=List.exists_cons_of_length_eq_add_one h
 replace h:=Nat.succ.inj h
 obtain⟨a22,l,rfl⟩:=List.exists_cons_of_length_eq_add_one h
 replace h:=Nat.succ.inj h
 obtain⟨a23,l,rfl⟩:=List.exists_cons_of_length_eq_add_one h
 replace h:=Nat.succ.inj h
 obtain⟨a24,l,rfl⟩:=List.exists_cons_of_length_eq_add_one h
 replace h:=Nat.succ.inj h
 obtain⟨a25,l,rfl⟩:=List.exists_cons_of_length_eq_add_one h
 replace h:=Nat.succ.inj h
 obtain⟨a26,l,rfl⟩:=List.exists_cons_of_length_eq_add_one h
 replace h:=Nat.succ.inj h
 obtain⟨a27,l,rfl⟩:=List.exists_cons_of_length_eq_add_one h
 replace h:=Nat.succ.inj h
 obtain⟨a28,l,rfl⟩:=List.exists_cons_of_length_eq_add_one h
 replace h:=Nat.succ.inj h
 obtain⟨a29,l,rfl⟩:=List.exists_cons_of_length_eq_add_one h
 replace h:=Nat.succ.inj h
 obtain⟨a30,l,rfl⟩:=List.exists_cons_of_length_eq_add_one h
 replace h:=Nat.succ.inj h
 obtain⟨a31,l,rfl⟩:=List.exists_cons_of_length_eq_add_one h
 replace h:=Nat.succ.inj h
 have h0:=List.eq_nil_of_length_eq_zero h
 subst h0
 exact⟨_,_,_,_,_,_,_,_,_,_,_,_,_,_,_,_,_,_,_,_,_,_,_,_,_,_,_,_,_,_,_,_,rfl⟩
theorem built_kind (k:Int):Tryz.prog.built 28 [(0,.int .i64 k)] = some (fcells ⟨k,0,0,0,0,Fld.zero32,[]⟩ none 0).toArray:=by unfold fcells;kernel_rfl
theorem built_set (k s:Int):Tryz.prog.built 28 [(0,.int .i64 k),(1,.int .i64 s)] = some (fcells ⟨k,s,0,0,0,Fld.zero32,[]⟩ none 0).toArray:=by unfold fcells;kernel_rfl
theorem built_blob (k:Int)(D B:List Int)(hD:D.length=32)(q:Option Addr)(n c:Nat)(hn:B.length=n):Tryz.prog.built 28 [(0,.int .i64 k),(4,.agg (D.map v8).toArray),(5,.slice q n c)] = some (fcells ⟨k,0,0,0,0,D,B⟩ q c).toArray:=by
 subst hn
 obtain⟨a0,a1,a2,a3,a4,a5,a6,a7,a8,a9,a10,a11,a12,a13,a14,a15,a16,a17,a18,a19,a20,a21,a22,a23,a24,a25,a26,a27,a28,a29,a30,a31,rfl⟩:=len32 D hD
 unfold fcells;kernel_rfl
theorem built_keep (k s:Int)(D:List Int)(hD:D.length=32):Tryz.prog.built 28 [(0,.int .i64 k),(1,.int .i64 s),(4,.agg (D.map v8).toArray)] = some (fcells ⟨k,s,0,0,0,D,[]⟩ none 0).toArray:=by
 obtain⟨a0,a1,a2,a3,a4,a5,a6,a7,a8,a9,a10,a11,a12,a13,a14,a15,a16,a17,a18,a19,a20,a21,a22,a23,a24,a25,a26,a27,a28,a29,a30,a31,rfl⟩:=len32 D hD
 unfold fcells;kernel_rfl
theorem built_hint (k h s:Int)(D:List Int)(hD:D.length=32):Tryz.prog.built 28 [(0,.int .i64 k),(2,.int .i64 h),(1,.int .i64 s),(4,.agg (D.map v8).toArray)] = some (fcells ⟨k,s,h,0,0,D,[]⟩ none 0).toArray:=by
 obtain⟨a0,a1,a2,a3,a4,a5,a6,a7,a8,a9,a10,a11,a12,a13,a14,a15,a16,a17,a18,a19,a20,a21,a22,a23,a24,a25,a26,a27,a28,a29,a30,a31,rfl⟩:=len32 D hD
 unfold fcells;kernel_rfl
theorem built_vote (k s n o:Int)(B:List Int)(q:Option Addr)(m c:Nat)(hm:B.length=m):Tryz.prog.built 28 [(0,.int .i64 k),(1,.int .i64 s),(3,.agg #[.int .i64 n,.int .i64 o]),(5,.slice q m c)] = some (fcells ⟨k,s,0,n,o,Fld.zero32,B⟩ q c).toArray:=by subst hm;unfold fcells;kernel_rfl
theorem built_dec (k s:Int)(B:List Int)(q:Option Addr)(m c:Nat)(hm:B.length=m):Tryz.prog.built 28 [(0,.int .i64 k),(1,.int .i64 s),(5,.slice q m c)] = some (fcells ⟨k,s,0,0,0,Fld.zero32,B⟩ q c).toArray:=by subst hm;unfold fcells;kernel_rfl
end
section
open Go.RowKit Sha Fct
@[irreducible] def allocOp (t:TypeId):Sem Next:=do pure (.value (<-Instr.alloc t true (.tuple #[])))
@[irreducible] def storeOp (t:TypeId) (x v:Value):Sem Next:=do Instr.storeAt t x v;pure .skip
@[irreducible] def boxOp (t:TypeId) (x:Value):Sem Next:=do pure (.value (<-Instr.box t x))
@[irreducible] def makeOp (t:TypeId) (parts:Array (Nat×Value)):Sem Next:=do pure (.value (<-Instr.build t parts))
section
variable (ρ:Operand->Value) (dst:Option Tmp) (ty:TypeId) (pos:String) (after:Array Edge) (guard:Option (Nat×Bool)) (x y:Operand) (parts:Array (Nat×Operand)) (len:Nat)
theorem execOp_allocFact:execOp ρ {dst:=dst,op:=.alloc 28,type:=ty,pos:=pos,after:=after,guard:=guard}= allocOp 28:=by unfold allocOp;rfl
theorem execOp_allocSte:execOp ρ {dst:=dst,op:=.alloc 47,type:=ty,pos:=pos,after:=after,guard:=guard}= allocOp 47:=by unfold allocOp;rfl
theorem execOp_storeFact:execOp ρ {dst:=dst,op:=.store 28 x y,type:=ty,pos:=pos,after:=after,guard:=guard}= storeOp 28 (ρ x) (ρ y):=by unfold storeOp;rfl
theorem execOp_storeSte:execOp ρ {dst:=dst,op:=.store 47 x y,type:=ty,pos:=pos,after:=after,guard:=guard}= storeOp 47 (ρ x) (ρ y):=by unfold storeOp;rfl
theorem execOp_boxFact:execOp ρ {dst:=dst,op:=.box 28 x,type:=ty,pos:=pos,after:=after,guard:=guard}= boxOp 28 (ρ x):=by unfold boxOp;rfl
theorem execOp_boxSte:execOp ρ {dst:=dst,op:=.box 47 x,type:=ty,pos:=pos,after:=after,guard:=guard}= boxOp 47 (ρ x):=by unfold boxOp;rfl
theorem execOp_loadSte:execOp ρ {dst:=dst,op:=.load 47 x,type:=ty,pos:=pos,after:=after,guard:=guard}= loadOp 47 (ρ x):=by unfold loadOp;rfl
theorem execOp_makeFact:execOp ρ {dst:=dst,op:=.build 28 parts,type:=ty,pos:=pos,after:=after,guard:=guard}= makeOp 28 (parts.map fun(i,x)=>(i,ρ x)):=by unfold makeOp;rfl
theorem execOp_makeSte:execOp ρ {dst:=dst,op:=.build 47 parts,type:=ty,pos:=pos,after:=after,guard:=guard}= makeOp 47 (parts.map fun(i,x)=>(i,ρ x)):=by unfold makeOp;rfl
theorem execOp_buildFacts:execOp ρ {dst:=dst,op:=.buildSlice 30 len parts,type:=ty,pos:=pos,after:=after,guard:=guard}= buildOp 30 len (parts.map fun(i,x)=>(i,ρ x)):=by unfold buildOp;rfl
end
section
variable {P:Program} {t:TypeId} {w:World} {cs old:Array Value}
theorem run_allocOp (w:World)(hz:(P.info? t).map (fun i=>i.zero)=some (some (.agg cs))):(allocOp t).run P w= .ok (.value (.pointer (some ⟨w.heap.size,0,none⟩))) (w.alloc (.cells cs t)):=by
 have hz':(zeroValue t).run P w= .ok (.agg cs) w:=by
  cases hq:P.info? t with
  | none=>simp[hq]at hz
  | some i=>simp[hq]at hz;simp[zeroValue,typeInfo,hq,hz]
 unfold allocOp
 simp only[Instr.alloc,Sem.run_bind,hz',Result.andThen_ok,Sem.run_pure]
 rfl
theorem run_boxOp (w:World):(boxOp t (.agg cs)).run P w= .ok (.value (.pointer (some ⟨w.heap.size,0,none⟩))) (w.alloc (.cells cs t)):=by
 unfold boxOp
 simp only[Instr.box,Sem.run_bind,Result.andThen_ok,Sem.run_pure]
 rfl
theorem run_storeOp {g:Nat} {te:TypeId}(hg:w.heap[g]? = some (.cells old te (0,0)))(hi:(P.info? t).map (fun i=>i.size)=some cs.size)(ho:old.size=cs.size)(h1:cs.all (·.oneCell')=true):(storeOp t (.pointer (some ⟨g,0,none⟩)) (.agg cs)).run P w= .ok .skip (w.setRow g cs):=by
 unfold storeOp
 simp only[Instr.storeAt,Instr.sureAddr,Sem.run_bind,Sem.run_pure,Result.andThen_ok,run_storeVar_row w g te t old cs hg hi ho h1]
theorem run_storeNew (w:World)(hi:(P.info? t).map (fun i=>i.size)=some cs.size)(ho:old.size=cs.size)(h1:cs.all (·.oneCell')=true):(storeOp t (.pointer (some ⟨w.heap.size,0,none⟩)) (.agg cs)).run P (w.alloc (.cells old t))= .ok .skip (w.alloc (.cells cs t)):=by
 rw[run_storeOp (heap_alloc_new w _) hi ho h1,World.setRow_alloc_new]
theorem World.setRow_alloc_old (w:World)(c c':Array Value)(t:TypeId)(o:Obj):((w.alloc (.cells c t)).alloc o).setRow w.heap.size c'=(w.alloc (.cells c' t)).alloc o:=by
 simp only[World.setRow,World.alloc]
 congr 1
 apply Array.ext_getElem?
 intro i
 rw[Array.getElem?_modify,Array.getElem?_push,Array.getElem?_push,Array.getElem?_push,Array.getElem?_push]
 simp only[Array.size_push]
 by_cases h:w.heap.size=i
 ·subst h;simp
 ·simp[h,show¬i=w.heap.size from fun e=>h e.symm]
theorem run_storeNew2 (w:World)(o:Obj)(hi:(P.info? t).map (fun i=>i.size)=some cs.size)(ho:old.size=cs.size)(h1:cs.all (·.oneCell')=true):(storeOp t (.pointer (some ⟨w.heap.size,0,none⟩)) (.agg cs)).run P ((w.alloc (.cells old t)).alloc o)= .ok .skip ((w.alloc (.cells cs t)).alloc o):=by
 rw[run_storeOp (old:=old) (te:=t) ((Blk.new w old t).old o) hi ho h1,World.setRow_alloc_old]
theorem run_loadRow {g:Nat} {te:TypeId} {d:TypeDesc}(hg:w.heap[g]? = some (.cells cs te (0,0)))(hu:P.underlying t=some d)(hd:(match d with | .struct _ | .array _ _=>true | _=>false)=true)(hi:(P.info? t).map (fun i=>i.size)=some cs.size):(loadOp t (.pointer (some ⟨g,0,none⟩))).run P w= .ok (.value (.agg cs)) w:=by
 refine run_loadOp ?_
 simp only[Instr.loadAt,Instr.sureAddr,Sem.run_bind,Sem.run_pure,Result.andThen_ok,run_loadVar_row w g te t cs (0,0) d hg hu hd hi]
theorem run_makeOp {parts:Array (Nat×Value)}(w:World)(h:P.built t parts.toList=some cs):(makeOp t parts).run P w= .ok (.value (.agg cs)) w:=by
 unfold makeOp;simp only[Sem.run_bind,run_build w t _ cs h,Result.andThen_ok,Sem.run_pure]
end
abbrev fz:Fac:=⟨0,0,0,0,0,Fld.zero32,[]⟩
theorem zlen:Fld.zero32.length=32:=by simp[Fld.zero32]
theorem fact_zero1:(Tryz.prog.info? 28).map (fun i=>i.zero)=some (some (.agg (fcells fz none 0).toArray)):=by unfold fcells;kernel_rfl
theorem fact_sizeA {x:Fac}(hx:x.D.length=32)(q:Option Addr)(c:Nat):(Tryz.prog.info? 28).map (fun i=>i.size)=some (fcells x q c).toArray.size:=by
 rw[fact_size,List.size_toArray,fcells_length hx]
theorem fact_sizeE {x y:Fac}(hx:x.D.length=32)(hy:y.D.length=32)(q r:Option Addr)(c d:Nat):(fcells x q c).toArray.size=(fcells y r d).toArray.size:=by
 rw[List.size_toArray,List.size_toArray,fcells_length hx,fcells_length hy]
theorem fact_all1 (x:Fac)(q:Option Addr)(c:Nat):(fcells x q c).toArray.all (·.oneCell')=true:=by
 rw[Array.all_eq_true_iff_forall_mem];intro v hv;exact fcells_one x q c v (by simpa using hv)
theorem alloc_fact (w:World):(allocOp 28).run Tryz.prog w= .ok (.value (.pointer (some ⟨w.heap.size,0,none⟩))) (w.alloc (.cells (fcells fz none 0).toArray 28)):=run_allocOp w fact_zero1
theorem store_fact {x y:Fac} {q r:Option Addr} {c d:Nat} {w:World} {g:Nat}(h:Blk w g (fcells y r d) 28)(hy:y.D.length=32)(hx:x.D.length=32):(storeOp 28 (.pointer (some ⟨g,0,none⟩)) (.agg (fcells x q c).toArray)).run Tryz.prog w= .ok .skip (w.setRow g (fcells x q c).toArray):=
 run_storeOp h (fact_sizeA hx q c) (fact_sizeE hy hx ..) (fact_all1 ..)
theorem store_fact1 (w:World) {x:Fac} {q:Option Addr} {c:Nat}(hx:x.D.length=32):(storeOp 28 (.pointer (some ⟨w.heap.size,0,none⟩)) (.agg (fcells x q c).toArray)).run Tryz.prog (w.alloc (.cells (fcells fz none 0).toArray 28))= .ok .skip (w.alloc (.cells (fcells x q c).toArray 28)):=
 run_storeNew w (fact_sizeA hx q c) (fact_sizeE zlen hx ..) (fact_all1 ..)
theorem store_fact2 (w:World)(o:Obj) {x:Fac} {q:Option Addr} {c:Nat}(hx:x.D.length=32):(storeOp 28 (.pointer (some ⟨w.heap.size,0,none⟩)) (.agg (fcells x q c).toArray)).run Tryz.prog ((w.alloc (.cells (fcells fz none 0).toArray 28)).alloc o)= .ok .skip ((w.alloc (.cells (fcells x q c).toArray 28)).alloc o):=
 run_storeNew2 w o (fact_sizeA hx q c) (fact_sizeE zlen hx ..) (fact_all1 ..)
theorem load_factB {x:Fac} {q:Option Addr} {c:Nat} {w:World} {g:Nat}(h:Blk w g (fcells x q c) 28)(hx:x.D.length=32):(loadOp 28 (.pointer (some ⟨g,0,none⟩))).run Tryz.prog w= .ok (.value (.agg (fcells x q c).toArray)) w:=
 run_loadRow h Tryz.underlying28 rfl (fact_sizeA hx q c)
theorem ste_zero1:(Tryz.prog.info? 47).map (fun i=>i.zero)=some (some (.agg (scells Ste.none Hds.none).toArray)):=by rw[scells_eq];kernel_rfl
theorem ste_size:(Tryz.prog.info? 47).map (fun i=>i.size)=some 7:=by kernel_rfl
theorem ste_sizeA (s:Ste)(h:Hds):(Tryz.prog.info? 47).map (fun i=>i.size)=some (scells s h).toArray.size:=by rw[ste_size,List.size_toArray,scells_length]
theorem ste_sizeE (s t:Ste)(h k:Hds):(scells s h).toArray.size=(scells t k).toArray.size:=by rw[List.size_toArray,List.size_toArray,scells_length,scells_length]
theorem ste_all1 (s:Ste)(h:Hds):(scells s h).toArray.all (·.oneCell')=true:=by
 rw[Array.all_eq_true_iff_forall_mem];intro v hv;exact scells_one s h v (by simpa using hv)
theorem ste_built:Tryz.prog.built 47 [] = some (scells Ste.none Hds.none).toArray:=by rw[scells_eq];kernel_rfl
theorem alloc_ste (w:World):(allocOp 47).run Tryz.prog w= .ok (.value (.pointer (some ⟨w.heap.size,0,none⟩))) (w.alloc (.cells (scells Ste.none Hds.none).toArray 47)):=run_allocOp w ste_zero1
theorem make_ste (w:World):(makeOp 47 #[]).run Tryz.prog w= .ok (.value (.agg (scells Ste.none Hds.none).toArray)) w:=run_makeOp w ste_built
theorem store_ste {s t:Ste} {h k:Hds} {w:World} {g:Nat}(hb:Blk w g (scells t k) 47):(storeOp 47 (.pointer (some ⟨g,0,none⟩)) (.agg (scells s h).toArray)).run Tryz.prog w= .ok .skip (w.setRow g (scells s h).toArray):=
 run_storeOp hb (ste_sizeA s h) (ste_sizeE ..) (ste_all1 ..)
theorem store_ste1 (w:World)(s:Ste)(h:Hds):(storeOp 47 (.pointer (some ⟨w.heap.size,0,none⟩)) (.agg (scells s h).toArray)).run Tryz.prog (w.alloc (.cells (scells Ste.none Hds.none).toArray 47))= .ok .skip (w.alloc (.cells (scells s h).toArray 47)):=
 run_storeNew w (ste_sizeA s h) (ste_sizeE ..) (ste_all1 ..)
theorem load_steB {s:Ste} {h:Hds} {w:World} {g:Nat}(hb:Blk w g (scells s h) 47):(loadOp 47 (.pointer (some ⟨g,0,none⟩))).run Tryz.prog w= .ok (.value (.agg (scells s h).toArray)) w:=
 run_loadRow hb Tryz.underlying47 rfl (ste_sizeA s h)
end
section
open Go.RowKit Sha Fct
attribute [local go_sem ↓] execOp_allocFact execOp_allocSte execOp_storeFact execOp_storeSte execOp_boxFact execOp_boxSte execOp_loadSte execOp_makeFact execOp_makeSte execOp_buildFacts execOp_loadFact
def FTold (x:Fac)(w:World)(e:Ending)(w':World):Prop:=∃q c,e= .returned (.agg (fcells x q c).toArray)/\sF.Good w' x q c/\Below w.heap.size w w'
abbrev xid:List Int:=Sha.sum [1,2]
theorem fbytes_any (w:World):Calls Tryz.prog 74 #[] w fun e w'=>e= .returned (.slice (some ⟨w.heap.size,0,none⟩) 2 2)/\w'=w.alloc (Obj.cells #[.int .u8 1,.int .u8 2] 5):=by
 go_enter Tryz.func74,Tryz.ntmps74
 go_wp2_with fail
 go_ret
 exact⟨rfl,rfl⟩
def FBytes (w:World)(e:Ending)(w':World):Prop:=∃g,e= .returned (.slice (some ⟨g,0,none⟩) 2 2)/\At w' (some ⟨g,0,none⟩) (([1,2]:List Int).map v8)/\Below w.heap.size w w'
theorem fbytes_told (w:World):Calls Tryz.prog 74 #[] w (FBytes w):=by
 refine(fbytes_any w).mono ?_
 rintro e w' ⟨rfl,rfl⟩
 have h:=Blk.new w #[.int .u8 1,.int .u8 2] 5
 exact⟨_,rfl,Or.inr ⟨_,0,rfl,fun i v hi=>by rw[Nat.zero_add,h.cell];exact hi⟩,(Below.refl _ w).alloc (Nat.le_refl _) _⟩
theorem xsum_any (g:Nat)(w:World)(h:At w (some ⟨g,0,none⟩) (([1,2]:List Int).map v8)):
 Calls Tryz.prog 73 #[.slice (some ⟨g,0,none⟩) 2 2] w fun e w'=>e= .returned (.agg (xid.map v8).toArray)/\Below w.heap.size w w':=
 sum_any [1,2] _ 2 w (by simp) h (by simp) (fun h=>by cases h) (by omega)
theorem xid_len:xid.length=32:=sum32 _
theorem fact_ok0 {k s h n o:Int} {D B:List Int}(hk:fit k)(hs:fit s)(hh:fit h)(hn:fit n)(ho:fit o)(hD:D.length=32)(hD8:∀n∈D,0<=n/\n<=255)(hB:∀n∈B,0<=n/\n<=255):(⟨k,s,h,n,o,D,B⟩:Fac).ok:=by
 constructor<;>assumption
theorem fit_small {n:Int}(h:-1000000<=n/\n<=1000000):fit n:=by unfold fit;omega
theorem ftold_end {x:Fac} {q:Option Addr} {c:Nat} {w w1:World} {g:Nat}(hb:Below w.heap.size w w1)(hg:w.heap.size<=g)(h:sF.Good w1 x q c)(ho:OutOf g x.B q)(hk:Blk w1 g (fcells fz none 0) 28):
 Blk (w1.setRow g (fcells x q c).toArray) g (fcells x q c) 28/\FTold x w (.returned (.agg (fcells x q c).toArray)) (w1.setRow g (fcells x q c).toArray):=by
 refine⟨hk.row _,q,c,rfl,⟨h.ok,?_,h.le,h.max,h.nil⟩,Below.setRow hb hg _⟩
 by_cases e:x.B= []
 ·have h2:(sF.byt x).map v8= []:=by show x.B.map v8= [];rw[e];rfl
  rw[h2];exact At.nil _ _
 ·rcases h.at_ with h0 | ⟨b,off,rfl,hc⟩
  ·exact .inl h0
  ·refine .inr ⟨b,off,rfl,fun i v hi=>?_⟩
   exact(cell_setRow_other w1 g _ ⟨b,off+i,none⟩ (show b≠g from ho e ⟨b,off,none⟩ rfl)).trans (hc i v hi)
theorem fblob_any (w:World):Calls Tryz.prog 32 #[] w (FTold ⟨3,0,0,0,0,xid,[1,2]⟩ w):=by
 have al:=fun w=>alloc_fact w
 go_enter Tryz.func32,Tryz.ntmps32
 go_wp2_with fail
 obtain⟨w1,hw1⟩:∃x,x=w.alloc (.cells (fcells fz none 0).toArray 28):=⟨_,rfl⟩
 have K1:=Lib.hid (show Blk w1 w.heap.size (fcells fz none 0) 28 by rw[hw1];exact Blk.new w _ _)
 have B1:=Lib.hid (show Below w.heap.size w w1 by rw[hw1];exact(Below.refl _ w).alloc (Nat.le_refl _) _)
 rw[<-hw1]
 clear hw1
 obtain⟨g0,hg0⟩:∃g,g=w.heap.size:=⟨_,rfl⟩
 rw[<-hg0]at K1 ⊢
 have G0:=Lib.hid (show w.heap.size<=g0 by omega)
 clear hg0
 refine(fbytes_told w1).mono ?_
 rintro e w2 ⟨g2,rfl,ha2,hb2⟩
 have A2:=Lib.hid ha2
 have B2:=Lib.hid (B1.out.trans (hb2.mono B1.out.size))
 have K2:=Lib.hid (K1.out.below hb2 K1.out.lt)
 clear ha2 hb2 B1 K1
 go_wp2_with fail
 refine(xsum_any g2 w2 A2.out).mono ?_
 rintro e w3 ⟨rfl,hb3⟩
 have B3:=Lib.hid (B2.out.trans (hb3.mono B2.out.size))
 have K3:=Lib.hid (K2.out.below hb3 K2.out.lt)
 clear hb3 B2 K2
 go_wp2_with fail
 refine(fbytes_any w3).mono ?_
 rintro e w4 ⟨rfl,hw4⟩
 have B4:=Lib.hid (show Below w.heap.size w w4 by rw[hw4];exact B3.out.trans (((Below.refl _ w3).alloc (Nat.le_refl _) _).mono B3.out.size))
 have K4:=Lib.hid (show Blk w4 g0 (fcells fz none 0) 28 by rw[hw4];exact K3.out.old _)
 have A4:=Lib.hid (show At w4 (some ⟨w3.heap.size,0,none⟩) (([1,2]:List Int).map v8) by rw[hw4];exact Or.inr ⟨_,0,rfl,fun i v hi=>by rw[Nat.zero_add,(Blk.new w3 #[.int .u8 1,.int .u8 2] 5).cell];exact hi⟩)
 have O4:=Lib.hid (show w3.heap.size≠g0 from fun e=>by have:=K3.out.lt;omega)
 clear hw4 B3 K3
 generalize w3.heap.size=g4 at *
 have mk:=run_makeOp w4 (built_blob 3 xid [1,2] xid_len (some ⟨g4,0,none⟩) 2 2 rfl)
 have st:=store_fact (q:=(some ⟨g4,0,none⟩)) (c:=2) (x:=⟨3,0,0,0,0,xid,[1,2]⟩) K4.out zlen xid_len
 go_wp2_with fail
 have hend:=ftold_end (q:=(some ⟨g4,0,none⟩)) (c:=2) (x:=⟨3,0,0,0,0,xid,[1,2]⟩) B4.out G0.out ⟨fact_ok0 (fit_small (by omega)) (fit_small (by omega)) (fit_small (by omega)) (fit_small (by omega)) (fit_small (by omega)) xid_len (sum8 _) (by simp),A4.out,by simp[sF],by omega,(fun h=>by cases h)⟩ (fun _ a ha=>by cases ha;exact O4.out) K4.out
 refine bodyPost_ret (v:=.agg (fcells ⟨3,0,0,0,0,xid,[1,2]⟩ (some ⟨g4,0,none⟩) 2).toArray) (results_cell_row rfl _ _ _ _ _ _ _ rfl hend.1 (Tryz.underlying28) rfl (fact_sizeA xid_len _ _)) rfl hend.2
theorem fkeep_any (s:Int)(w:World)(hs:fit s):Calls Tryz.prog 35 #[.int .i64 s] w (FTold ⟨4,s,0,0,0,xid,[]⟩ w):=by
 have al:=fun w=>alloc_fact w
 go_enter Tryz.func35,Tryz.ntmps35
 go_wp2_with fail
 obtain⟨w1,hw1⟩:∃x,x=w.alloc (.cells (fcells fz none 0).toArray 28):=⟨_,rfl⟩
 have K1:=Lib.hid (show Blk w1 w.heap.size (fcells fz none 0) 28 by rw[hw1];exact Blk.new w _ _)
 have B1:=Lib.hid (show Below w.heap.size w w1 by rw[hw1];exact(Below.refl _ w).alloc (Nat.le_refl _) _)
 rw[<-hw1]
 clear hw1
 obtain⟨g0,hg0⟩:∃g,g=w.heap.size:=⟨_,rfl⟩
 rw[<-hg0]at K1 ⊢
 have G0:=Lib.hid (show w.heap.size<=g0 by omega)
 clear hg0
 refine(fbytes_told w1).mono ?_
 rintro e w2 ⟨g2,rfl,ha2,hb2⟩
 have A2:=Lib.hid ha2
 have B2:=Lib.hid (B1.out.trans (hb2.mono B1.out.size))
 have K2:=Lib.hid (K1.out.below hb2 K1.out.lt)
 clear ha2 hb2 B1 K1
 go_wp2_with fail
 refine(xsum_any g2 w2 A2.out).mono ?_
 rintro e w3 ⟨rfl,hb3⟩
 have B3:=Lib.hid (B2.out.trans (hb3.mono B2.out.size))
 have K3:=Lib.hid (K2.out.below hb3 K2.out.lt)
 clear hb3 B2 K2
 have mk:=run_makeOp w3 (built_keep 4 s xid xid_len)
 have st:=store_fact (q:=none) (c:=0) (x:=⟨4,s,0,0,0,xid,[]⟩) K3.out zlen xid_len
 go_wp2_with fail
 have hend:=ftold_end (q:=none) (c:=0) (x:=⟨4,s,0,0,0,xid,[]⟩) B3.out G0.out ⟨fact_ok0 (fit_small (by omega)) hs (fit_small (by omega)) (fit_small (by omega)) (fit_small (by omega)) xid_len (sum8 _) (by simp),At.nil _ _,by simp[sF],by omega,(fun _=>rfl)⟩ (fun h=>absurd rfl h) K3.out
 refine bodyPost_ret (v:=.agg (fcells ⟨4,s,0,0,0,xid,[]⟩ none 0).toArray) (results_cell_row rfl _ _ _ _ _ _ _ rfl hend.1 (Tryz.underlying28) rfl (fact_sizeA xid_len _ _)) rfl hend.2
theorem fhint_any (h s:Int)(w:World)(hh:fit h)(hs:fit s):Calls Tryz.prog 33 #[.int .i64 h,.int .i64 s] w (FTold ⟨5,s,h,0,0,xid,[]⟩ w):=by
 have al:=fun w=>alloc_fact w
 go_enter Tryz.func33,Tryz.ntmps33
 go_wp2_with fail
 obtain⟨w1,hw1⟩:∃x,x=w.alloc (.cells (fcells fz none 0).toArray 28):=⟨_,rfl⟩
 have K1:=Lib.hid (show Blk w1 w.heap.size (fcells fz none 0) 28 by rw[hw1];exact Blk.new w _ _)
 have B1:=Lib.hid (show Below w.heap.size w w1 by rw[hw1];exact(Below.refl _ w).alloc (Nat.le_refl _) _)
 rw[<-hw1]
 clear hw1
 obtain⟨g0,hg0⟩:∃g,g=w.heap.size:=⟨_,rfl⟩
 rw[<-hg0]at K1 ⊢
 have G0:=Lib.hid (show w.heap.size<=g0 by omega)
 clear hg0
 refine(fbytes_told w1).mono ?_
 rintro e w2 ⟨g2,rfl,ha2,hb2⟩
 have A2:=Lib.hid ha2
 have B2:=Lib.hid (B1.out.trans (hb2.mono B1.out.size))
 have K2:=Lib.hid (K1.out.below hb2 K1.out.lt)
 clear ha2 hb2 B1 K1
 go_wp2_with fail
 refine(xsum_any g2 w2 A2.out).mono ?_
 rintro e w3 ⟨rfl,hb3⟩
 have B3:=Lib.hid (B2.out.trans (hb3.mono B2.out.size))
 have K3:=Lib.hid (K2.out.below hb3 K2.out.lt)
 clear hb3 B2 K2
 have mk:=run_makeOp w3 (built_hint 5 h s xid xid_len)
 have st:=store_fact (q:=none) (c:=0) (x:=⟨5,s,h,0,0,xid,[]⟩) K3.out zlen xid_len
 go_wp2_with fail
 have hend:=ftold_end (q:=none) (c:=0) (x:=⟨5,s,h,0,0,xid,[]⟩) B3.out G0.out ⟨fact_ok0 (fit_small (by omega)) hs hh (fit_small (by omega)) (fit_small (by omega)) xid_len (sum8 _) (by simp),At.nil _ _,by simp[sF],by omega,(fun _=>rfl)⟩ (fun h=>absurd rfl h) K3.out
 refine bodyPost_ret (v:=.agg (fcells ⟨5,s,h,0,0,xid,[]⟩ none 0).toArray) (results_cell_row rfl _ _ _ _ _ _ _ rfl hend.1 (Tryz.underlying28) rfl (fact_sizeA xid_len _ _)) rfl hend.2
theorem fvote_any (k n o:Int)(B:List Int)(q:Option Addr)(m c:Nat)(w:World)(hkf:fit k)(hn:fit n)(ho:fit o)(hm:B.length=m)(hBB:∀n∈B,0<=n/\n<=255)(hA:At w q (B.map v8))(hc:m<=c)(hcm:c<=9223372036854775807)(hq:q=none->c=0):Calls Tryz.prog 36 #[.int .i64 k,.int .i64 n,.int .i64 o,.slice q m c] w (FTold ⟨k,3,0,n,o,Fld.zero32,B⟩ w):=by
 have al:=fun w=>alloc_fact w
 go_enter Tryz.func36,Tryz.ntmps36
 have mk:=fun w=>run_makeOp w (built_vote k 3 n o B q m c hm)
 have st:=fun w=>store_fact1 w (q:=q) (c:=c) (x:=⟨k,3,0,n,o,Fld.zero32,B⟩) zlen
 go_wp2_with fail
 have hk:=Blk.new w (fcells ⟨k,3,0,n,o,Fld.zero32,B⟩ q c).toArray 28
 have hB:=(Below.refl w.heap.size w).alloc (Nat.le_refl _) (Obj.cells (fcells ⟨k,3,0,n,o,Fld.zero32,B⟩ q c).toArray 28)
 refine bodyPost_ret (v:=.agg (fcells ⟨k,3,0,n,o,Fld.zero32,B⟩ q c).toArray) (results_cell_row rfl _ _ _ _ _ _ _ rfl hk (Tryz.underlying28) rfl (fact_sizeA zlen _ _)) rfl ?_
 exact⟨q,c,rfl,⟨fact_ok0 hkf (fit_small (by omega)) (fit_small (by omega)) hn ho zlen zero8 hBB,hA.alloc _,by show B.length<=c;omega,by omega,hq⟩,hB⟩
end
section
namespace Fct
open Fld (zero32)
abbrev xd:List Int:=Sha.sum [1,2]
abbrev eBlob:Fac:=⟨3,0,0,0,0,xd,[1,2]⟩
abbrev eKeep (s:Int):Fac:=⟨4,s,0,0,0,xd,[]⟩
abbrev eHint (h s:Int):Fac:=⟨5,s,h,0,0,xd,[]⟩
abbrev eVote (k n o:Int)(b:List Int):Fac:=⟨k,3,0,n,o,zero32,b⟩
abbrev eDrop (s:Int):Fac:=⟨10,s,0,0,0,zero32,[]⟩
theorem e_put:put (eVote 7 5 2 [])=([7,3,5,2],0):=by decide +kernel
theorem e_get:get [1] = (⟨1,0,0,0,0,zero32,[]⟩,0,0):=by decide +kernel
abbrev cnt (l:List Fac)(a b c:Nat):Prop:=(fold l).2=0/\(fold l).1.blobs.length=a/\(fold l).1.keeps.length=b/\(fold l).1.hints.length=c
theorem e_f1:cnt [eBlob,eKeep 4,eHint 2 4] 1 1 1:=by decide +kernel
theorem e_f2:cnt [eBlob,eKeep 4,eHint 2 4,eDrop 4] 0 0 0:=by decide +kernel
end Fct
end
section
open Go.RowKit Sha Fct
section
variable {P:Program}
def numsThen (P:Program)(ti tid:TypeId):Nat->Nat->List Field->Prop
 | 0,o,[f]=>f.name≠ "_" /\f.type=tid/\f.offset=o
 | k+1,o,f::fs=>f.name≠ "_" /\f.type=ti/\f.offset=o/\numsThen P ti tid k (o+1) fs
 | _,_,_=>False
theorem run_part_arr {t e:TypeId} {n:Nat}(hu:P.underlying t=some (.array n e))(hs:(P.info? t).map (fun i=>i.size)=some n)(cs:Array Value)(i:Nat)(w:World):
 (part t cs i).run P w= .ok (.agg (cs.extract i (i+n))) w:=by
 have hagg:(isAgg t).run P w= .ok true w:=by
  unfold isAgg
  rw[Sem.run_bind,run_underlying hu w]
  rfl
 have h2:(sizeOf t).run P w= .ok n w:=size_of hs w
 unfold part
 rw[Sem.run_bind,hagg]
 simp only[Result.andThen_ok,if_true]
 rw[Sem.run_bind,h2]
 rfl
theorem run_eq_nums (w:World)(d:Nat)(ti tid te:TypeId)(hi:P.underlying ti=some (.int .i64))(hid:P.underlying tid=some (.array 32 te))(hte:P.underlying te=some (.int .u8))(he:(P.info? te).map (fun i=>i.size)=some 1)(hs:(P.info? tid).map (fun i=>i.size)=some 32)(D E:List Int)(hD:D.length=32)(hE:E.length=32):
 ∀(m o:Nat) (fs:List Field) (xs ys ps qs:List Int),numsThen P ti tid m o fs->xs.length=m->ys.length=m->ps.length=o->qs.length=o->
 (Op.eqFields (d+2) ((ps++xs).map (Value.int .i64)++D.map v8).toArray ((qs++ys).map (Value.int .i64)++E.map v8).toArray fs).run P w= .ok (decide (xs=ys/\D=E)) w:=by
 intro m
 induction m with
 | zero=>
    intro o fs xs ys ps qs hf hx hy hp hq
    have hx0:xs= []:=List.eq_nil_of_length_eq_zero hx
    have hy0:ys= []:=List.eq_nil_of_length_eq_zero hy
    subst hx0 hy0
    match fs,hf with
    | [f],hf=>
       obtain⟨h1,h2,h3⟩:=hf
       have e1:∀(qs E:List Int),qs.length=o->E.length=32->((qs++[]).map (Value.int .i64)++E.map v8).toArray.extract o (o+32)=(E.map v8).toArray:=by
        intro qs E hq hE
        rw[<-hq,<-hE]
        simp
        exact List.take_of_length_le (by simp)
       simp only[Op.eqFields,h1,ne_eq,not_false_eq_true,if_true,h2,h3,Sem.run_bind,run_part_arr hid hs,Result.andThen_ok,e1 ps D hp hD,e1 qs E hq hE]
       have:=run_equalIn_arr (P:=P) w d tid te 32 .u8 hid hte he D E hD hE
       rw[show(D.map v8).toArray=(D.map (Value.int .u8)).toArray from rfl,show(E.map v8).toArray=(E.map (Value.int .u8)).toArray from rfl,this]
       by_cases h:D=E<;>simp[h,Result.andThen_ok,Sem.run_pure]
 | succ m ih=>
    intro o fs xs ys ps qs hf hx hy hp hq
    match fs,hf with
    | f::fs,hf=>
       obtain⟨h1,h2,h3,h4⟩:=hf
       cases xs with
       | nil=>simp at hx
       | cons x xs=>
          cases ys with
          | nil=>simp at hy
          | cons y ys=>
             have g:∀(ps xs D:List Int) (x:Int),ps.length=o->((ps++x::xs).map (Value.int .i64)++D.map v8).toArray[o]? = some (.int .i64 x):=by
              intro ps xs D x hp
              rw[List.getElem?_toArray,List.getElem?_append_left (by simp;omega),List.getElem?_map,List.getElem?_append_right (by omega),hp,Nat.sub_self]
              rfl
             simp only[Op.eqFields,h1,ne_eq,not_false_eq_true,if_true,h2,h3,Sem.run_bind,run_part_one hi rfl _ _ _ (g ps xs D x hp),run_part_one hi rfl _ _ _ (g qs ys E y hq),Result.andThen_ok,run_equalIn_int (P:=P) w (d+1) ti .i64 .i64 x y hi]
             have:=ih (o+1) fs xs ys (ps++[x]) (qs++[y]) h4 (by simpa using hx) (by simpa using hy) (by simp[hp]) (by simp[hq])
             simp only[List.append_assoc,List.singleton_append]at this
             by_cases hb:x=y
             ·subst hb
              simp only[beq_self_eq_true,Bool.not_true,Bool.false_eq_true,if_false]
              rw[this];simp
             ·have hb2:(x == y)=false:=by simpa using hb
              simp[hb2,hb,Sem.run_pure]
theorem run_eql_nums (w:World)(x y:Operand)(t ti tid te:TypeId)(m:Nat)(ht:P.underlying t=some (.struct (P.fieldsOf t)))(hp:P.stoodInHeld t=false)(hg:P.eqGuardType P.depth t=false)(hf:numsThen P ti tid m 0 (P.fieldsOf t).toList)
 (hi:P.underlying ti=some (.int .i64)) (hid:P.underlying tid=some (.array 32 te)) (hte:P.underlying te=some (.int .u8)) (he:(P.info? te).map (fun i=>i.size)=some 1) (hs:(P.info? tid).map (fun i=>i.size)=some 32)
 (xs ys D E:List Int) (hx:xs.length=m) (hy:ys.length=m) (hD:D.length=32) (hE:E.length=32):
 (do eqGuard .eql t x y (.agg (xs.map (Value.int .i64)++D.map v8).toArray) (.agg (ys.map (Value.int .i64)++E.map v8).toArray);binOp .eql t (.agg (xs.map (Value.int .i64)++D.map v8).toArray) (.agg (ys.map (Value.int .i64)++E.map v8).toArray):Sem Value).run P w= .ok (.bool (decide (xs=ys/\D=E))) w:=by
 rw[Sem.run_bind,run_eqGuard_agg w .eql t x y _ _ hg]
 simp only[Result.andThen_ok]
 rw[run_eql_struct,run_equalIn_struct w 9999 t _ _ ht hp]
 have:=run_eq_nums (P:=P) w 9997 ti tid te hi hid hte he hs D E hD hE m 0 (P.fieldsOf t).toList xs ys [] [] hf hx hy rfl rfl
 simp only[List.nil_append]at this
 rw[this];rfl
theorem quiet_eql_nums {o:Oper} {a:Act} {C:World->Prop} {K:Act->Prop}(t ti tid te:TypeId)(x y:Operand)(r:TypeId)(ho:o.op= .binOp .eql t x y r)(m:Nat)(ht:P.underlying t=some (.struct (P.fieldsOf t)))(hp:P.stoodInHeld t=false)(hg:P.eqGuardType P.depth t=false)(hf:numsThen P ti tid m 0 (P.fieldsOf t).toList)
 (hi:P.underlying ti=some (.int .i64)) (hid:P.underlying tid=some (.array 32 te)) (hte:P.underlying te=some (.int .u8)) (he:(P.info? te).map (fun i=>i.size)=some 1) (hs:(P.info? tid).map (fun i=>i.size)=some 32)
 (xs ys D E:List Int) (hx:xs.length=m) (hy:ys.length=m) (hD:D.length=32) (hE:E.length=32) (hxe:a.eval x= .agg (xs.map (Value.int .i64)++D.map v8).toArray) (hye:a.eval y= .agg (ys.map (Value.int .i64)++E.map v8).toArray)
 (h:K (a.put o.dst (.bool (decide (xs=ys/\D=E))))):o.quiet P a C K:=
 ⟨_,fun w _=>by
  have hr:=run_eql_nums (P:=P) w x y t ti tid te m ht hp hg hf hi hid hte he hs xs ys D E hx hy hD hE
  unfold Oper.quietAt execOp
  simp only[ho,hxe,hye]
  rw[Sem.run_bind,hr]
  simp only[Result.andThen_ok,Sem.run_pure]
  exact⟨rfl,rfl⟩,h⟩
end
theorem keep_under:Tryz.prog.underlying 95=some (.struct (Tryz.prog.fieldsOf 95)):=by kernel_rfl
theorem hint_under:Tryz.prog.underlying 97=some (.struct (Tryz.prog.fieldsOf 97)):=by kernel_rfl
theorem keep_fields:((Tryz.prog.fieldsOf 95).toList.map fun f=>(f.name != "_",f.type,f.offset))= [(true,3,0),(true,25,1)]:=by kernel_rfl
theorem hint_fields:((Tryz.prog.fieldsOf 97).toList.map fun f=>(f.name != "_",f.type,f.offset))= [(true,3,0),(true,3,1),(true,25,2)]:=by kernel_rfl
theorem keep_nums:numsThen Tryz.prog 3 25 1 0 (Tryz.prog.fieldsOf 95).toList:=by
 have h:=keep_fields
 generalize(Tryz.prog.fieldsOf 95).toList=fs at h
 have hl:=congrArg List.length h
 match fs,h,hl with
 | [],_,hl=>simp at hl
 | [_],_,hl=>simp at hl
 | _::_::_::_,_,hl=>simp at hl
 | [f,g],h,_=>
    simp at h
    exact⟨h.1.1,h.1.2.1,h.1.2.2,h.2.1,h.2.2.1,h.2.2.2⟩
theorem hint_nums:numsThen Tryz.prog 3 25 2 0 (Tryz.prog.fieldsOf 97).toList:=by
 have h:=hint_fields
 generalize(Tryz.prog.fieldsOf 97).toList=fs at h
 have hl:=congrArg List.length h
 match fs,h,hl with
 | [],_,hl=>simp at hl
 | [_],_,hl=>simp at hl
 | [_,_],_,hl=>simp at hl
 | _::_::_::_::_,_,hl=>simp at hl
 | [f,g,k],h,_=>
    simp at h
    exact⟨h.1.1,h.1.2.1,h.1.2.2,h.2.1.1,h.2.1.2.1,h.2.1.2.2,h.2.2.1,h.2.2.2.1,h.2.2.2.2⟩
theorem keep_held:Tryz.prog.stoodInHeld 95=false:=by kernel_rfl
theorem hint_held:Tryz.prog.stoodInHeld 97=false:=by kernel_rfl
theorem keep_guard:Tryz.prog.eqGuardType Tryz.prog.depth 95=false:=by kernel_rfl
theorem hint_guard:Tryz.prog.eqGuardType Tryz.prog.depth 97=false:=by kernel_rfl
theorem keep_size:(Tryz.prog.info? 95).map (fun i=>i.size)=some 33:=by kernel_rfl
theorem hint_size:(Tryz.prog.info? 97).map (fun i=>i.size)=some 34:=by kernel_rfl
end
end Go.Proofs.YtokpabkcaofahaaGreat
