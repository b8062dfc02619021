/-
  What stands under factPuts_holds: part 5.
-/
import Derived.Test.YtokpabkcaofahaaGreatPp2
import Derived.Test.YtokpabkcaofahaaGreatPp4
import Derived.Test.YtokpabkcaofahaaGreatPp3
import Derived.Test.YtokpabkcaofahaaGreatPp1
import Derived.MapKept
import Derived.Laws.Rows
import Derived.Test.YtokpabkcaofahaaGreatRows
import Derived.WalkSpells
import Derived.WalkLawsBesides
import Derived.Deep.DeepCutAuto
namespace Go.Proofs.YtokpabkcaofahaaGreat
set_option linter.unusedSimpArgs false
set_option linter.unusedVariables false
set_option maxRecDepth 100000
set_option maxHeartbeats 20000000
section
open Go.RowKit Sha Fct
section
variable {P:Program}
theorem alloc_set (w:World)(o o':Obj):({(w.alloc o)with heap:=(w.alloc o).heap.setIfInBounds w.heap.size o'}:World)=w.alloc o':=by
 have h:(w.heap.push o).setIfInBounds w.heap.size o'=w.heap.push o':=by simp[<-Array.toList_inj]
 show({(w.alloc o)with heap:=(w.heap.push o).setIfInBounds w.heap.size o'}:World)=_
 rw[h];rfl
theorem run_insert_int (w:World)(mty kt et:TypeId)(hm:P.underlying mty=some (.map kt et))(hk:P.underlying kt=some (.int .i64))(es:Array MapEntry)(c:Nat)(k:Int)(v:Value)(hf:Instr.findNow (.int .i64) (.int .i64 k) es.toList 0=some none):
 (Instr.mapUpdate mty (.map (some w.heap.size)) (.int .i64 k) v).run P (w.alloc (.map es c))= .ok () (w.alloc (.map (es.push ⟨.int .i64 k,v,c⟩) (c+1))):=by
 have hb:(w.alloc (.map es c)).heap[w.heap.size]? = some (.map es c):=heap_alloc_new _ _
 have hc:(Instr.checkKey false 10000 kt (.int .i64 k)).run P (w.alloc (.map es c))= .ok () (w.alloc (.map es c)):=MapKept.run_checkKey (k:=.int .i64 k) hk (by simp[MapKept.IsKey]) false 9999
 simp[Instr.mapUpdate,run_underlying hm,MapKept.run_getObj_map hb,hc,MapKept.run_findKey hk hf,MapKept.run_setObj_map _ hb,Result.andThen,-World.alloc_eq]
 exact alloc_set _ _ _
theorem run_lookup_found (w:World)(mty kt et:TypeId)(hm:P.underlying mty=some (.map kt et))(hk:P.underlying kt=some (.int .i64))(b:Nat)(es:Array MapEntry)(c:Nat)(hb:w.heap[b]? = some (.map es c))(k:Int)(i:Nat)(v:Value)(hf:Instr.findNow (.int .i64) (.int .i64 k) es.toList 0=some (some (i,v)))(ok:Bool):
 (Instr.lookup mty (.map (some b)) (.int .i64 k) ok).run P w= .ok (if ok then .tuple #[v,.bool true]else v) w:=by
 have hc:∀e,(Instr.checkKey e 10000 kt (.int .i64 k)).run P w= .ok () w:=fun e=>MapKept.run_checkKey (k:=.int .i64 k) hk (by simp[MapKept.IsKey]) e 9999
 simp[Instr.lookup,run_underlying hm,MapKept.run_getObj_map hb,hc,MapKept.run_findKey hk hf,Result.andThen]
theorem run_lookup_none (w:World)(mty kt et:TypeId)(hm:P.underlying mty=some (.map kt et))(hk:P.underlying kt=some (.int .i64))(z:Value)(hz:∀w,(zeroValue et).run P w= .ok z w)(b:Nat)(es:Array MapEntry)(c:Nat)(hb:w.heap[b]? = some (.map es c))(k:Int)(hf:Instr.findNow (.int .i64) (.int .i64 k) es.toList 0=some none)(ok:Bool):
 (Instr.lookup mty (.map (some b)) (.int .i64 k) ok).run P w= .ok (if ok then .tuple #[z,.bool false]else z) w:=by
 have hc:∀e,(Instr.checkKey e 10000 kt (.int .i64 k)).run P w= .ok () w:=fun e=>MapKept.run_checkKey (k:=.int .i64 k) hk (by simp[MapKept.IsKey]) e 9999
 simp[Instr.lookup,run_underlying hm,MapKept.run_getObj_map hb,hc,MapKept.run_findKey hk hf,Result.andThen,hz]
end
def kSh (k:Int):ByteArray:=
 if k=2 then⟨#[110]⟩else if k=3 then⟨#[98]⟩else if k=4 then⟨#[110,100]⟩else if k=5 then⟨#[110,110,100]⟩else if k=6 then⟨#[110,110,100]⟩else
 if k=7 then⟨#[110,110,110]⟩else if k=8 then⟨#[110,110,110,98]⟩else if k=9 then⟨#[110,98]⟩else if k=10 then⟨#[110]⟩else⟨#[]⟩
def kHas (k:Int):ByteArray:=
 if k=2 then⟨#[115]⟩else if k=3 then⟨#[99]⟩else if k=4 then⟨#[115,105]⟩else if k=5 then⟨#[104,115,105]⟩else if k=6 then⟨#[104,115,105]⟩else
 if k=7 then⟨#[115,110,111]⟩else if k=8 then⟨#[115,110,111,100]⟩else if k=9 then⟨#[115,100]⟩else if k=10 then⟨#[115]⟩else⟨#[]⟩
def hasL (k:Int):List Int:=
 if k=2 then [115]else if k=3 then [99]else if k=4 then [115,105]else if k=5 then [104,115,105]else if k=6 then [104,115,105]else
 if k=7 then [115,110,111]else if k=8 then [115,110,111,100]else if k=9 then [115,100]else if k=10 then [115]else []
theorem kSh_nums (k:Int):nums (kSh k)=Fct.shape k:=by unfold kSh Fct.shape;(repeat' split)<;>decide +kernel
theorem kHas_nums (k:Int):nums (kHas k)=hasL k:=by unfold kHas hasL;(repeat' split)<;>decide +kernel
theorem kSh_size (k:Int):(kSh k).size<=4:=by unfold kSh;(repeat' split)<;>decide
theorem kHas_size (k:Int):(kHas k).size<=4:=by unfold kHas;(repeat' split)<;>decide
abbrev form (k:Int):Value:=.agg #[.string (kSh k),.string (kHas k)]
def tabE:Nat->Array MapEntry
 | 0=>#[]
 | n+1=>(tabE n).push ⟨.int .i64 ((n:Int)+1),form ((n:Int)+1),n⟩
def Tab (w:World)(m:Value):Prop:=∃b,m= .map (some b)/\w.heap[b]? = some (.map (tabE 10) 10)
theorem Tab.below {w w':World} {m:Value}(h:Tab w m)(hb:Below w.heap.size w w'):Tab w' m:=by
 obtain⟨b,rfl,h⟩:=h
 exact⟨b,rfl,by rw[hb.block b (by exact(Array.getElem?_eq_some_iff.1 h).1)];exact h⟩
theorem tab_find (k:Int)(hk:1<=k/\k < 11):∃i,Instr.findNow (.int .i64) (.int .i64 k) (tabE 10).toList 0=some (some (i,form k)):=by
 have e:k=1\/k=2\/k=3\/k=4\/k=5\/k=6\/k=7\/k=8\/k=9\/k=10:=by omega
 rcases e with rfl | rfl | rfl | rfl | rfl | rfl | rfl | rfl | rfl | rfl<;>exact⟨_,rfl⟩
theorem tab_none (k:Int)(hk:¬(1<=k/\k < 11)):Instr.findNow (.int .i64) (.int .i64 k) (tabE 10).toList 0=some none:=by
 have h1:(k == 1)=false:=by simp;omega
 have h2:(k == 2)=false:=by simp;omega
 have h3:(k == 3)=false:=by simp;omega
 have h4:(k == 4)=false:=by simp;omega
 have h5:(k == 5)=false:=by simp;omega
 have h6:(k == 6)=false:=by simp;omega
 have h7:(k == 7)=false:=by simp;omega
 have h8:(k == 8)=false:=by simp;omega
 have h9:(k == 9)=false:=by simp;omega
 have h10:(k == 10)=false:=by simp;omega
 simp[tabE,Instr.findNow,Instr.sameNow,h1,h2,h3,h4,h5,h6,h7,h8,h9,h10]
theorem form_zero (w:World):(zeroValue 79).run Tryz.prog w= .ok (.agg #[.string ⟨#[]⟩,.string ⟨#[]⟩]) w:=by kernel_rfl
theorem look_yes {w:World} {m:Value}(h:Tab w m)(k:Int)(hk:1<=k/\k < 11)(ok:Bool):(Instr.lookup 76 m (.int .i64 k) ok).run Tryz.prog w= .ok (if ok then .tuple #[form k,.bool true]else form k) w:=by
 obtain⟨b,rfl,h⟩:=h
 obtain⟨i,hf⟩:=tab_find k hk
 exact run_lookup_found w _ _ _ Tryz.underlying76 Tryz.underlying3 b _ _ h k i _ hf ok
theorem look_no {w:World} {m:Value}(h:Tab w m)(k:Int)(hk:¬(1<=k/\k < 11))(ok:Bool):(Instr.lookup 76 m (.int .i64 k) ok).run Tryz.prog w= .ok (if ok then .tuple #[.agg #[.string ⟨#[]⟩,.string ⟨#[]⟩],.bool false]else .agg #[.string ⟨#[]⟩,.string ⟨#[]⟩]) w:=by
 obtain⟨b,rfl,h⟩:=h
 exact run_lookup_none w _ _ _ Tryz.underlying76 Tryz.underlying3 _ form_zero b _ _ h k (tab_none k hk) ok
theorem ins_step (w:World)(n:Nat)(v:Value)(k:Int)(hk:k=(n:Int)+1)(hv:v=form k)(hf:Instr.findNow (.int .i64) (.int .i64 k) (tabE n).toList 0=some none):
 (Instr.mapUpdate 76 (.map (some w.heap.size)) (.int .i64 k) v).run Tryz.prog (w.alloc (.map (tabE n) n))= .ok () (w.alloc (.map (tabE (n+1)) (n+1))):=by
 subst hk hv
 exact run_insert_int w _ _ _ Tryz.underlying76 Tryz.underlying3 _ n _ _ hf
theorem forms_any (w:World):Calls Tryz.prog 41 #[] w fun e w'=>∃m,e= .returned m/\Tab w' m/\Below w.heap.size w w':=by
 have hmm:(Instr.makeMap 76 none).run Tryz.prog w= .ok (.map (some w.heap.size)) (w.alloc (.map (tabE 0) 0)):=run_makeMap _ w
 have i1:=ins_step w 0 (.agg #[.string ⟨#[]⟩,.string ⟨#[]⟩]) 1 rfl rfl rfl
 have i2:=ins_step w 1 (.agg #[.string ⟨#[110]⟩,.string ⟨#[115]⟩]) 2 rfl rfl rfl
 have i3:=ins_step w 2 (.agg #[.string ⟨#[98]⟩,.string ⟨#[99]⟩]) 3 rfl rfl rfl
 have i4:=ins_step w 3 (.agg #[.string ⟨#[110,100]⟩,.string ⟨#[115,105]⟩]) 4 rfl rfl rfl
 have i5:=ins_step w 4 (.agg #[.string ⟨#[110,110,100]⟩,.string ⟨#[104,115,105]⟩]) 5 rfl rfl rfl
 have i6:=ins_step w 5 (.agg #[.string ⟨#[110,110,100]⟩,.string ⟨#[104,115,105]⟩]) 6 rfl rfl rfl
 have i7:=ins_step w 6 (.agg #[.string ⟨#[110,110,110]⟩,.string ⟨#[115,110,111]⟩]) 7 rfl rfl rfl
 have i8:=ins_step w 7 (.agg #[.string ⟨#[110,110,110,98]⟩,.string ⟨#[115,110,111,100]⟩]) 8 rfl rfl rfl
 have i9:=ins_step w 8 (.agg #[.string ⟨#[110,98]⟩,.string ⟨#[115,100]⟩]) 9 rfl rfl rfl
 have i10:=ins_step w 9 (.agg #[.string ⟨#[110]⟩,.string ⟨#[115]⟩]) 10 rfl rfl rfl
 have hT:=Lib.hid (show Tab (w.alloc (.map (tabE 10) 10)) (.map (some w.heap.size))from⟨_,rfl,heap_alloc_new _ _⟩)
 have hB:=Lib.hid ((Below.refl w.heap.size w).alloc (Nat.le_refl _) (.map (tabE 10) 10))
 simp only[Nat.reduceAdd]at i1 i2 i3 i4 i5 i6 i7 i8 i9 i10
 generalize w.alloc (.map (tabE 0) 0)=w0 at *
 generalize w.alloc (.map (tabE 1) 1)=w1 at *
 generalize w.alloc (.map (tabE 2) 2)=w2 at *
 generalize w.alloc (.map (tabE 3) 3)=w3 at *
 generalize w.alloc (.map (tabE 4) 4)=w4 at *
 generalize w.alloc (.map (tabE 5) 5)=w5 at *
 generalize w.alloc (.map (tabE 6) 6)=w6 at *
 generalize w.alloc (.map (tabE 7) 7)=w7 at *
 generalize w.alloc (.map (tabE 8) 8)=w8 at *
 generalize w.alloc (.map (tabE 9) 9)=w9 at *
 generalize w.alloc (.map (tabE 10) 10)=w10 at *
 go_enter Tryz.func41,Tryz.ntmps41
 go_wp2_with fail
 go_ret
 exact⟨_,rfl,hT.out,hB.out⟩
end
section
open Go.RowKit Sha
attribute [local go_sem] U_and U_or U_xor U_add U_shl8 U_shr3 U_shr10 U_not U_notmax U_or_int
theorem bits31 (n:Nat)(h:1<=n/\n<=31):bits BinOp.and IntKind.u64 (IntKind.u64.wrap (-(n:Int))) 31=32 - (n:Int):=by
 have:n=1\/n=2\/n=3\/n=4\/n=5\/n=6\/n=7\/n=8\/n=9\/n=10\/n=11\/n=12\/n=13\/n=14\/n=15\/n=16\/n=17\/n=18\/n=19\/n=20\/n=21\/n=22\/n=23\/n=24\/n=25\/n=26\/n=27\/n=28\/n=29\/n=30\/n=31:=by omega
 rcases this with h | h | h | h | h | h | h | h | h | h | h | h | h | h | h | h | h | h | h | h | h | h | h | h | h | h | h | h | h | h | h<;>subst h<;>decide +kernel
theorem rot_any (x:W)(n:Nat)(w:World)(hn:1<=n/\n<=31):
 Calls Tryz.prog 186 #[v32 x,.int .i64 (-(n:Int))] w fun e w'=>e= .returned (v32 (rotr x n))/\w=w':=by
 have hb:=bits31 n hn
 go_enter Tryz.func186,Tryz.ntmps186
 go_wp2
 go_ret
 refine⟨ret_int ?_,rfl⟩
 rw[U_shl,show 32 - (32 - n)=n by omega,U_shr,U_or,rot x n hn]
theorem turned_any (x:W)(n:Int)(w:World)(hn:1<=n/\n<=31):
 Calls Tryz.prog 170 #[v32 x,.int .i64 n] w fun e w'=>e= .returned (v32 (rotr x n.toNat))/\w=w':=by
 obtain⟨n,rfl⟩:=Int.eq_ofNat_of_zero_le (show 0<=n by omega)
 go_enter Tryz.func170,Tryz.ntmps170
 go_wp2_with (go_at_call 186;refine(rot_any _ _ _ (by omega)).mono ?_;rintro e w' ⟨rfl,rfl⟩)
 go_ret
 exact⟨rfl,rfl⟩
theorem turned_still (x:W)(n:Int)(w:World)(hn:1<=n/\n<=31):
 Calls Tryz.prog 170 #[v32 x,.int .i64 n] w fun e w'=>e= .returned (v32 (rotr x n.toNat))/\w'=w:=(turned_any x n w hn).mono fun _ _ ⟨h,h'⟩=>⟨h,h'.symm⟩
theorem info59 (zs:List Int):(Tryz.prog.info? 189).map (fun i=>i.zero)=some (some (.agg ((fill zs 0).map v32).toArray)):=by kernel_rfl
theorem byte1:(Tryz.prog.info? 5).map (fun i=>i.size)=some 1:=by kernel_rfl
theorem word1:(Tryz.prog.info? 151).map (fun i=>i.size)=some 1:=by kernel_rfl
theorem size59:(Tryz.prog.info? 189).map (fun i=>i.size)=some 64:=by kernel_rfl
theorem one32 (l:List W):(l.map v32).toArray.all (·.oneCell')=true:=by simp[Value.oneCell']
theorem size62:(Tryz.prog.info? 193).map (fun i=>i.size)=some 64:=by kernel_rfl
theorem words_any (zs:List Int)(w:World)(hl:zs.length=64)(hz:∀n∈zs,0<=n/\n<=255):
 Calls Tryz.prog 169 #[.agg (zs.map v8).toArray] w fun e w'=>e= .returned (.agg ((wordsOf zs).map v32).toArray)/\Below w.heap.size w w':=by
 have hsz:(Tryz.prog.info? 193).map (fun i=>i.size)=some (zs.map v8).toArray.size:=by rw[size62];simp[hl]
 have Hl:=Lib.hid hl
 clear hl
 go_enter Tryz.func169,Tryz.ntmps169
 go_wp2_with (first | (refine wpList_box_arr rfl 193 _ rfl _ rfl ?_) | (refine wpList_alloc_arr rfl 189 rfl _ (info59 zs) ?_) | (refine wpList_load_row rfl 193 _ rfl _ rfl _ _ _ _ (Blk.old (Blk.old (Blk.new _ _ _) _) _) (Tryz.underlying193) rfl hsz ?_))
 go_loopw [10] (fun i wr=>∃k:Nat,k<=64/\i= .int .i64 k/\Below w.heap.size w wr/\Blk wr (w.heap.size+1) ((fill zs 0).map v32) 189/\Blk wr (w.heap.size+1+1) ((fill zs k).map v32) 189) (fun i _=>64 - (intOf i).toNat)
 case atStart=>
  refine⟨0,by omega,rfl,?_,?_,?_⟩
  ·exact(((Below.refl _ _).alloc (by simp) _).alloc (by simp) _).alloc (by simp;omega) _
  ·have:=(Blk.new (w.alloc (Obj.cells (List.map v8 zs).toArray 193)) ((fill zs 0).map v32).toArray 189).old (Obj.cells (List.map v32 (fill zs 0)).toArray 189)
   simpa using this
  ·have:=Blk.new ((w.alloc (Obj.cells (List.map v8 zs).toArray 193)).alloc (Obj.cells (List.map v32 (fill zs 0)).toArray 189)) ((fill zs 0).map v32).toArray 189
   simpa using this
 case round=>
  obtain⟨k,hk,rfl,hb,hr,hc⟩:=hrel
  by_cases hlt:k < 64
  ·obtain⟨x,hx⟩:∃x,x=(fill zs k).getD (k / 4) 0:=⟨_,rfl⟩
   obtain⟨n,hn⟩:∃n,n=zs.getD k 0:=⟨_,rfl⟩
   have c1:wr.cell? ⟨w.heap.size+1+1,k / 4,none⟩=some (v32 x):=by
    rw[hc.cell,List.getElem?_map,List.getElem?_eq_getElem (by rw[fill_length];omega),hx];simp[fill_length,show k / 4 < 64 by omega]
   have c2:wr.frozen? ⟨w.heap.size+1+1,k / 4,none⟩=false:=hc.free _
   have C3:=Lib.hid (show(zs.map v8).toArray[(k:Int).toNat]? = some (v8 n) by
    simp[Hl.out,hlt,hn])
   have c4:0<=n/\n<=255:=hz n (by rw[hn];simp[Hl.out,hlt])
   have Hx:=Lib.hid hx
   have Hn:=Lib.hid hn
   have HC:=Lib.hid hc
   have HR:=Lib.hid hr
   clear hc hx hn hr
   go_wp2_with (first | (refine wpList_index_arr rfl 193 _ _ rfl _ rfl _ rfl 64 5 Tryz.underlying193 _ Tryz.underlying5 rfl byte1 (by omega) _ C3.out ?_))
   go_roundw
   case rel=>
    refine⟨k+1,by omega,by go_num,hb.setCell (by simp;omega) _,HR.out.setOther _ _ (by simp),?_⟩
    rw[fill_succ zs k x n Hx.out Hn.out]
    exact HC.out.set _ _
   case measure=>simp[intOf];omega
  ·obtain rfl:k=64:=by omega
   go_wp2_with fail
   obtain⟨l,hl⟩:∃l,l=fill zs 64:=⟨_,rfl⟩
   have ll:l.length=64:=by rw[hl,fill_length]
   rw[<-hl]at hc
   have hfin:wordsOf zs=ext l 48:=by rw[hl,wordsOf_eq]
   clear hl
   have Hfin:=Lib.hid hfin
   have Hll:=Lib.hid ll
   clear hfin ll
   go_loopw [6] (fun i wr=>∃k:Nat,k<=48/\i= .int .i64 (k+16)/\Below w.heap.size w wr/\Blk wr (w.heap.size+1) ((fill zs 0).map v32) 189/\Blk wr (w.heap.size+1+1) ((ext l k).map v32) 189) (fun i _=>64 - (intOf i).toNat)
   case atStart=>exact⟨0,by omega,rfl,hb,hr,by unfold ext;exact hc⟩
   case round=>
    clear hb hr hc hk
    obtain⟨k,hk,rfl,hb,hr,hc⟩:=hrel
    by_cases hlt2:k < 48
    ·obtain⟨x0,hx0⟩:∃x,x=(ext l k).getD k 0:=⟨_,rfl⟩
     obtain⟨x1,hx1⟩:∃x,x=(ext l k).getD (k+1) 0:=⟨_,rfl⟩
     obtain⟨x9,hx9⟩:∃x,x=(ext l k).getD (k+9) 0:=⟨_,rfl⟩
     obtain⟨x14,hx14⟩:∃x,x=(ext l k).getD (k+14) 0:=⟨_,rfl⟩
     have lk:(ext l k).length=64:=by rw[ext_length,Hll.out]
     have c0:wr.cell? ⟨w.heap.size+1+1,k,none⟩=some (v32 x0):=by
      rw[hc.cell,List.getElem?_map,List.getElem?_eq_getElem (by omega),hx0];simp[lk,show k < 64 by omega]
     have c1:wr.cell? ⟨w.heap.size+1+1,k+1,none⟩=some (v32 x1):=by
      rw[hc.cell,List.getElem?_map,List.getElem?_eq_getElem (by omega),hx1];simp[lk,show k+1 < 64 by omega]
     have c9:wr.cell? ⟨w.heap.size+1+1,k+9,none⟩=some (v32 x9):=by
      rw[hc.cell,List.getElem?_map,List.getElem?_eq_getElem (by omega),hx9];simp[lk,show k+9 < 64 by omega]
     have c14:wr.cell? ⟨w.heap.size+1+1,k+14,none⟩=some (v32 x14):=by
      rw[hc.cell,List.getElem?_map,List.getElem?_eq_getElem (by omega),hx14];simp[lk,show k+14 < 64 by omega]
     have c16:wr.cell? ⟨w.heap.size+1+1,k+16,none⟩=some (v32 ((ext l k).getD (k+16) 0)):=by
      rw[hc.cell,List.getElem?_map,List.getElem?_eq_getElem (by omega)];simp[lk,show k+16 < 64 by omega]
     have cf:wr.frozen? ⟨w.heap.size+1+1,k+16,none⟩=false:=hc.free _
     have H0:=Lib.hid hx0
     have H1:=Lib.hid hx1
     have H9:=Lib.hid hx9
     have H14:=Lib.hid hx14
     have HC:=Lib.hid hc
     have HR:=Lib.hid hr
     clear hx0 hx1 hx9 hx14 hc hr lk
     go_wp2_with fail
     go_quiet (fail)
     go_wp2_with fail
     refine region_tail 29 (by kernel_rfl) (by kernel_rfl) ?_
     simp only[List.take_succ_cons,List.take_zero,List.drop_succ_cons,List.drop_zero]
     repeat(first | go_big_quiet_skip | (go_big_quiet_want;go_big_quiet_op;first | go_big_quiet_on | (refine⟨_,turned_still _ _ _ (by omega),?_⟩;go_big_quiet_on)))
     refine wpQuiet_nil ?_
     go_wp2_with fail
     go_roundw
     case rel=>
      refine⟨k+1,by omega,by go_num,(below_drewN hb _).setCell (by simp;omega) _,(HR.out.drewN _).setOther _ _ (by simp),?_⟩
      rw[ext_succ l k x0 x1 x9 x14 H0.out H1.out H9.out H14.out]
      unfold small0 small1
      exact(HC.out.drewN _).set _ _
     case measure=>simp[intOf];omega
    ·obtain rfl:k=48:=by omega
     have HC:=Lib.hid hc
     have HR:=Lib.hid hr
     have hsz2:(Tryz.prog.info? 189).map (fun i=>i.size)=some ((ext l 48).map v32).toArray.size:=by rw[size59];simp[ext_length,Hll.out]
     clear hc hr
     go_wp2_with (first
      | (refine wpList_load_row rfl 189 _ rfl _ rfl _ _ _ _ HC.out (Tryz.underlying189) rfl hsz2 ?_)
      | (refine wpList_store_row rfl 189 _ _ rfl _ _ rfl rfl _ _ HR.out hsz2 (by simp[fill_length,ext_length,Hll.out]) (one32 _) ?_))
     refine bodyPost_ret (v:=.agg ((wordsOf zs).map v32).toArray) ?_ rfl ⟨rfl,Below.setRow hb (by omega) _⟩
     rw[Hfin.out]
     exact results_cell_row rfl _ _ _ _ _ _ _ rfl (HR.out.row _) (Tryz.underlying189) rfl hsz2
end
section
open Go.RowKit Sha
attribute [local go_sem] U_and U_or U_xor U_add U_shl8 U_shr3 U_shr10 U_not U_notmax U_or_int
def zeros8:List W:=List.replicate 8 0
theorem zeros8_length:zeros8.length=8:=rfl
attribute [irreducible] zeros8
theorem info44:(Tryz.prog.info? 153).map (fun i=>i.zero)=some (some (.agg (zeros8.map v32).toArray)):=by kernel_rfl
theorem size44:(Tryz.prog.info? 153).map (fun i=>i.size)=some 8:=by kernel_rfl
theorem constants_any (w:World):Calls Tryz.prog 141 #[] w fun e w'=>e= .returned (.agg (kList.map v32).toArray)/\Below w.heap.size w w':=by
 have lk:(kList.map v32).toArray.size=64:=by kernel_rfl
 have hsz:(Tryz.prog.info? 189).map (fun i=>i.size)=some (kList.map v32).toArray.size:=by rw[size59,lk]
 have hb:=Blk.new w ((fill [] 0).map v32).toArray 189
 have HB:=Lib.hid hb
 have LK:=Lib.hid lk
 clear hb lk
 go_enter Tryz.func141,Tryz.ntmps141
 go_wp2_with (first
  | (refine wpList_alloc_arr rfl 189 rfl _ (info59 []) ?_)
  | (refine wpList_build' rfl 189 _ rfl (kList.map v32).toArray (by kernel_rfl) ?_)
  | (refine wpList_store_row rfl 189 _ _ rfl _ _ rfl rfl _ _ HB.out hsz (by rw[LK.out];simp[fill_length]) (one32 _) ?_))
 refine bodyPost_ret (v:=.agg (kList.map v32).toArray) ?_ rfl ⟨rfl,Below.setRow ((Below.refl _ _).alloc (by simp) _) (by omega) _⟩
 exact results_cell_row rfl _ _ _ _ _ _ _ rfl (HB.out.row _) (Tryz.underlying189) rfl hsz
theorem first_any (w:World):Calls Tryz.prog 110 #[] w fun e w'=>e= .returned (.agg (first8.map v32).toArray)/\Below w.heap.size w w':=by
 have lk:(first8.map v32).toArray.size=8:=by kernel_rfl
 have hsz:(Tryz.prog.info? 153).map (fun i=>i.size)=some (first8.map v32).toArray.size:=by rw[size44,lk]
 have hb:=Blk.new w (zeros8.map v32).toArray 153
 have HB:=Lib.hid hb
 have LK:=Lib.hid lk
 clear hb lk
 go_enter Tryz.func110,Tryz.ntmps110
 go_wp2_with (first
  | (refine wpList_alloc_arr rfl 153 rfl _ info44 ?_)
  | (refine wpList_build' rfl 153 _ rfl (first8.map v32).toArray (by kernel_rfl) ?_)
  | (refine wpList_store_row rfl 153 _ _ rfl _ _ rfl rfl _ _ HB.out hsz (by rw[LK.out];simp[zeros8_length]) (one32 _) ?_))
 refine bodyPost_ret (v:=.agg (first8.map v32).toArray) ?_ rfl ⟨rfl,Below.setRow ((Below.refl _ _).alloc (by simp) _) (by omega) _⟩
 exact results_cell_row rfl _ _ _ _ _ _ _ rfl (HB.out.row _) (Tryz.underlying153) rfl hsz
end
section
open Go.RowKit Sha
attribute [local go_sem] U_and U_or U_xor U_add U_shl8 U_shr3 U_shr10 U_not U_notmax U_or_int
def AtRound (ks ws:List W)(r0:R8)(wc:World)(v9 v10 v11 v12 v13 v14 v15 v16 i:Value)(wr:World):Prop:=
 ∃(k:Nat) (a b c d e f g h:W),k<=64/\i= .int .i64 k/\v9=v32 a/\v10=v32 b/\v11=v32 c/\v12=v32 d/\v13=v32 e/\v14=v32 f/\v15=v32 g/\v16=v32 h/\Hid (rounds ks ws r0 k=⟨a,b,c,d,e,f,g,h⟩)/\Hid (∃n,wr=wc.drewN n)
theorem behind_any (s ks:List W)(zs:List Int)(w:World)(hs:s.length=8)(hk:ks.length=64)(hl:zs.length=64)(hz:∀n∈zs,0<=n/\n<=255):
 Calls Tryz.prog 142 #[.agg (s.map v32).toArray,.agg (ks.map v32).toArray,.agg (zs.map v8).toArray] w
  fun e w'=>e= .returned (.agg ((behindOf s ks zs).map v32).toArray)/\Below w.heap.size w w':=by
 have Hs:=Lib.hid hs
 have Hk:=Lib.hid hk
 have Hl:=Lib.hid hl
 clear hs hk hl
 go_enter Tryz.func142,Tryz.ntmps142
 go_upto_region 1 with(first | (refine wpList_box_arr rfl 153 _ rfl _ rfl ?_) | (refine wpList_box_arr rfl 189 _ rfl _ rfl ?_) | (refine wpList_box_arr rfl 193 _ rfl _ rfl ?_) | (refine wpList_alloc_arr rfl 153 rfl _ info44 ?_))
 simp only[Act.put,List.setIfInBounds_toArray,List.set_cons_zero,List.set_cons_succ,World.size_alloc]
 have f0:=((Blk.new w (s.map v32).toArray 153).old (Obj.cells (ks.map v32).toArray 189)).old (Obj.cells (zs.map v8).toArray 193) |>.old (Obj.cells (zeros8.map v32).toArray 153)
 have f1:=((Blk.new (w.alloc (Obj.cells (s.map v32).toArray 153)) (ks.map v32).toArray 189).old (Obj.cells (zs.map v8).toArray 193)).old (Obj.cells (zeros8.map v32).toArray 153)
 have f2:=((Blk.new ((w.alloc (Obj.cells (s.map v32).toArray 153)).alloc (Obj.cells (ks.map v32).toArray 189)) (zs.map v8).toArray 193).old (Obj.cells (zeros8.map v32).toArray 153))
 have f3:=Blk.new (((w.alloc (Obj.cells (s.map v32).toArray 153)).alloc (Obj.cells (ks.map v32).toArray 189)).alloc (Obj.cells (zs.map v8).toArray 193)) (zeros8.map v32).toArray 153
 have b4:=((((Below.refl w.heap.size w).alloc (by simp) (Obj.cells (s.map v32).toArray 153)).alloc (by simp) (Obj.cells (ks.map v32).toArray 189)).alloc (by simp;omega) (Obj.cells (zs.map v8).toArray 193)).alloc (by simp;omega) (Obj.cells (zeros8.map v32).toArray 153)
 have z4:((((w.alloc (Obj.cells (s.map v32).toArray 153)).alloc (Obj.cells (ks.map v32).toArray 189)).alloc (Obj.cells (zs.map v8).toArray 193)).alloc (Obj.cells (zeros8.map v32).toArray 153)).heap.size=w.heap.size+1+1+1+1:=by simp
 generalize((((w.alloc (Obj.cells (s.map v32).toArray 153)).alloc (Obj.cells (ks.map v32).toArray 189)).alloc (Obj.cells (zs.map v8).toArray 193)).alloc (Obj.cells (zeros8.map v32).toArray 153))=w4 at *
 simp only[World.size_alloc]at f0 f1 f2 f3
 go_outline
 go_cut [7,8] (fun s7 s8 wx=>∃g7 g8:Nat,s7= .pointer (some ⟨g7,0,none⟩)/\s8= .pointer (some ⟨g8,0,none⟩)/\w.heap.size+1+1+1+1<=g7/\w.heap.size+1+1+1+1<=g8/\g7≠g8/\Below (w.heap.size+1+1+1+1) w4 wx/\Blk wx g7 ((wordsOf zs).map v32) 189/\Blk wx g8 (s.map v32) 153)
 case first=>
  have hbf:∀g cs t,Blk w4 g cs t->∀wv,Below (w.heap.size+1+1+1+1) w4 wv->Blk wv g cs t:=fun g cs t h wv hb=>h.below hb (by have:=h.lt;omega)
  have hsz44:(Tryz.prog.info? 153).map (fun i=>i.size)=some (s.map v32).toArray.size:=by rw[size44];simp[Hs.out]
  have hsz62:(Tryz.prog.info? 193).map (fun i=>i.size)=some (zs.map v8).toArray.size:=by rw[size62];simp[Hl.out]
  have hsz59:(Tryz.prog.info? 189).map (fun i=>i.size)=some ((wordsOf zs).map v32).toArray.size:=by rw[size59];simp[wordsOf_length]
  refine wp_region_held (S:=fun wv=>Blk wv w.heap.size (s.map v32) 153/\Blk wv (w.heap.size+1+1) (zs.map v8) 193) (by kernel_rfl) ?_
  change wpAnyH _ _ _ _ _ _ _ _ (World.drew _)
  have hI:Two w4 (w.heap.size+1+1+1+1) false false 189 153 [] [] 0 0 w4.drew:=⟨(Below.refl _ _).drew,by rw[<-z4];exact Nat.le_refl _,by simp,by simp,by simp⟩
  generalize w4.drew=wv at hI ⊢
  refine wpAnyH_take (i:=0) rfl (by kernel_rfl) (by kernel_rfl) (by kernel_rfl) (fun _ _ _ h=>h) (yieldsIf_load_row rfl 193 _ rfl _ rfl _ _ _ (fun _ h=>h.2) (Tryz.underlying193) rfl hsz62) ⟨hbf _ _ _ f0 _ hI.below,hbf _ _ _ f2 _ hI.below⟩ ?_
  refine wpAnyH_take (i:=2) rfl (by kernel_rfl) (by kernel_rfl) (by kernel_rfl) (fun _ _ _ h=>h) (yieldsIf_load_row rfl 153 _ rfl _ rfl _ _ _ (fun _ h=>h.1) (Tryz.underlying153) rfl hsz44) ⟨hbf _ _ _ f0 _ hI.below,hbf _ _ _ f2 _ hI.below⟩ ?_
  simp only[Act.put,List.setIfInBounds_toArray,List.set_cons_zero,List.set_cons_succ,List.getElem_toArray,List.getElem_cons_succ,List.getElem_cons_zero]
  iterate 5
   (all_goals first
     | (refine wpAnyH_ready (rs:=[1,3,4]) ?_ (List.cons_ne_nil _ _) ?_;decide +kernel;refine(ready_stepH rfl rfl (fun K hK=>?_) (ready_stepH rfl rfl (fun K hK=>?_) (ready_stepH rfl rfl (fun K hK=>?_) AllReadyH.nil))))
     | (refine wpAnyH_ready (rs:=[3,4]) ?_ (List.cons_ne_nil _ _) ?_;decide +kernel;refine(ready_stepH rfl rfl (fun K hK=>?_) (ready_stepH rfl rfl (fun K hK=>?_) AllReadyH.nil)))
     | (refine wpAnyH_ready (rs:=[1,4]) ?_ (List.cons_ne_nil _ _) ?_;decide +kernel;refine(ready_stepH rfl rfl (fun K hK=>?_) (ready_stepH rfl rfl (fun K hK=>?_) AllReadyH.nil)))
     | (refine wpAnyH_ready (rs:=[1,3]) ?_ (List.cons_ne_nil _ _) ?_;decide +kernel;refine(ready_stepH rfl rfl (fun K hK=>?_) (ready_stepH rfl rfl (fun K hK=>?_) AllReadyH.nil)))
     | (refine wpAnyH_ready (rs:=[4,5]) ?_ (List.cons_ne_nil _ _) ?_;decide +kernel;refine(ready_stepH rfl rfl (fun K hK=>?_) (ready_stepH rfl rfl (fun K hK=>?_) AllReadyH.nil)))
     | (refine wpAnyH_ready (rs:=[1]) ?_ (List.cons_ne_nil _ _) ?_;decide +kernel;refine(ready_stepH rfl rfl (fun K hK=>?_) AllReadyH.nil))
     | (refine wpAnyH_ready (rs:=[3]) ?_ (List.cons_ne_nil _ _) ?_;decide +kernel;refine(ready_stepH rfl rfl (fun K hK=>?_) AllReadyH.nil))
     | (refine wpAnyH_ready (rs:=[4]) ?_ (List.cons_ne_nil _ _) ?_;decide +kernel;refine(ready_stepH rfl rfl (fun K hK=>?_) AllReadyH.nil))
     | (refine wpAnyH_ready (rs:=[5]) ?_ (List.cons_ne_nil _ _) ?_;decide +kernel;refine(ready_stepH rfl rfl (fun K hK=>?_) AllReadyH.nil))
     | (refine wpAnyH_ready (rs:=[6]) ?_ (List.cons_ne_nil _ _) ?_;decide +kernel;refine(ready_stepH rfl rfl (fun K hK=>?_) AllReadyH.nil))
    all_goals first
     | (refine wp_alloc_arr 189 rfl _ (info59 zs) ?_;have hI:=hI.alloc1 ((fill zs 0).map v32);refine hK _ _ ⟨hbf _ _ _ f0 _ hI.below,hbf _ _ _ f2 _ hI.below⟩ ?_;try simp only[Act.put,List.setIfInBounds_toArray,List.set_cons_zero,List.set_cons_succ,List.getElem_toArray,List.getElem_cons_succ,List.getElem_cons_zero,World.size_alloc]at hI ⊢;clear hK K)
     | (refine wp_alloc_arr 153 rfl _ info44 ?_;have hI:=hI.alloc2 (zeros8.map v32);refine hK _ _ ⟨hbf _ _ _ f0 _ hI.below,hbf _ _ _ f2 _ hI.below⟩ ?_;try simp only[Act.put,List.setIfInBounds_toArray,List.set_cons_zero,List.set_cons_succ,List.getElem_toArray,List.getElem_cons_succ,List.getElem_cons_zero,World.size_alloc]at hI ⊢;clear hK K)
     | (refine wp_store_row 189 _ _ rfl _ _ rfl rfl _ _ (hI.one rfl).2 hsz59 (by simp[fill_length,wordsOf_length]) (one32 _) ?_;have hI:=hI.store1 ((wordsOf zs).map v32);refine hK _ _ ⟨hbf _ _ _ f0 _ hI.below,hbf _ _ _ f2 _ hI.below⟩ ?_;try simp only[Act.put,List.setIfInBounds_toArray,List.set_cons_zero,List.set_cons_succ,List.getElem_toArray,List.getElem_cons_succ,List.getElem_cons_zero,World.size_alloc]at hI ⊢;clear hK K)
     | (refine wp_store_row 153 _ _ rfl _ _ rfl rfl _ _ (hI.two rfl).2 hsz44 (by simp[zeros8_length,Hs.out]) (one32 _) ?_;have hI:=hI.store2 (s.map v32);refine hK _ _ ⟨hbf _ _ _ f0 _ hI.below,hbf _ _ _ f2 _ hI.below⟩ ?_;try simp only[Act.put,List.setIfInBounds_toArray,List.set_cons_zero,List.set_cons_succ,List.getElem_toArray,List.getElem_cons_succ,List.getElem_cons_zero,World.size_alloc]at hI ⊢;clear hK K)
     | (go_simp;go_at_call 169;refine(words_any zs _ Hl.out hz).mono ?_;rintro e w1 ⟨rfl,hb1⟩;have hI:=hI.call hb1;refine hK _ _ ⟨hbf _ _ _ f0 _ hI.below,hbf _ _ _ f2 _ hI.below⟩ ?_;try simp only[Act.put,List.setIfInBounds_toArray,List.set_cons_zero,List.set_cons_succ,List.getElem_toArray,List.getElem_cons_succ,List.getElem_cons_zero,World.size_alloc]at hI ⊢;clear hK K))
  all_goals
   refine wpAnyH_done (by decide +kernel) ?_ _
   go_wp2_with fail
   go_meet
   exact⟨_,_,rfl,rfl,(hI.one rfl).1,(hI.two rfl).1,hI.apart rfl rfl,hI.below,(hI.one rfl).2,(hI.two rfl).2⟩
 case rest=>
  obtain⟨g7,g8,rfl,rfl,hg7,hg8,hne,hbw,hw7,hw8⟩:=hcut
  obtain⟨a0,a1,a2,a3,a4,a5,a6,a7,hs8⟩:=eight s Hs.out
  have c0:wc.cell? ⟨g8,0,none⟩=some (v32 a0):=by rw[hw8.cell,hs8];rfl
  have c1:wc.cell? ⟨g8,1,none⟩=some (v32 a1):=by rw[hw8.cell,hs8];rfl
  have c2:wc.cell? ⟨g8,2,none⟩=some (v32 a2):=by rw[hw8.cell,hs8];rfl
  have c3:wc.cell? ⟨g8,3,none⟩=some (v32 a3):=by rw[hw8.cell,hs8];rfl
  have c4:wc.cell? ⟨g8,4,none⟩=some (v32 a4):=by rw[hw8.cell,hs8];rfl
  have c5:wc.cell? ⟨g8,5,none⟩=some (v32 a5):=by rw[hw8.cell,hs8];rfl
  have c6:wc.cell? ⟨g8,6,none⟩=some (v32 a6):=by rw[hw8.cell,hs8];rfl
  have c7:wc.cell? ⟨g8,7,none⟩=some (v32 a7):=by rw[hw8.cell,hs8];rfl
  have F1:=Lib.hid (f1.below hbw (by omega))
  have F3:=Lib.hid (f3.below hbw (by omega))
  have W7:=Lib.hid hw7
  have W8:=Lib.hid hw8
  have BW:=Lib.hid (b4.trans (hbw.mono (by omega)))
  have Hs8:=Lib.hid hs8
  clear f0 f1 f2 f3 b4 z4 hbw hw7 hw8 hs8
  go_wp2_with fail
  go_quiet (fail)
  clear c0 c1 c2 c3 c4 c5 c6 c7
  go_wp2_with fail
  obtain⟨r0,hr0⟩:∃r:R8,r=⟨a0,a1,a2,a3,a4,a5,a6,a7⟩:=⟨_,rfl⟩
  have Hr0:=Lib.hid hr0
  clear hr0
  go_loopw [9,10,11,12,13,14,15,16,41] (fun v9 v10 v11 v12 v13 v14 v15 v16 i wr=>AtRound ks (wordsOf zs) r0 wc v9 v10 v11 v12 v13 v14 v15 v16 i wr) (fun _ _ _ _ _ _ _ _ i _=>64 - (intOf i).toNat)
  case atStart=>exact⟨0,_,_,_,_,_,_,_,_,by omega,rfl,rfl,rfl,rfl,rfl,rfl,rfl,rfl,rfl,by rw[Sha.rounds_zero];exact Hr0.out,⟨nq,rfl⟩⟩
  case round=>
   obtain⟨k,a,b,c,d,e,f,g,h,hk,rfl,rfl,rfl,rfl,rfl,rfl,rfl,rfl,rfl,HR,HQ⟩:=hrel
   have W7:Hid (Blk wr g7 ((wordsOf zs).map v32) 189):=by obtain⟨n,e⟩:=HQ.out;rw[e];exact W7.out.drewN n
   have F1:Hid (Blk wr (w.heap.size+1) (ks.map v32) 189):=by obtain⟨n,e⟩:=HQ.out;rw[e];exact F1.out.drewN n
   by_cases hlt:k < 64
   ·obtain⟨kx,hkx⟩:∃x,x=ks.getD k 0:=⟨_,rfl⟩
    obtain⟨wx,hwx⟩:∃x,x=(wordsOf zs).getD k 0:=⟨_,rfl⟩
    have c4:wr.cell? ⟨w.heap.size+1,k,none⟩=some (v32 kx):=by
     rw[F1.out.cell,List.getElem?_map,List.getElem?_eq_getElem (by rw[Hk.out];omega),hkx];simp[Hk.out,hlt]
    have c7:wr.cell? ⟨g7,k,none⟩=some (v32 wx):=by
     rw[W7.out.cell,List.getElem?_map,List.getElem?_eq_getElem (by rw[wordsOf_length];omega),hwx];simp[wordsOf_length,hlt]
    have HK:=Lib.hid hkx
    have HW:=Lib.hid hwx
    clear hkx hwx
    go_wp2_with fail
    go_quiet ((refine Calls.quiet_of_same (turned_still _ _ _ (by omega))))
    go_wp2_with (go_at_call 170;refine(turned_any _ _ _ (by omega)).mono ?_;rintro e w' ⟨rfl,rfl⟩)
    go_roundw
    case rel=>
     refine⟨k+1,h+(rotr e 6 ^^^ rotr e 11 ^^^ rotr e 25)+(e &&& f ^^^ ~~~e &&& g)+kx+wx+((rotr a 2 ^^^ rotr a 13 ^^^ rotr a 22)+(a &&& b ^^^ a &&& c ^^^ b &&& c)),a,b,c,d+(h+(rotr e 6 ^^^ rotr e 11 ^^^ rotr e 25)+(e &&& f ^^^ ~~~e &&& g)+kx+wx),e,f,g,by omega,by go_num,?_,rfl,rfl,rfl,?_,rfl,rfl,rfl,Sha.rounds_succ ks (wordsOf zs) r0 k a b c d e f g h kx wx HR.out HK.out HW.out,?_⟩
     ·congr 1;simp only[U_not3,U_notmax,U_and,U_xor,U_mod,BitVec.ofInt_add,ofInt_U]
     ·congr 1;simp only[U_not3,U_notmax,U_and,U_xor,U_mod,BitVec.ofInt_add,ofInt_U]
     obtain⟨n,e⟩:=HQ.out
     exact⟨n+nq,by rw[e,World.drewN_drewN]⟩
    case measure=>simp[intOf];omega
   ·obtain rfl:k=64:=by omega
    have W8:Hid (Blk wr g8 (s.map v32) 153):=by obtain⟨n,e⟩:=HQ.out;rw[e];exact W8.out.drewN n
    have F3:Hid (Blk wr (w.heap.size+1+1+1) (zeros8.map v32) 153):=by obtain⟨n,e⟩:=HQ.out;rw[e];exact F3.out.drewN n
    have BW:Hid (Below w.heap.size w wr):=by obtain⟨n,e⟩:=HQ.out;rw[e];exact below_drewN BW.out n
    have Hfin:Hid (behindOf s ks zs=addUpto s [a,b,c,d,e,f,g,h] 8):=by
     show _=_
     rw[behindOf_eq,show R8.get s=r0 from by rw[Hs8.out,get_eight,Hr0.out],HR.out];rfl
    go_wp2_with fail
    go_loopw [113] (fun i wr2=>∃k:Nat,k<=8/\i= .int .i64 k/\Below w.heap.size w wr2/\Blk wr2 g8 ((addUpto s [a,b,c,d,e,f,g,h] k).map v32) 153/\Blk wr2 (w.heap.size+1+1+1) (zeros8.map v32) 153) (fun i _=>8 - (intOf i).toNat)
    case atStart=>exact⟨0,by omega,rfl,BW.out,by rw[addUpto_zero];exact W8.out,F3.out⟩
    case round=>
     obtain⟨k,hk,rfl,hb,hc,hr⟩:=hrel
     by_cases hlt2:k < 8
     ·obtain⟨x,hx⟩:∃x,x=(addUpto s [a,b,c,d,e,f,g,h] k).getD k 0:=⟨_,rfl⟩
      obtain⟨y,hy⟩:∃y,y=([a,b,c,d,e,f,g,h]:List W).getD k 0:=⟨_,rfl⟩
      have lk:(addUpto s [a,b,c,d,e,f,g,h] k).length=8:=by rw[addUpto_length,Hs.out]
      have cx:wr.cell? ⟨g8,k,none⟩=some (v32 x):=by
       rw[hc.cell,List.getElem?_map,List.getElem?_eq_getElem (by omega),hx];simp[lk,hlt2]
      have cf:wr.frozen? ⟨g8,k,none⟩=false:=hc.free _
      have CY:Hid ((([a,b,c,d,e,f,g,h]:List W).map v32).toArray[(k:Int).toNat]? = some (v32 y)):=by
       show _=_
       rw[Int.toNat_natCast,List.getElem?_toArray,List.getElem?_map,List.getElem?_eq_getElem (by simpa using hlt2),hy,List.getD_eq_getElem?_getD,List.getElem?_eq_getElem (by simpa using hlt2)];rfl
      have HX:=Lib.hid hx
      have HY:=Lib.hid hy
      have HC:=Lib.hid hc
      have HR2:=Lib.hid hr
      clear hx hy hc hr lk
      go_wp2_with (first | (refine wpList_index_arr rfl 153 _ _ rfl _ rfl _ rfl 8 151 Tryz.underlying153 _ Tryz.underlying151 rfl word1 (by omega) _ CY.out ?_))
      go_roundw
      case rel=>
       have R2:Blk (wr.setCell ⟨g8,k,none⟩ (.int .u32 (U (x+y)))) g8 ((addUpto s [a,b,c,d,e,f,g,h] (k+1)).map v32) 153:=by
        rw[addUpto_succ s _ k x y HX.out HY.out]
        exact HC.out.set _ _
       exact⟨_,_,_,_,_,_,_,_,_,_,_,_,_,⟨k+1,by omega,by go_num,hb.setCell (by simp;omega) _,R2,HR2.out.setOther _ _ (by simp;omega)⟩,rfl⟩
      case measure=>simp[intOf];omega
     ·obtain rfl:k=8:=by omega
      have HC:=Lib.hid hc
      have HR2:=Lib.hid hr
      have hsz2:(Tryz.prog.info? 153).map (fun i=>i.size)=some ((addUpto s [a,b,c,d,e,f,g,h] 8).map v32).toArray.size:=by rw[size44];simp[addUpto_length,Hs.out]
      clear hc hr
      go_wp2_with (first
       | (refine wpList_load_row rfl 153 _ rfl _ rfl _ _ _ _ HC.out (Tryz.underlying153) rfl hsz2 ?_)
       | (refine wpList_store_row rfl 153 _ _ rfl _ _ rfl rfl _ _ HR2.out hsz2 (by simp[zeros8_length,addUpto_length,Hs.out]) (one32 _) ?_))
      refine bodyPost_ret (v:=.agg ((addUpto s [a,b,c,d,e,f,g,h] 8).map v32).toArray) ?_ rfl ⟨by rw[Hfin.out],Below.setRow hb (by omega) _⟩
      exact results_cell_row rfl _ _ _ _ _ _ _ rfl (HR2.out.row _) (Tryz.underlying153) rfl hsz2
end
section
open Go.RowKit Sha
theorem kList_length:kList.length=64:=by unfold kList;rfl
theorem slice1:(Tryz.prog.info? 5).map (fun i=>i.size)=some 1:=by kernel_rfl
theorem through_any (s:List W)(zs:List Int)(p:Option Addr)(cap:Nat)(w:World)(hs:s.length=8)(hz:∀n∈zs,0<=n/\n<=255)(hA:At w p (zs.map v8))(hc:zs.length<=cap)(hm:cap<=9223372036854775807):
 Calls Tryz.prog 109 #[.agg (s.map v32).toArray,.slice p zs.length cap] w
  fun e w'=>e= .returned (.agg ((thru s kList zs (zs.length / 64)).map v32).toArray)/\Below w.heap.size w w':=by
 have Hs:=Lib.hid hs
 clear hs
 obtain⟨len,hlen⟩:∃n,n=zs.length:=⟨_,rfl⟩
 rw[<-hlen]at hc ⊢
 have Hlen:=Lib.hid hlen
 clear hlen
 obtain⟨n,hn⟩:∃n,n=len / 64:=⟨_,rfl⟩
 have hn1:n*64<=len:=by omega
 have hn2:((len:Int) / 64)=(n:Int):=by omega
 rw[<-hn]
 clear hn
 go_enter Tryz.func109,Tryz.ntmps109
 have lk:(kList.map v32).toArray.size=64:=by kernel_rfl
 have hszk:(Tryz.prog.info? 189).map (fun i=>i.size)=some (kList.map v32).toArray.size:=by rw[size59,lk]
 have LK:=Lib.hid lk
 clear lk
 go_wp2_with (first
  | (refine wpList_box_arr rfl 153 _ rfl _ rfl ?_)
  | (refine wpList_alloc_arr rfl 153 rfl _ info44 ?_)
  | (refine wpList_alloc_arr rfl 189 rfl _ (info59 []) ?_)
  | (refine wpList_store_row rfl 189 _ _ rfl _ _ rfl rfl _ _ (Blk.new _ _ _) hszk (by rw[LK.out];simp[fill_length]) (one32 _) ?_)
  | (go_at_call 141;refine(constants_any _).mono ?_;rintro e w1 ⟨rfl,hb1⟩))
 clear hn2
 obtain⟨g5,hg5⟩:∃g,g=w1.heap.size:=⟨_,rfl⟩
 have b1:Below w.heap.size w w1:=(((Below.refl _ _).alloc (by simp) _).alloc (by simp) _).trans (hb1.mono (by simp;omega))
 have k0:Blk w1 w.heap.size (s.map v32) 153:=by
  have:=((Blk.new w (s.map v32).toArray 153).old (Obj.cells (zeros8.map v32).toArray 153)).below hb1 (by simp;omega)
  simpa using this
 have k1:Blk w1 (w.heap.size+1) (zeros8.map v32) 153:=by
  have:=(Blk.new (w.alloc (Obj.cells (s.map v32).toArray 153)) (zeros8.map v32).toArray 153).below hb1 (by simp)
  simpa using this
 have z1:w.heap.size+1+1<=w1.heap.size:=by have:=hb1.size;simpa using this
 have W0:Below w.heap.size w ((w1.alloc (Obj.cells (List.map v32 (fill [] 0)).toArray 189)).setRow w1.heap.size (List.map v32 kList).toArray):=
  Below.setRow (b1.alloc (by omega) _) (by omega) _
 have W1:Blk ((w1.alloc (Obj.cells (List.map v32 (fill [] 0)).toArray 189)).setRow w1.heap.size (List.map v32 kList).toArray) w.heap.size (s.map v32) 153:=(k0.old _).rowOther _ (by omega)
 have W2:Blk ((w1.alloc (Obj.cells (List.map v32 (fill [] 0)).toArray 189)).setRow w1.heap.size (List.map v32 kList).toArray) (w.heap.size+1) (zeros8.map v32) 153:=(k1.old _).rowOther _ (by omega)
 have W3:Blk ((w1.alloc (Obj.cells (List.map v32 (fill [] 0)).toArray 189)).setRow w1.heap.size (List.map v32 kList).toArray) g5 (kList.map v32) 189:=by rw[hg5];exact(Blk.new _ _ _).row _
 rw[<-hg5]at W0 W1 W2 W3 z1
 rw[<-hg5]
 generalize((w1.alloc (Obj.cells (List.map v32 (fill [] 0)).toArray 189)).setRow g5 (List.map v32 kList).toArray)=w2 at *
 clear hb1 b1 k0 k1 hg5
 go_loopw [11] (fun i wr=>∃k:Nat,k<=n/\i= .int .i64 k/\Below w.heap.size w wr/\Blk wr w.heap.size ((thru s kList zs k).map v32) 153/\Blk wr (w.heap.size+1) (zeros8.map v32) 153/\Blk wr g5 (kList.map v32) 189) (fun i _=>n - (intOf i).toNat)
 case atStart=>exact⟨0,by omega,rfl,W0,by rw[thru_zero];exact W1,W2,W3⟩
 case round=>
  clear W0 W1 W2 W3
  obtain⟨k,hk,rfl,hb,h0,h1,h5⟩:=hrel
  have H0:=Lib.hid h0
  have H1:=Lib.hid h1
  have H5:=Lib.hid h5
  have HA:=Lib.hid hA
  have HB:=Lib.hid hb
  clear h0 h1 h5 hA hb
  by_cases hlt:k < n
  ·have hpl:(Sha.part zs k).length=64:=part_length zs k (by rw[<-Hlen.out];omega)
   have hpz:∀m∈Sha.part zs k,0<=m/\m<=255:=part_mem zs k _ hz
   have hsz62:(Tryz.prog.info? 193).map (fun i=>i.size)=some ((Sha.part zs k).map v8).length:=by rw[size62];simp[hpl]
   have hsz44:(Tryz.prog.info? 153).map (fun i=>i.size)=some ((thru s kList zs k).map v32).length:=by rw[size44];simp[thru_length,Hs.out]
   have hszb:(Tryz.prog.info? 153).map (fun i=>i.size)=some ((behindOf (thru s kList zs k) kList (Sha.part zs k)).map v32).toArray.size:=by rw[size44];simp[behindOf_length,thru_length,Hs.out]
   have hszk2:(Tryz.prog.info? 189).map (fun i=>i.size)=some (kList.map v32).length:=hszk
   have HP:=Lib.hid hpl
   have HZ:=Lib.hid hz
   have HPZ:=Lib.hid hpz
   have HCUT:Hid (∀w,(Instr.sliceAt 26 (.slice p len cap) (some (.int .i64 ((k:Int)*64))) (some (.int .i64 (((k:Int)+1)*64))) none).run Tryz.prog w= .ok (cutV p (k*64) ((k+1)*64) cap) w):=fun w=>by
    have:=run_cut_lh (P:=Tryz.prog) 26 5 p len cap Tryz.underlying26 slice1 .i64 .i64 ((k:Int)*64) (((k:Int)+1)*64) (by omega) (by omega) (by omega) w
    rwa [show((k:Int)*64).toNat=k*64 by omega,show(((k:Int)+1)*64).toNat=(k+1)*64 by omega]at this
   clear hpl hz hpz
   go_wp2_with fail
   refine region_tail 11 (by kernel_rfl) (by kernel_rfl) ?_
   simp only[List.take_succ_cons,List.take_zero,List.drop_succ_cons,List.drop_zero]
   (go_big_quiet_want;refine quiet_load_mid 153 _ rfl _ _ rfl _ _ (fun w' hw'=>by rw[hw'];exact H0.out.drew.range) Tryz.underlying153 rfl hsz44 ?_;simp only[Act.put,List.setIfInBounds_toArray,List.set_cons_zero,List.set_cons_succ,List.getElem_toArray,List.getElem_cons_succ,List.getElem_cons_zero];go_big_quiet_on)
   (go_big_quiet_want;refine quiet_load_mid 189 _ rfl _ _ rfl _ _ (fun w' hw'=>by rw[hw'];exact H5.out.drew.range) Tryz.underlying189 rfl hszk2 ?_;simp only[Act.put,List.setIfInBounds_toArray,List.set_cons_zero,List.set_cons_succ,List.getElem_toArray,List.getElem_cons_succ,List.getElem_cons_zero];go_big_quiet_on)
   iterate 6 (go_big_quiet_step (fail))
   go_big_quiet_want
   refine quiet_cut 26 _ _ _ rfl p (k*64) ((k+1)*64) cap HCUT.out wr ((zs.map v8)) (HA.out.below HB.out) (by simp only[List.length_map];rw[<-Hlen.out];exact hc) (fun p' hA'=>?_)
   simp only[Act.put,List.setIfInBounds_toArray,List.set_cons_zero,List.set_cons_succ,List.getElem_toArray,List.getElem_cons_succ,List.getElem_cons_zero]
   rw[part_map]at hA'
   obtain⟨bb,off,rfl,hcc⟩:=hA'.addr (by simp[HP.out])
   go_big_quiet_on
   (go_big_quiet_want;refine quiet_array 193 _ rfl 5 64 _ _ _ Tryz.underlying193 (by omega) rfl ?_;simp only[Act.put,List.setIfInBounds_toArray,List.set_cons_zero,List.set_cons_succ,List.getElem_toArray,List.getElem_cons_succ,List.getElem_cons_zero];go_big_quiet_on)
   (go_big_quiet_want;refine quiet_load_mid 193 _ rfl _ _ rfl _ _ (fun w' hw'=>by rw[hw'];exact hA'.drew.range) Tryz.underlying193 rfl hsz62 ?_;simp only[Act.put,List.setIfInBounds_toArray,List.set_cons_zero,List.set_cons_succ,List.getElem_toArray,List.getElem_cons_succ,List.getElem_cons_zero];go_big_quiet_on)
   refine wpQuiet_nil ?_
   obtain⟨wd,hwd⟩:∃wd,wd=wr.drew:=⟨_,rfl⟩
   rw[<-hwd]
   have d0:Hid (Blk wd w.heap.size ((thru s kList zs k).map v32) 153):=by rw[hwd];exact H0.out.drew
   have d1:Hid (Blk wd (w.heap.size+1) (zeros8.map v32) 153):=by rw[hwd];exact H1.out.drew
   have d5:Hid (Blk wd g5 (kList.map v32) 189):=by rw[hwd];exact H5.out.drew
   have db:Hid (Below w.heap.size w wd):=by rw[hwd];exact HB.out.drew
   clear hwd hA' hcc
   go_wp2_with (first
    | (go_at_call 142;refine(behind_any _ _ _ _ (by rw[thru_length,Hs.out]) kList_length HP.out HPZ.out).mono ?_;rintro e w3 ⟨rfl,hb3⟩)
    | (refine wpList_store_row rfl 153 _ _ rfl _ _ rfl rfl _ _ (d0.out.below hb3 d0.out.lt) hszb (by simp[thru_length,behindOf_length]) (one32 _) ?_))
   go_roundw
   case rel=>
    have e1:=d0.out.below hb3 d0.out.lt
    have e2:=d1.out.below hb3 d1.out.lt
    have e5:=d5.out.below hb3 d5.out.lt
    refine⟨k+1,by omega,by go_num,Below.setRow (db.out.trans (hb3.mono db.out.size)) (by omega) _,?_,e2.rowOther _ (by omega),e5.rowOther _ (by omega)⟩
    rw[thru_succ]
    exact e1.row _
   case measure=>simp[intOf];omega
  ·obtain rfl:k=n:=by omega
   have hsz2:(Tryz.prog.info? 153).map (fun i=>i.size)=some ((thru s kList zs k).map v32).toArray.size:=by rw[size44];simp[thru_length,Hs.out]
   go_wp2_with (first
    | (refine wpList_load_row rfl 153 _ rfl _ rfl _ _ _ _ H0.out (Tryz.underlying153) rfl hsz2 ?_)
    | (refine wpList_store_row rfl 153 _ _ rfl _ _ rfl rfl _ _ H1.out hsz2 (by simp[zeros8_length,thru_length,Hs.out]) (one32 _) ?_))
   refine bodyPost_ret (v:=.agg ((thru s kList zs k).map v32).toArray) ?_ rfl ⟨rfl,Below.setRow HB.out (by omega) _⟩
   exact results_cell_row rfl _ _ _ _ _ _ _ rfl (H1.out.row _) (Tryz.underlying153) rfl hsz2
end
section
open Go.RowKit Sha
theorem info26:(Tryz.prog.info? 25).map (fun i=>i.zero)=some (some (.agg (zero32.map v8).toArray)):=by kernel_rfl
theorem size26:(Tryz.prog.info? 25).map (fun i=>i.size)=some 32:=by kernel_rfl
theorem one8 (l:List Int):(l.map v8).toArray.all (·.oneCell')=true:=by simp[Value.oneCell']
theorem zero32_length:zero32.length=32:=by unfold zero32;rfl
theorem tell_any (s:List W)(w:World)(hs:s.length=8):
 Calls Tryz.prog 111 #[.agg (s.map v32).toArray] w fun e w'=>e= .returned (.agg ((tellUpto s 32).map v8).toArray)/\Below w.heap.size w w':=by
 have Hs:=Lib.hid hs
 clear hs
 go_enter Tryz.func111,Tryz.ntmps111
 go_wp2_with (first
  | (refine wpList_box_arr rfl 153 _ rfl _ rfl ?_)
  | (refine wpList_alloc_arr rfl 25 rfl _ info26 ?_))
 have f0:=((Blk.new w (s.map v32).toArray 153).old (Obj.cells (zero32.map v8).toArray 25)).old (Obj.cells (zero32.map v8).toArray 25)
 have f1:=(Blk.new (w.alloc (Obj.cells (s.map v32).toArray 153)) (zero32.map v8).toArray 25).old (Obj.cells (zero32.map v8).toArray 25)
 have f2:=Blk.new ((w.alloc (Obj.cells (s.map v32).toArray 153)).alloc (Obj.cells (zero32.map v8).toArray 25)) (zero32.map v8).toArray 25
 have b3:=(((Below.refl w.heap.size w).alloc (by simp) (Obj.cells (s.map v32).toArray 153)).alloc (by simp) (Obj.cells (zero32.map v8).toArray 25)).alloc (by simp;omega) (Obj.cells (zero32.map v8).toArray 25)
 generalize(((w.alloc (Obj.cells (s.map v32).toArray 153)).alloc (Obj.cells (zero32.map v8).toArray 25)).alloc (Obj.cells (zero32.map v8).toArray 25))=w3 at *
 simp only[World.size_alloc]at f0 f1 f2
 go_loopw [5] (fun i wr=>∃k:Nat,k<=32/\i= .int .i64 k/\Below w.heap.size w wr/\Blk wr w.heap.size (s.map v32) 153/\Blk wr (w.heap.size+1) (zero32.map v8) 25/\Blk wr (w.heap.size+1+1) ((tellUpto s k).map v8) 25) (fun i _=>32 - (intOf i).toNat)
 case atStart=>exact⟨0,by omega,rfl,b3,f0,f1,by rw[tellUpto_zero];exact f2⟩
 case round=>
  clear b3 f0 f1 f2
  obtain⟨k,hk,rfl,hb,h0,h1,h2⟩:=hrel
  have H0:=Lib.hid h0
  have H1:=Lib.hid h1
  have H2:=Lib.hid h2
  clear h0 h1 h2
  by_cases hlt:k < 32
  ·obtain⟨x,hx⟩:∃x,x=s.getD (k / 4) 0:=⟨_,rfl⟩
   have c0:wr.cell? ⟨w.heap.size,k / 4,none⟩=some (v32 x):=by
    rw[H0.out.cell,List.getElem?_map,List.getElem?_eq_getElem (by rw[Hs.out];omega),hx];simp[Hs.out,show k / 4 < 8 by omega]
   have c2:wr.cell? ⟨w.heap.size+1+1,k,none⟩=some (v8 ((tellUpto s k).getD k 0)):=by
    rw[H2.out.cell,List.getElem?_map,List.getElem?_eq_getElem (by rw[tellUpto_length];omega)];simp[tellUpto_length,hlt]
   have cf:wr.frozen? ⟨w.heap.size+1+1,k,none⟩=false:=H2.out.free _
   have HX:=Lib.hid hx
   clear hx
   have y0:(0:Int)<=24 - 8*((k:Int) % 4):=by omega
   have y1:24 - 8*((k:Int) % 4)<=(32:Int):=by omega
   have y2:8*((k:Int) % 4)<=(24:Int):=by omega
   go_wp2_with fail
   go_roundw
   case rel=>
    refine⟨k+1,by omega,by go_num,hb.setCell (by simp;omega) _,H0.out.setOther _ _ (by simp;omega),H1.out.setOther _ _ (by simp),?_⟩
    rw[tellUpto_succ s k (U x / 2 ^ (24 - 8*(k % 4)) % 256) (by rw[HX.out];rfl)]
    exact H2.out.set _ _
   case measure=>simp[intOf];omega
  ·obtain rfl:k=32:=by omega
   have hsz2:(Tryz.prog.info? 25).map (fun i=>i.size)=some ((tellUpto s 32).map v8).toArray.size:=by rw[size26];simp[tellUpto_length]
   go_wp2_with (first
    | (refine wpList_load_row rfl 25 _ rfl _ rfl _ _ _ _ H2.out (Tryz.underlying25) rfl hsz2 ?_)
    | (refine wpList_store_row rfl 25 _ _ rfl _ _ rfl rfl _ _ H1.out hsz2 (by simp[zero32_length,tellUpto_length]) (one8 _) ?_))
   refine bodyPost_ret (v:=.agg ((tellUpto s 32).map v8).toArray) ?_ rfl ⟨rfl,Below.setRow hb (by omega) _⟩
   exact results_cell_row rfl _ _ _ _ _ _ _ rfl (H1.out.row _) (Tryz.underlying25) rfl hsz2
theorem byte_info:(Tryz.prog.info? 5).map (fun i=>(i.zero,i.size,i.bytes))=some (some (.int .u8 0),1,1):=by kernel_rfl
theorem one8l (l:List Int):∀u∈l.map v8,u.oneCell'=true:=by simp[Value.oneCell']
theorem ending_any (zs:List Int)(N:Int)(p:Option Addr)(cap:Nat)(w:World)(hl:zs.length < 64)(hA:At w p (zs.map v8))(hc:zs.length<=cap)(hp:p=none->cap=0)(hN:0<=N/\N<=18446744073709551615):
 Calls Tryz.prog 112 #[.slice p zs.length cap,.int .u64 N] w
  fun e w'=>∃v,e= .returned v/\w'.ownsRow w.heap.size 5 1 v (ending zs N).length ((ending zs N).map v8)/\Below w.heap.size w w':=by
 obtain⟨i0,hi,hz0,hz1,hz2⟩:=info_parts byte_info
 obtain⟨len,hlen⟩:∃n,n=zs.length:=⟨_,rfl⟩
 rw[<-hlen]at hc hl ⊢
 have Hlen:=Lib.hid hlen
 have HA:=Lib.hid hA
 clear hlen hA
 go_enter Tryz.func112,Tryz.ntmps112
 go_wp2_with (first
  | (at_make;refine wpList_make_own _ rfl _ _ 26 rfl w.heap.size 5 i0 (.int .u8 0) 1 Tryz.underlying26 hi hz0 hz1 .i64 .i64 128 128 rfl rfl (by omega) (by rw[hz2];decide) (by decide) (Nat.le_refl _) ?_;intro w1 hown1 hgrow1;have hb1:Below w.heap.size w w1:=(Below.refl _ _).grown hgrow1 (Nat.le_refl _) (by simp))
  | (at_builtin;refine wpList_app rfl (.tmp 7) (.tmp 8) 26 rfl w.heap.size 5 Tryz.underlying26 byte_info rfl _ _ _ rfl hown1 p len cap (zs.map v8) rfl (HA.out.below hb1) (by simp[Hlen.out]) hp hc (one8l _) (by omega) (by unfold maxLen;omega) hb1.size ?_;intro v2 w2 hown2 _ hb2 hs2 _;simp only[Nat.zero_add,List.nil_append]at hown2)
  | (at_builtin;refine wpList_app rfl (.tmp 10) (.tmp 11) 26 rfl w.heap.size 5 Tryz.underlying26 byte_info rfl _ _ _ rfl (hown2.alloc _) _ 1 1 [v8 128] rfl (at_one _ _ _) rfl (by simp) (Nat.le_refl _) (one8l [128]) (by omega) (by unfold maxLen;omega) (by simp;omega) ?_;intro v3 w3 hown3 _ hb3 hs3 _))
 have hb4:Below w.heap.size w w3:=(hb1.trans (hb2.alloc hs2 _)).trans hb3
 have hown4:w3.ownsRow w.heap.size 5 1 v3 (len+1) ((zs++[128]).map v8):=by simpa using hown3
 clear hown1 hgrow1 hb1 hb2 hs2 hown2 hown3 hb3
 go_loopw [5] (fun v wr=>∃k:Nat,k<=noughts len/\wr.ownsRow w.heap.size 5 1 v (len+1+k) ((zs++[128]++List.replicate k 0).map v8)/\Below w.heap.size w wr/\w.heap.size<=wr.heap.size) (fun v _=>128 - lenOf v)
 case atStart=>exact⟨0,by omega,by simpa using hown4,hb4,hs3⟩
 case round=>
  clear hown4 hb4 hs3
  obtain⟨k,hk,hown,hb,hs⟩:=hrel
  obtain⟨g,c,rfl,hg,hmc,hcm,hgs⟩:=own_form hown (by omega)
  have HK:=Lib.hid hk
  have hle:=noughts_le len hl
  have n1:=noughts_lt len k hl
  have n2:=noughts_eq len hl
  obtain⟨m,hm⟩:∃m,m=len+1+k:=⟨_,rfl⟩
  rw[<-hm]at hown hmc n1 ⊢
  have hmle:m<=120:=by omega
  have hm1:1<=m:=by omega
  have HM:=Lib.hid hm
  by_cases hlt:k < noughts len
  ·have t1:(((m:Int) % 64) != 56)=true:=by rw[bne_iff_ne];have:=n1 hlt;omega
   have t2:(((m:Int) % 64) == 56)=false:=by rw[beq_eq_false_iff_ne];have:=n1 hlt;omega
   have HO:=Lib.hid hown
   clear hown hm n1 n2 hk hle
   go_wp2_with (at_builtin;refine wpList_app rfl (.tmp 17) (.tmp 18) 26 rfl w.heap.size 5 Tryz.underlying26 byte_info rfl _ _ _ rfl (HO.out.alloc _) _ 1 1 [v8 0] rfl (at_one _ _ _) rfl (by simp) (Nat.le_refl _) (one8l [0]) (by omega) (by unfold maxLen;omega) (by simp;omega) ?_;intro v3 w3 hown3 _ hb3 hs3 _)
   have hown5:w3.ownsRow w.heap.size 5 1 v3 (len+1+(k+1)) ((zs++[128]++List.replicate (k+1) 0).map v8):=by
    rw[HM.out]at hown3
    rw[List.replicate_succ',show len+1+(k+1)=len+1+k+1 by omega];simpa using hown3
   go_roundw
   case rel=>exact⟨k+1,by omega,hown5,(hb.alloc hs _).trans hb3,hs3⟩
   case measure=>
    obtain⟨g',c',rfl,_⟩:=own_form hown5 (by omega)
    have:=HM.out
    simp[lenOf];omega
  ·have hkn:k=noughts len:=by omega
   have t1:(((m:Int) % 64) != 56)=false:=by rw[bne_eq_false_iff_eq];rw[hkn]at hm;omega
   have t2:(((m:Int) % 64) == 56)=true:=by rw[beq_iff_eq];rw[hkn]at hm;omega
   have HO:Hid (wr.ownsRow w.heap.size 5 1 (.slice (some ⟨g,0,none⟩) m c) m ((zs++[128]++List.replicate (noughts len) 0).map v8)):=by rw[<-hkn];exact hown
   clear hown hm n1 n2 hk hle hkn HK HM
   go_wp2_with fail
   obtain⟨base,hbase⟩:∃l,l=zs++[128]++List.replicate (noughts len) 0:=⟨_,rfl⟩
   rw[<-hbase]at HO
   have HB:=Lib.hid hbase
   clear hbase
   go_loopw [5,20] (fun v i wr=>∃k:Nat,k<=8/\i= .int .i64 k/\wr.ownsRow w.heap.size 5 1 v (m+k) ((base++lenUpto N k).map v8)/\Below w.heap.size w wr/\w.heap.size<=wr.heap.size) (fun _ i _=>8 - (intOf i).toNat)
   case atStart=>exact⟨0,by omega,rfl,by rw[lenUpto_zero,List.append_nil];exact HO.out,hb,hs⟩
   case round=>
    clear HO hb hs hg hgs hmc
    obtain⟨k,hk,rfl,hown,hb,hs⟩:=hrel
    obtain⟨g,c,rfl,hg,hmc,hcm,hgs⟩:=own_form hown (by omega)
    have HO:=Lib.hid hown
    clear hown
    by_cases hlt:k < 8
    ·have y0:(0:Int)<=56 - 8*(k:Int):=by omega
     have y1:56 - 8*(k:Int)<=(64:Int):=by omega
     have y2:8*(k:Int)<=(56:Int):=by omega
     go_wp2_with (at_builtin;refine wpList_app rfl (.tmp 23) (.tmp 31) 26 rfl w.heap.size 5 Tryz.underlying26 byte_info rfl _ _ _ rfl (HO.out.alloc _) _ 1 1 [_] rfl (at_one _ _ _) rfl (by simp) (Nat.le_refl _) (by simp[Value.oneCell']) (by omega) (by unfold maxLen;omega) (by simp;omega) ?_;intro v3 w3 hown3 _ hb3 hs3 _)
     have hown5:w3.ownsRow w.heap.size 5 1 v3 (m+(k+1)) ((base++lenUpto N (k+1)).map v8):=by
      rw[lenUpto_succ];simpa[lenByte,Nat.add_assoc]using hown3
     go_roundw
     case rel=>exact⟨k+1,by omega,by go_num,hown5,(hb.alloc hs _).trans hb3,hs3⟩
     case measure=>simp[intOf];omega
    ·obtain rfl:k=8:=by omega
     have HL:Hid (m+8=(ending zs N).length/\base++lenUpto N 8=ending zs N):=by
      have e:base++lenUpto N 8=ending zs N:=by rw[HB.out,ending_eq,Hlen.out]
      refine⟨?_,e⟩
      have:=HO.out.1
      rw[e]at this;simpa using this.symm
     go_wp2_with fail
     go_ret
     refine⟨_,rfl,?_,hb⟩
     rw[<-HL.out.1,<-HL.out.2]
     exact HO.out
end
end Go.Proofs.YtokpabkcaofahaaGreat
