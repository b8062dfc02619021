/-
  What stands under factGrows_holds: part 22.
-/
import Derived.Test.YtokpabkcaofahaaGreatPg6
import Derived.Test.YtokpabkcaofahaaGreatPg3
import Derived.Test.YtokpabkcaofahaaGreatPg21
import Derived.Deep.RegionLaw
namespace Go.Proofs.YtokpabkcaofahaaGreat
set_option linter.unusedSimpArgs false
set_option linter.unusedVariables false
set_option maxRecDepth 100000
set_option maxHeartbeats 20000000
section
open Go.RowKit Sha Fct
theorem info_of {t:TypeId} {n:Nat}(h:(Tryz.prog.info? t).map (fun i=>(i.zero.map (fun z=>z.cells.size),i.size,decide (i.bytes<=100)))=some (some n,n,true)):
 ∃z by_,(Tryz.prog.info? t).map (fun i=>(i.zero,i.size,i.bytes))=some (some z,n,by_)/\z.cells.size=n/\by_<=100:=by
 cases hq:Tryz.prog.info? t with
 | none=>simp[hq]at h
 | some i=>
    simp only[hq,Option.map_some,Option.some.injEq,Prod.mk.injEq]at h
    obtain⟨h1,h2,h3⟩:=h
    cases hz:i.zero with
    | none=>simp[hz]at h1
    | some z=>
       simp only[hz,Option.map_some,Option.some.injEq]at h1
       exact⟨z,i.bytes,by simp[hz,h2],h1,of_decide_eq_true h3⟩
theorem scells_setb (s:Ste)(h:Hds)(x:Sl3):(scells s h).set 2 x.v=scells s {h with b:=x}:=by rw[scells_eq,scells_eq];rfl
theorem scells_setk (s:Ste)(h:Hds)(x:Sl3):(scells s h).set 3 x.v=scells s {h with k:=x}:=by rw[scells_eq,scells_eq];rfl
theorem scells_seth (s:Ste)(h:Hds)(x:Sl3):(scells s h).set 4 x.v=scells s {h with h:=x}:=by rw[scells_eq,scells_eq];rfl
theorem scells_setv (s:Ste)(h:Hds)(x:Sl3):(scells s h).set 5 x.v=scells s {h with v:=x}:=by rw[scells_eq,scells_eq];rfl
theorem scells_setd (s:Ste)(h:Hds)(x:Sl3):(scells s h).set 6 x.v=scells s {h with d:=x}:=by rw[scells_eq,scells_eq];rfl
theorem vlen_few:∀l:List Vot,l.length<=vlen l
 | []=>Nat.zero_le _
 | v::l=>by
    have h1:=vlen_few l
    have h2:=(fVote_len v).1
    unfold vlen at h1 ⊢
    rw[List.flatMap_cons,List.length_append,List.length_cons]
    omega
theorem few_blobs (s:Ste):s.blobs.length<=(facts s).length:=by rw[facts_length];omega
theorem few_keeps (s:Ste):s.keeps.length<=(facts s).length:=by rw[facts_length];omega
theorem few_hints (s:Ste):s.hints.length<=(facts s).length:=by rw[facts_length];omega
theorem few_votes (s:Ste):s.votes.length<=(facts s).length:=by rw[facts_length];have:=vlen_few s.votes;omega
theorem few_decs (s:Ste):s.decs.length<=(facts s).length:=by rw[facts_length];omega
end
section
open Go.RowKit Sha Fct
theorem info9B:(Tryz.prog.info? 93).map (fun i=>(i.zero.map (fun z=>z.cells.size),i.size,decide (i.bytes<=100)))=some (some 33,33,true):=by kernel_rfl
theorem run_nilB (w:World)(p:Option Addr)(n c:Nat):(binOp .eql 41 (.slice p n c) (.slice none 0 0)).run Tryz.prog w= .ok (.bool p.isNone) w:=Lib.run_eql_slice_nil w _ _ p n c 0 0 Tryz.underlying41
theorem pcloneB_any (p:Option Addr)(n c:Nat)(ys:List (Hd (Fct.Id×List Int)))(w:World)(hn:ys.length=n)(hA:At w p (ys.flatMap sB.row))(hok:∀y∈ys,sB.ok y.1)(hc:n<=c)(hm:c<=9223372036854775807)(hnil:p=none->c=0)(hs:n<=1000000000):
 Calls Tryz.prog 136 #[.slice p n c] w fun e w'=>∃v,e= .returned v/\w'.ownsRow w.heap.size 93 33 v n (ys.flatMap sB.row)/\Below w.heap.size w w':=by
 have HA:=Lib.hid hA
 have HN:=Lib.hid hn
 have HF:=Lib.hid (show(ys.flatMap sB.row).length=n*33 from(Shp.flat_length ys hok).trans (by rw[hn];rfl))
 have q:=fun w n c=>run_nilB w p n c
 cases p with
 | none=>
    have h0:=hnil rfl
    subst h0
    obtain rfl:n=0:=by omega
    have hz:ys= []:=List.eq_nil_of_length_eq_zero hn
    subst hz
    clear hA hn HF hok
    go_enter Tryz.func136,Tryz.ntmps136
    go_wp2_with fail
    go_ret
    exact⟨_,rfl,World.ownsRow_nil _ _ _ _,Below.refl _ _⟩
 | some a=>
    obtain⟨zb,yb,ib,sb,ub⟩:=info_of info9B
    have Ib:=Lib.hid ib
    have Zb:=Lib.hid sb
    have Ub:=Lib.hid ub
    have Ob:=Lib.hid (World.ownsRow_made (base:=w.heap.size) (size:=33) (e:=93) w #[] 0 (Nat.le_refl _) (by decide) rfl)
    have HI:=Lib.hid (fun h:(some a:Option Addr)=none=>hnil h)
    clear hA hn hnil ib sb ub hok
    go_enter Tryz.func136,Tryz.ntmps136
    go_wp2_with (at_builtin;refine wpList_app_s rfl (.tmp 5) (.tmp 6) 41 rfl w.heap.size 93 (size:=33) (by decide) Tryz.underlying41 Ib.out Zb.out _ 0 [] rfl Ob.out (some a) n c (ys.flatMap sB.row) rfl (HA.out.alloc _) HF.out HI.out hc (Shp.flat_one ys) (by have h2:=Ub.out;rw[Nat.zero_add];exact Nat.le_trans (Nat.mul_le_mul hs h2) (by decide)) (by unfold maxLen;omega) (by simp) ?_;intro vb xb hown hgr hfr;rw[Nat.zero_add,List.nil_append]at hown;have O4:=Lib.hid hown;have B4:=Lib.hid (show Below w.heap.size w xb from((Below.refl _ w).alloc (Nat.le_refl _) (Obj.cells #[] 93)).grown hgr (by simp) (fun k hk=>by cases hk;exact Nat.le_refl _));clear hown hgr hfr)
    go_ret
    exact⟨_,rfl,O4.out,B4.out⟩
end
section
open Go.RowKit Sha Fct
theorem bptrB_any (b o:Nat)(w:World):Calls Tryz.prog 95 #[.pointer (some ⟨b,o,none⟩)] w fun e w'=>e= .returned (.pointer (some ⟨b,o+32,none⟩))/\w'=w:=by
 go_enter Tryz.func95,Tryz.ntmps95
 go_wp2_with fail
 go_ret
 exact⟨rfl,rfl⟩
theorem pclonedB_any (p:Option Addr)(n c:Nat)(ys:List (Hd (Fct.Id×List Int)))(w:World)(hn:ys.length=n)(hA:At w p (ys.flatMap sB.row))(hgood:∀y∈ys,sB.Good w y.1 y.2.1 y.2.2)(hc:n<=c)(hm:c<=9223372036854775807)(hnil:p=none->c=0)(hs:n<=1000000000)(hlen:∀y∈ys,(sB.byt y.1).length<=1000000):
 Calls Tryz.prog 94 #[.slice p n c,.func (.func 95) #[] #[]] w fun e w'=>∃v zs,e= .returned v/\zs.map (·.1)=ys.map (·.1)/\Rws sB 93 w' w.heap.size v zs/\Below w.heap.size w w':=by
 have hok:∀y∈ys,sB.ok y.1:=fun y hy=>(hgood y hy).ok
 have HCL:=Lib.hid (pcloneB_any p n c ys w hn hA hok hc hm hnil hs)
 have HN:=Lib.hid hn
 have HOK:=Lib.hid hok
 have HG:=Lib.hid hgood
 have HLN:=Lib.hid hlen
 clear hn hA hgood hc hm hnil hlen hok
 go_enter Tryz.func94,Tryz.ntmps94
 go_wp2_with fail
 refine HCL.out.mono ?_
 rintro e w1 ⟨v,rfl,hown,hb⟩
 obtain⟨pv,cv,rfl,_⟩:=own_at_s hown
 have H0:=Lib.hid (show CpL sB 93 w w1 w.heap.size (.slice pv n cv) ys ys 0 from⟨rfl,by rw[HN.out];exact hown,fun j _ h=>absurd h (by omega),rfl,hb⟩)
 clear hown hb HCL
 go_wp2_with fail
 go_loopw [11] (fun iv wr=>∃(i:Nat) (zs:List (Hd (Fct.Id×List Int))),iv= .int .i64 i/\i<=n/\Hid (CpL sB 93 w wr w.heap.size (.slice pv n cv) ys zs i)) (fun iv _=>n - (intOf iv).toNat)
 case atStart=>exact⟨0,ys,rfl,Nat.zero_le _,H0⟩
 case round=>
  clear H0
  obtain⟨i,zs,rfl,hi,HC⟩:=hrel
  by_cases hlt:i < n
  ·have hiy:i < ys.length:=by rw[HN.out];exact hlt
   obtain⟨gv,cap,cs,hv,hbk,hcs⟩:=HC.out.cell lastB_B HOK.out hiy
   obtain⟨rfl,rfl⟩:pv=some ⟨gv,0,none⟩/\cv=cap:=by injection hv with e1 e2 e3;exact⟨e1,e3⟩
   have HV:=Lib.hid (fun W1 q c (hb:Below wr.heap.size wr W1) (hc:Cpy W1 (sB.byt ys[i].1) q c)=>CpL.step (t:=93) lastB_B (by decide) HOK.out HG.out (Nat.le_refl _) (by have h9:=HC.out;rw[<-HN.out]at h9;exact h9) hiy hb hc)
   have hg:=(HG.out _ (List.getElem_mem hiy)).below HC.out.below
   have hl:=HLN.out _ (List.getElem_mem hiy)
   obtain⟨y,hy⟩:∃y,y=ys[i]:=⟨_,rfl⟩
   rw[<-hy]at hcs hg hl HV
   obtain⟨m,hm⟩:∃m,m=(sB.byt y.1).length:=⟨_,rfl⟩
   rw[<-hm]at hcs hl HV
   have HB:=Lib.hid (fun k=>bptrB_any gv (i*33) k)
   have c2:wr.cell? ⟨gv,i*33+32,none⟩=some (.slice y.2.1 m y.2.2):=(hbk.cell _).trans hcs
   have f2:wr.frozen? ⟨gv,i*33+32,none⟩=false:=hbk.free _
   have HCB:=Lib.hid (clone8_any (sB.byt y.1) m y.2.1 y.2.2 wr hm.symm hg.at_ (by rw[hm];exact hg.le) hg.max hg.nil hl)
   have HBK:=Lib.hid hbk
   have HCS:=Lib.hid hcs
   obtain⟨q0,hq0⟩:∃q,q=y.2.1:=⟨_,rfl⟩
   obtain⟨d0,hd0⟩:∃q,q=y.2.2:=⟨_,rfl⟩
   rw[<-hq0,<-hd0]at c2 HCB
   have HE:=Lib.hid (show Value.slice y.2.1 m y.2.2= .slice q0 m d0 by rw[hq0,hd0])
   clear hcs hbk hg hl hy hm hv hq0 hd0 HC
   go_wp2_with fail
   refine(HB.out _).mono ?_
   rintro e w2 ⟨rfl,rfl⟩
   go_wp2_with fail
   refine HCB.out.mono ?_
   rintro e w4 ⟨q4,c4,rfl,hc4,hb4⟩
   have HS:=Lib.hid (HV.out w4 q4 c4 hb4 hc4)
   have c5:w4.cell? ⟨gv,i*33+32,none⟩=some (.slice q0 m d0):=(((HBK.out.below hb4 HBK.out.lt).cell _).trans HCS.out).trans (congrArg some HE.out)
   have f5:w4.frozen? ⟨gv,i*33+32,none⟩=false:=(HBK.out.below hb4 HBK.out.lt).free _
   clear hb4 hc4 HV HCB c2 f2
   go_wp2_with fail
   go_roundw
   case rel=>exact⟨i+1,_,by go_num,by omega,by rw[<-HN.out];exact HS⟩
   case measure=>simp[intOf];omega
  ·obtain rfl:i=n:=by omega
   go_wp2_with fail
   go_ret
   exact⟨_,zs,rfl,HC.out.map,HC.out.rows HN.out.symm,HC.out.below⟩
end
section
open Go.RowKit Sha Fct
theorem info9V:(Tryz.prog.info? 62).map (fun i=>(i.zero.map (fun z=>z.cells.size),i.size,decide (i.bytes<=100)))=some (some 6,6,true):=by kernel_rfl
theorem run_nilV (w:World)(p:Option Addr)(n c:Nat):(binOp .eql 44 (.slice p n c) (.slice none 0 0)).run Tryz.prog w= .ok (.bool p.isNone) w:=Lib.run_eql_slice_nil w _ _ p n c 0 0 Tryz.underlying44
theorem pcloneV_any (p:Option Addr)(n c:Nat)(ys:List (Hd (Vot)))(w:World)(hn:ys.length=n)(hA:At w p (ys.flatMap sV.row))(hok:∀y∈ys,sV.ok y.1)(hc:n<=c)(hm:c<=9223372036854775807)(hnil:p=none->c=0)(hs:n<=1000000000):
 Calls Tryz.prog 137 #[.slice p n c] w fun e w'=>∃v,e= .returned v/\w'.ownsRow w.heap.size 62 6 v n (ys.flatMap sV.row)/\Below w.heap.size w w':=by
 have HA:=Lib.hid hA
 have HN:=Lib.hid hn
 have HF:=Lib.hid (show(ys.flatMap sV.row).length=n*6 from(Shp.flat_length ys hok).trans (by rw[hn];rfl))
 have q:=fun w n c=>run_nilV w p n c
 cases p with
 | none=>
    have h0:=hnil rfl
    subst h0
    obtain rfl:n=0:=by omega
    have hz:ys= []:=List.eq_nil_of_length_eq_zero hn
    subst hz
    clear hA hn HF hok
    go_enter Tryz.func137,Tryz.ntmps137
    go_wp2_with fail
    go_ret
    exact⟨_,rfl,World.ownsRow_nil _ _ _ _,Below.refl _ _⟩
 | some a=>
    obtain⟨zb,yb,ib,sb,ub⟩:=info_of info9V
    have Ib:=Lib.hid ib
    have Zb:=Lib.hid sb
    have Ub:=Lib.hid ub
    have Ob:=Lib.hid (World.ownsRow_made (base:=w.heap.size) (size:=6) (e:=62) w #[] 0 (Nat.le_refl _) (by decide) rfl)
    have HI:=Lib.hid (fun h:(some a:Option Addr)=none=>hnil h)
    clear hA hn hnil ib sb ub hok
    go_enter Tryz.func137,Tryz.ntmps137
    go_wp2_with (at_builtin;refine wpList_app_s rfl (.tmp 5) (.tmp 6) 44 rfl w.heap.size 62 (size:=6) (by decide) Tryz.underlying44 Ib.out Zb.out _ 0 [] rfl Ob.out (some a) n c (ys.flatMap sV.row) rfl (HA.out.alloc _) HF.out HI.out hc (Shp.flat_one ys) (by have h2:=Ub.out;rw[Nat.zero_add];exact Nat.le_trans (Nat.mul_le_mul hs h2) (by decide)) (by unfold maxLen;omega) (by simp) ?_;intro vb xb hown hgr hfr;rw[Nat.zero_add,List.nil_append]at hown;have O4:=Lib.hid hown;have B4:=Lib.hid (show Below w.heap.size w xb from((Below.refl _ w).alloc (Nat.le_refl _) (Obj.cells #[] 62)).grown hgr (by simp) (fun k hk=>by cases hk;exact Nat.le_refl _));clear hown hgr hfr)
    go_ret
    exact⟨_,rfl,O4.out,B4.out⟩
end
section
open Go.RowKit Sha Fct
theorem bptrV_any (b o:Nat)(w:World):Calls Tryz.prog 99 #[.pointer (some ⟨b,o,none⟩)] w fun e w'=>e= .returned (.pointer (some ⟨b,o+5,none⟩))/\w'=w:=by
 go_enter Tryz.func99,Tryz.ntmps99
 go_wp2_with fail
 go_ret
 exact⟨rfl,rfl⟩
theorem pclonedV_any (p:Option Addr)(n c:Nat)(ys:List (Hd (Vot)))(w:World)(hn:ys.length=n)(hA:At w p (ys.flatMap sV.row))(hgood:∀y∈ys,sV.Good w y.1 y.2.1 y.2.2)(hc:n<=c)(hm:c<=9223372036854775807)(hnil:p=none->c=0)(hs:n<=1000000000)(hlen:∀y∈ys,(sV.byt y.1).length<=1000000):
 Calls Tryz.prog 98 #[.slice p n c,.func (.func 99) #[] #[]] w fun e w'=>∃v zs,e= .returned v/\zs.map (·.1)=ys.map (·.1)/\Rws sV 62 w' w.heap.size v zs/\Below w.heap.size w w':=by
 have hok:∀y∈ys,sV.ok y.1:=fun y hy=>(hgood y hy).ok
 have HCL:=Lib.hid (pcloneV_any p n c ys w hn hA hok hc hm hnil hs)
 have HN:=Lib.hid hn
 have HOK:=Lib.hid hok
 have HG:=Lib.hid hgood
 have HLN:=Lib.hid hlen
 clear hn hA hgood hc hm hnil hlen hok
 go_enter Tryz.func98,Tryz.ntmps98
 go_wp2_with fail
 refine HCL.out.mono ?_
 rintro e w1 ⟨v,rfl,hown,hb⟩
 obtain⟨pv,cv,rfl,_⟩:=own_at_s hown
 have H0:=Lib.hid (show CpL sV 62 w w1 w.heap.size (.slice pv n cv) ys ys 0 from⟨rfl,by rw[HN.out];exact hown,fun j _ h=>absurd h (by omega),rfl,hb⟩)
 clear hown hb HCL
 go_wp2_with fail
 go_loopw [11] (fun iv wr=>∃(i:Nat) (zs:List (Hd (Vot))),iv= .int .i64 i/\i<=n/\Hid (CpL sV 62 w wr w.heap.size (.slice pv n cv) ys zs i)) (fun iv _=>n - (intOf iv).toNat)
 case atStart=>exact⟨0,ys,rfl,Nat.zero_le _,H0⟩
 case round=>
  clear H0
  obtain⟨i,zs,rfl,hi,HC⟩:=hrel
  by_cases hlt:i < n
  ·have hiy:i < ys.length:=by rw[HN.out];exact hlt
   obtain⟨gv,cap,cs,hv,hbk,hcs⟩:=HC.out.cell lastB_V HOK.out hiy
   obtain⟨rfl,rfl⟩:pv=some ⟨gv,0,none⟩/\cv=cap:=by injection hv with e1 e2 e3;exact⟨e1,e3⟩
   have HV:=Lib.hid (fun W1 q c (hb:Below wr.heap.size wr W1) (hc:Cpy W1 (sV.byt ys[i].1) q c)=>CpL.step (t:=62) lastB_V (by decide) HOK.out HG.out (Nat.le_refl _) (by have h9:=HC.out;rw[<-HN.out]at h9;exact h9) hiy hb hc)
   have hg:=(HG.out _ (List.getElem_mem hiy)).below HC.out.below
   have hl:=HLN.out _ (List.getElem_mem hiy)
   obtain⟨y,hy⟩:∃y,y=ys[i]:=⟨_,rfl⟩
   rw[<-hy]at hcs hg hl HV
   obtain⟨m,hm⟩:∃m,m=(sV.byt y.1).length:=⟨_,rfl⟩
   rw[<-hm]at hcs hl HV
   have HB:=Lib.hid (fun k=>bptrV_any gv (i*6) k)
   have c2:wr.cell? ⟨gv,i*6+5,none⟩=some (.slice y.2.1 m y.2.2):=(hbk.cell _).trans hcs
   have f2:wr.frozen? ⟨gv,i*6+5,none⟩=false:=hbk.free _
   have HCB:=Lib.hid (clone8_any (sV.byt y.1) m y.2.1 y.2.2 wr hm.symm hg.at_ (by rw[hm];exact hg.le) hg.max hg.nil hl)
   have HBK:=Lib.hid hbk
   have HCS:=Lib.hid hcs
   obtain⟨q0,hq0⟩:∃q,q=y.2.1:=⟨_,rfl⟩
   obtain⟨d0,hd0⟩:∃q,q=y.2.2:=⟨_,rfl⟩
   rw[<-hq0,<-hd0]at c2 HCB
   have HE:=Lib.hid (show Value.slice y.2.1 m y.2.2= .slice q0 m d0 by rw[hq0,hd0])
   clear hcs hbk hg hl hy hm hv hq0 hd0 HC
   go_wp2_with fail
   refine(HB.out _).mono ?_
   rintro e w2 ⟨rfl,rfl⟩
   go_wp2_with fail
   refine HCB.out.mono ?_
   rintro e w4 ⟨q4,c4,rfl,hc4,hb4⟩
   have HS:=Lib.hid (HV.out w4 q4 c4 hb4 hc4)
   have c5:w4.cell? ⟨gv,i*6+5,none⟩=some (.slice q0 m d0):=(((HBK.out.below hb4 HBK.out.lt).cell _).trans HCS.out).trans (congrArg some HE.out)
   have f5:w4.frozen? ⟨gv,i*6+5,none⟩=false:=(HBK.out.below hb4 HBK.out.lt).free _
   clear hb4 hc4 HV HCB c2 f2
   go_wp2_with fail
   go_roundw
   case rel=>exact⟨i+1,_,by go_num,by omega,by rw[<-HN.out];exact HS⟩
   case measure=>simp[intOf];omega
  ·obtain rfl:i=n:=by omega
   go_wp2_with fail
   go_ret
   exact⟨_,zs,rfl,HC.out.map,HC.out.rows HN.out.symm,HC.out.below⟩
end
section
open Go.RowKit Sha Fct
theorem info9D:(Tryz.prog.info? 73).map (fun i=>(i.zero.map (fun z=>z.cells.size),i.size,decide (i.bytes<=100)))=some (some 2,2,true):=by kernel_rfl
theorem run_nilD (w:World)(p:Option Addr)(n c:Nat):(binOp .eql 45 (.slice p n c) (.slice none 0 0)).run Tryz.prog w= .ok (.bool p.isNone) w:=Lib.run_eql_slice_nil w _ _ p n c 0 0 Tryz.underlying45
theorem pcloneD_any (p:Option Addr)(n c:Nat)(ys:List (Hd (Int×List Int)))(w:World)(hn:ys.length=n)(hA:At w p (ys.flatMap sD.row))(hok:∀y∈ys,sD.ok y.1)(hc:n<=c)(hm:c<=9223372036854775807)(hnil:p=none->c=0)(hs:n<=1000000000):
 Calls Tryz.prog 138 #[.slice p n c] w fun e w'=>∃v,e= .returned v/\w'.ownsRow w.heap.size 73 2 v n (ys.flatMap sD.row)/\Below w.heap.size w w':=by
 have HA:=Lib.hid hA
 have HN:=Lib.hid hn
 have HF:=Lib.hid (show(ys.flatMap sD.row).length=n*2 from(Shp.flat_length ys hok).trans (by rw[hn];rfl))
 have q:=fun w n c=>run_nilD w p n c
 cases p with
 | none=>
    have h0:=hnil rfl
    subst h0
    obtain rfl:n=0:=by omega
    have hz:ys= []:=List.eq_nil_of_length_eq_zero hn
    subst hz
    clear hA hn HF hok
    go_enter Tryz.func138,Tryz.ntmps138
    go_wp2_with fail
    go_ret
    exact⟨_,rfl,World.ownsRow_nil _ _ _ _,Below.refl _ _⟩
 | some a=>
    obtain⟨zb,yb,ib,sb,ub⟩:=info_of info9D
    have Ib:=Lib.hid ib
    have Zb:=Lib.hid sb
    have Ub:=Lib.hid ub
    have Ob:=Lib.hid (World.ownsRow_made (base:=w.heap.size) (size:=2) (e:=73) w #[] 0 (Nat.le_refl _) (by decide) rfl)
    have HI:=Lib.hid (fun h:(some a:Option Addr)=none=>hnil h)
    clear hA hn hnil ib sb ub hok
    go_enter Tryz.func138,Tryz.ntmps138
    go_wp2_with (at_builtin;refine wpList_app_s rfl (.tmp 5) (.tmp 6) 45 rfl w.heap.size 73 (size:=2) (by decide) Tryz.underlying45 Ib.out Zb.out _ 0 [] rfl Ob.out (some a) n c (ys.flatMap sD.row) rfl (HA.out.alloc _) HF.out HI.out hc (Shp.flat_one ys) (by have h2:=Ub.out;rw[Nat.zero_add];exact Nat.le_trans (Nat.mul_le_mul hs h2) (by decide)) (by unfold maxLen;omega) (by simp) ?_;intro vb xb hown hgr hfr;rw[Nat.zero_add,List.nil_append]at hown;have O4:=Lib.hid hown;have B4:=Lib.hid (show Below w.heap.size w xb from((Below.refl _ w).alloc (Nat.le_refl _) (Obj.cells #[] 73)).grown hgr (by simp) (fun k hk=>by cases hk;exact Nat.le_refl _));clear hown hgr hfr)
    go_ret
    exact⟨_,rfl,O4.out,B4.out⟩
end
section
open Go.RowKit Sha Fct
theorem bptrD_any (b o:Nat)(w:World):Calls Tryz.prog 101 #[.pointer (some ⟨b,o,none⟩)] w fun e w'=>e= .returned (.pointer (some ⟨b,o+1,none⟩))/\w'=w:=by
 go_enter Tryz.func101,Tryz.ntmps101
 go_wp2_with fail
 go_ret
 exact⟨rfl,rfl⟩
theorem pclonedD_any (p:Option Addr)(n c:Nat)(ys:List (Hd (Int×List Int)))(w:World)(hn:ys.length=n)(hA:At w p (ys.flatMap sD.row))(hgood:∀y∈ys,sD.Good w y.1 y.2.1 y.2.2)(hc:n<=c)(hm:c<=9223372036854775807)(hnil:p=none->c=0)(hs:n<=1000000000)(hlen:∀y∈ys,(sD.byt y.1).length<=1000000):
 Calls Tryz.prog 100 #[.slice p n c,.func (.func 101) #[] #[]] w fun e w'=>∃v zs,e= .returned v/\zs.map (·.1)=ys.map (·.1)/\Rws sD 73 w' w.heap.size v zs/\Below w.heap.size w w':=by
 have hok:∀y∈ys,sD.ok y.1:=fun y hy=>(hgood y hy).ok
 have HCL:=Lib.hid (pcloneD_any p n c ys w hn hA hok hc hm hnil hs)
 have HN:=Lib.hid hn
 have HOK:=Lib.hid hok
 have HG:=Lib.hid hgood
 have HLN:=Lib.hid hlen
 clear hn hA hgood hc hm hnil hlen hok
 go_enter Tryz.func100,Tryz.ntmps100
 go_wp2_with fail
 refine HCL.out.mono ?_
 rintro e w1 ⟨v,rfl,hown,hb⟩
 obtain⟨pv,cv,rfl,_⟩:=own_at_s hown
 have H0:=Lib.hid (show CpL sD 73 w w1 w.heap.size (.slice pv n cv) ys ys 0 from⟨rfl,by rw[HN.out];exact hown,fun j _ h=>absurd h (by omega),rfl,hb⟩)
 clear hown hb HCL
 go_wp2_with fail
 go_loopw [11] (fun iv wr=>∃(i:Nat) (zs:List (Hd (Int×List Int))),iv= .int .i64 i/\i<=n/\Hid (CpL sD 73 w wr w.heap.size (.slice pv n cv) ys zs i)) (fun iv _=>n - (intOf iv).toNat)
 case atStart=>exact⟨0,ys,rfl,Nat.zero_le _,H0⟩
 case round=>
  clear H0
  obtain⟨i,zs,rfl,hi,HC⟩:=hrel
  by_cases hlt:i < n
  ·have hiy:i < ys.length:=by rw[HN.out];exact hlt
   obtain⟨gv,cap,cs,hv,hbk,hcs⟩:=HC.out.cell lastB_D HOK.out hiy
   obtain⟨rfl,rfl⟩:pv=some ⟨gv,0,none⟩/\cv=cap:=by injection hv with e1 e2 e3;exact⟨e1,e3⟩
   have HV:=Lib.hid (fun W1 q c (hb:Below wr.heap.size wr W1) (hc:Cpy W1 (sD.byt ys[i].1) q c)=>CpL.step (t:=73) lastB_D (by decide) HOK.out HG.out (Nat.le_refl _) (by have h9:=HC.out;rw[<-HN.out]at h9;exact h9) hiy hb hc)
   have hg:=(HG.out _ (List.getElem_mem hiy)).below HC.out.below
   have hl:=HLN.out _ (List.getElem_mem hiy)
   obtain⟨y,hy⟩:∃y,y=ys[i]:=⟨_,rfl⟩
   rw[<-hy]at hcs hg hl HV
   obtain⟨m,hm⟩:∃m,m=(sD.byt y.1).length:=⟨_,rfl⟩
   rw[<-hm]at hcs hl HV
   have HB:=Lib.hid (fun k=>bptrD_any gv (i*2) k)
   have c2:wr.cell? ⟨gv,i*2+1,none⟩=some (.slice y.2.1 m y.2.2):=(hbk.cell _).trans hcs
   have f2:wr.frozen? ⟨gv,i*2+1,none⟩=false:=hbk.free _
   have HCB:=Lib.hid (clone8_any (sD.byt y.1) m y.2.1 y.2.2 wr hm.symm hg.at_ (by rw[hm];exact hg.le) hg.max hg.nil hl)
   have HBK:=Lib.hid hbk
   have HCS:=Lib.hid hcs
   obtain⟨q0,hq0⟩:∃q,q=y.2.1:=⟨_,rfl⟩
   obtain⟨d0,hd0⟩:∃q,q=y.2.2:=⟨_,rfl⟩
   rw[<-hq0,<-hd0]at c2 HCB
   have HE:=Lib.hid (show Value.slice y.2.1 m y.2.2= .slice q0 m d0 by rw[hq0,hd0])
   clear hcs hbk hg hl hy hm hv hq0 hd0 HC
   go_wp2_with fail
   refine(HB.out _).mono ?_
   rintro e w2 ⟨rfl,rfl⟩
   go_wp2_with fail
   refine HCB.out.mono ?_
   rintro e w4 ⟨q4,c4,rfl,hc4,hb4⟩
   have HS:=Lib.hid (HV.out w4 q4 c4 hb4 hc4)
   have c5:w4.cell? ⟨gv,i*2+1,none⟩=some (.slice q0 m d0):=(((HBK.out.below hb4 HBK.out.lt).cell _).trans HCS.out).trans (congrArg some HE.out)
   have f5:w4.frozen? ⟨gv,i*2+1,none⟩=false:=(HBK.out.below hb4 HBK.out.lt).free _
   clear hb4 hc4 HV HCB c2 f2
   go_wp2_with fail
   go_roundw
   case rel=>exact⟨i+1,_,by go_num,by omega,by rw[<-HN.out];exact HS⟩
   case measure=>simp[intOf];omega
  ·obtain rfl:i=n:=by omega
   go_wp2_with fail
   go_ret
   exact⟨_,zs,rfl,HC.out.map,HC.out.rows HN.out.symm,HC.out.below⟩
end
section
open Go.RowKit Sha Fct
theorem info9K:(Tryz.prog.info? 95).map (fun i=>(i.zero.map (fun z=>z.cells.size),i.size,decide (i.bytes<=100)))=some (some 33,33,true):=by kernel_rfl
theorem run_nilK (w:World)(p:Option Addr)(n c:Nat):(binOp .eql 42 (.slice p n c) (.slice none 0 0)).run Tryz.prog w= .ok (.bool p.isNone) w:=Lib.run_eql_slice_nil w _ _ p n c 0 0 Tryz.underlying42
theorem pcloneK_any (p:Option Addr)(n c:Nat)(ys:List (Hd (Int×Fct.Id)))(w:World)(hn:ys.length=n)(hA:At w p (ys.flatMap sK.row))(hok:∀y∈ys,sK.ok y.1)(hc:n<=c)(hm:c<=9223372036854775807)(hnil:p=none->c=0)(hs:n<=1000000000):
 Calls Tryz.prog 96 #[.slice p n c] w fun e w'=>∃v,e= .returned v/\w'.ownsRow w.heap.size 95 33 v n (ys.flatMap sK.row)/\Below w.heap.size w w':=by
 have HA:=Lib.hid hA
 have HN:=Lib.hid hn
 have HF:=Lib.hid (show(ys.flatMap sK.row).length=n*33 from(Shp.flat_length ys hok).trans (by rw[hn];rfl))
 have q:=fun w n c=>run_nilK w p n c
 cases p with
 | none=>
    have h0:=hnil rfl
    subst h0
    obtain rfl:n=0:=by omega
    have hz:ys= []:=List.eq_nil_of_length_eq_zero hn
    subst hz
    clear hA hn HF hok
    go_enter Tryz.func96,Tryz.ntmps96
    go_wp2_with fail
    go_ret
    exact⟨_,rfl,World.ownsRow_nil _ _ _ _,Below.refl _ _⟩
 | some a=>
    obtain⟨zb,yb,ib,sb,ub⟩:=info_of info9K
    have Ib:=Lib.hid ib
    have Zb:=Lib.hid sb
    have Ub:=Lib.hid ub
    have Ob:=Lib.hid (World.ownsRow_made (base:=w.heap.size) (size:=33) (e:=95) w #[] 0 (Nat.le_refl _) (by decide) rfl)
    have HI:=Lib.hid (fun h:(some a:Option Addr)=none=>hnil h)
    clear hA hn hnil ib sb ub hok
    go_enter Tryz.func96,Tryz.ntmps96
    go_wp2_with (at_builtin;refine wpList_app_s rfl (.tmp 5) (.tmp 6) 42 rfl w.heap.size 95 (size:=33) (by decide) Tryz.underlying42 Ib.out Zb.out _ 0 [] rfl Ob.out (some a) n c (ys.flatMap sK.row) rfl (HA.out.alloc _) HF.out HI.out hc (Shp.flat_one ys) (by have h2:=Ub.out;rw[Nat.zero_add];exact Nat.le_trans (Nat.mul_le_mul hs h2) (by decide)) (by unfold maxLen;omega) (by simp) ?_;intro vb xb hown hgr hfr;rw[Nat.zero_add,List.nil_append]at hown;have O4:=Lib.hid hown;have B4:=Lib.hid (show Below w.heap.size w xb from((Below.refl _ w).alloc (Nat.le_refl _) (Obj.cells #[] 95)).grown hgr (by simp) (fun k hk=>by cases hk;exact Nat.le_refl _));clear hown hgr hfr)
    go_ret
    exact⟨_,rfl,O4.out,B4.out⟩
end
section
open Go.RowKit Sha Fct
theorem info9H:(Tryz.prog.info? 97).map (fun i=>(i.zero.map (fun z=>z.cells.size),i.size,decide (i.bytes<=100)))=some (some 34,34,true):=by kernel_rfl
theorem run_nilH (w:World)(p:Option Addr)(n c:Nat):(binOp .eql 43 (.slice p n c) (.slice none 0 0)).run Tryz.prog w= .ok (.bool p.isNone) w:=Lib.run_eql_slice_nil w _ _ p n c 0 0 Tryz.underlying43
theorem pcloneH_any (p:Option Addr)(n c:Nat)(ys:List (Hd (Int×Int×Fct.Id)))(w:World)(hn:ys.length=n)(hA:At w p (ys.flatMap sH.row))(hok:∀y∈ys,sH.ok y.1)(hc:n<=c)(hm:c<=9223372036854775807)(hnil:p=none->c=0)(hs:n<=1000000000):
 Calls Tryz.prog 97 #[.slice p n c] w fun e w'=>∃v,e= .returned v/\w'.ownsRow w.heap.size 97 34 v n (ys.flatMap sH.row)/\Below w.heap.size w w':=by
 have HA:=Lib.hid hA
 have HN:=Lib.hid hn
 have HF:=Lib.hid (show(ys.flatMap sH.row).length=n*34 from(Shp.flat_length ys hok).trans (by rw[hn];rfl))
 have q:=fun w n c=>run_nilH w p n c
 cases p with
 | none=>
    have h0:=hnil rfl
    subst h0
    obtain rfl:n=0:=by omega
    have hz:ys= []:=List.eq_nil_of_length_eq_zero hn
    subst hz
    clear hA hn HF hok
    go_enter Tryz.func97,Tryz.ntmps97
    go_wp2_with fail
    go_ret
    exact⟨_,rfl,World.ownsRow_nil _ _ _ _,Below.refl _ _⟩
 | some a=>
    obtain⟨zb,yb,ib,sb,ub⟩:=info_of info9H
    have Ib:=Lib.hid ib
    have Zb:=Lib.hid sb
    have Ub:=Lib.hid ub
    have Ob:=Lib.hid (World.ownsRow_made (base:=w.heap.size) (size:=34) (e:=97) w #[] 0 (Nat.le_refl _) (by decide) rfl)
    have HI:=Lib.hid (fun h:(some a:Option Addr)=none=>hnil h)
    clear hA hn hnil ib sb ub hok
    go_enter Tryz.func97,Tryz.ntmps97
    go_wp2_with (at_builtin;refine wpList_app_s rfl (.tmp 5) (.tmp 6) 43 rfl w.heap.size 97 (size:=34) (by decide) Tryz.underlying43 Ib.out Zb.out _ 0 [] rfl Ob.out (some a) n c (ys.flatMap sH.row) rfl (HA.out.alloc _) HF.out HI.out hc (Shp.flat_one ys) (by have h2:=Ub.out;rw[Nat.zero_add];exact Nat.le_trans (Nat.mul_le_mul hs h2) (by decide)) (by unfold maxLen;omega) (by simp) ?_;intro vb xb hown hgr hfr;rw[Nat.zero_add,List.nil_append]at hown;have O4:=Lib.hid hown;have B4:=Lib.hid (show Below w.heap.size w xb from((Below.refl _ w).alloc (Nat.le_refl _) (Obj.cells #[] 97)).grown hgr (by simp) (fun k hk=>by cases hk;exact Nat.le_refl _));clear hown hgr hfr)
    go_ret
    exact⟨_,rfl,O4.out,B4.out⟩
end
section
open Go.RowKit Sha Fct
attribute [local go_sem ↓] execOp_allocSte execOp_storeSte execOp_boxSte execOp_loadSte
theorem row_weaken {w:World} {B B' n size:Nat} {e:TypeId} {v:Value} {xs:List Value}(h:w.ownsRow B e size v n xs)(hb:B'<=B):w.ownsRow B' e size v n xs:=by
 refine⟨h.1,?_⟩
 rcases h.2 with h | ⟨g,cap,cur,hv,hg,hh⟩
 ·exact Or.inl h
 ·exact Or.inr ⟨g,cap,cur,hv,Nat.le_trans hb hg,hh⟩
theorem Rws.weak {V:Type} {S:Shp V} {t:TypeId} {w:World} {B B':Nat} {v:Value} {ys:List (Hd V)}(h:Rws S t w B v ys)(hb:B'<=B):Rws S t w B' v ys:=⟨row_weaken h.own hb,h.good⟩
structure CoB (w0 W:World)(g g2:Nat)(s:Ste)(h:Hds):Prop where
 box:Blk W g (scells s h) 47
 res:Blk W g2 (scells Ste.none Hds.none) 47
 below:Below w0.heap.size w0 W
 lg:w0.heap.size<=g
 lg2:g<=g2
 ne:g2≠g
theorem CoB.step {w0 W W1:World} {g g2:Nat} {s:Ste} {h h':Hds}(x:CoB w0 W g g2 s h)(hb:Below W.heap.size W W1)(i:Nat)(v:Value)(hs:(scells s h).set i v=scells s h'):CoB w0 (W1.setCell ⟨g,i,none⟩ v) g g2 s h':=
 ⟨by have h1:=(x.box.below hb x.box.lt).set i v;rw[hs]at h1;exact h1,(x.res.below hb x.res.lt).setOther _ _ x.ne,(x.below.trans (hb.mono x.below.size)).setCell (p:=⟨g,i,none⟩) x.lg _,x.lg,x.lg2,x.ne⟩
theorem Rws.boxed {V:Type} {S:Shp V} {t:TypeId} {W1:World} {B g i:Nat} {v u:Value} {ys:List (Hd V)} {cs:List Value}(h:Rws S t W1 B v ys)(hk:Blk W1 g cs 47)(ht:t≠47):Rws S t (W1.setCell ⟨g,i,none⟩ u) B v ys:=
 h.chg (Q:=fun k=>k=g) ((Chg.refl _ W1).grown (setCell_grown W1 g i u) fun k hk _=>by cases hk;rfl) fun k cs2 fz t' hk2 ht' e=>by
  subst e
  unfold Blk at hk
  rw[hk]at hk2;cases hk2
  rcases ht' with e | e
  ·exact ht e.symm
  ·exact absurd e (by decide)
def CopP (s:Ste)(w:World)(e:Ending)(w':World):Prop:=∃r k,e= .returned (.agg (scells s k).toArray)/\ocells s r=scells s k/\StR w' w.heap.size s r/\Below w.heap.size w w'
theorem pcopied_any (s:Ste)(h:Hds)(w:World)(hs:SGood w s h)(hso:Sound s)(hl:(facts s).length<=100000000):
 Calls Tryz.prog 54 #[.agg (scells s h).toArray] w (CopP s w):=by
 have bx:=run_boxOp (P:=Tryz.prog) (t:=47) (cs:=(scells s h).toArray) w
 have hb1:=(Below.refl w.heap.size w).alloc (Nat.le_refl _) (.cells (scells s h).toArray 47)
 have hk1:Blk (w.alloc (.cells (scells s h).toArray 47)) w.heap.size (scells s h) 47:=Blk.new w _ 47
 have hz1:=World.size_alloc w (.cells (scells s h).toArray 47)
 obtain⟨w1,hw1⟩:∃v,v=w.alloc (.cells (scells s h).toArray 47):=⟨_,rfl⟩
 rw[<-hw1]at hb1 hk1 hz1 bx
 have al:=alloc_ste w1
 have hb2:=hb1.alloc (by omega) (.cells (scells Ste.none Hds.none).toArray 47)
 have hk2:=hk1.old (.cells (scells Ste.none Hds.none).toArray 47)
 have hr2:Blk (w1.alloc (.cells (scells Ste.none Hds.none).toArray 47)) w1.heap.size (scells Ste.none Hds.none) 47:=Blk.new w1 _ 47
 obtain⟨w2,hw2⟩:∃v,v=w1.alloc (.cells (scells Ste.none Hds.none).toArray 47):=⟨_,rfl⟩
 rw[<-hw2]at hb2 hk2 hr2 al
 obtain⟨g,hg⟩:∃g,g=w.heap.size:=⟨_,rfl⟩
 obtain⟨g2,hg2⟩:∃r,r=w1.heap.size:=⟨_,rfl⟩
 have C0:=Lib.hid (show CoB w w2 g g2 s h from⟨by rw[hg];exact hk2,by rw[hg2];exact hr2,hb2,by omega,by omega,by omega⟩)
 rw[<-hg]at bx
 rw[<-hg2]at al
 have HS:=Lib.hid hs
 have HSO:=Lib.hid hso
 have HL:=Lib.hid hl
 clear hs hso hl hb1 hk1 hz1 hw1 hb2 hk2 hr2 hw2 hg hg2
 have cb:w2.cell? ⟨g,2,none⟩=some (.slice h.b.1 h.b.2.1 h.b.2.2):=(C0.out.box.cell 2).trans (by rw[scells_eq];rfl)
 go_enter Tryz.func54,Tryz.ntmps54
 go_wp2_with fail
 clear cb
 -- the blobs
 obtain⟨ysb,hyb,hynb,hAb,hgdb,_⟩:=HS.out.b.rows'
 have hcnb:h.b.2.1<=1000000000:=by have h1:=HS.out.b.len;have h2:=few_blobs s;have h3:=HL.out;omega
 refine(pclonedB_any h.b.1 h.b.2.1 h.b.2.2 ysb w2 hynb (hAb.below C0.out.below) (fun y hy=>(hgdb y hy).below C0.out.below) HS.out.b.le HS.out.b.max HS.out.b.nil hcnb (fun y hy=>Nat.le_trans (HSO.out.blobs y.1 (by rw[<-hyb];exact List.mem_map_of_mem hy)).most (by decide))).mono ?_
 rintro e xb ⟨vb,zsb,rfl,hzb,hrb,hbb⟩
 obtain⟨pb,qb,rfl,_⟩:=hrb.told
 have HZb:=Lib.hid (hzb.trans hyb)
 have hC1:=C0.out.step hbb 2 (.slice pb zsb.length qb) (show _=scells s (⟨(pb,zsb.length,qb),h.k,h.h,h.v,h.d⟩:Hds)from scells_setb s h (pb,zsb.length,qb))
 have hxb:=C0.out.box.below hbb C0.out.box.lt
 have db:xb.cell? ⟨g,2,none⟩=some (.slice h.b.1 h.b.2.1 h.b.2.2):=(hxb.cell 2).trans (by rw[scells_eq];rfl)
 have zb:xb.frozen? ⟨g,2,none⟩=false:=hxb.free 2
 have Rb:=Lib.hid ((hrb.weak (B':=w.heap.size) C0.out.below.size).boxed (i:=2) (u:=.slice pb zsb.length qb) hxb (by decide))
 have ck:(xb.setCell ⟨g,2,none⟩ (.slice pb zsb.length qb)).cell? ⟨g,3,none⟩=some (.slice h.k.1 h.k.2.1 h.k.2.2):=(hC1.box.cell 3).trans (by rw[scells_eq];rfl)
 have C1:=Lib.hid hC1
 clear hC1 hxb hrb hbb hzb hyb hynb hAb hgdb hcnb C0
 go_wp2_with fail
 clear db zb ck
 obtain⟨w3,hwb⟩:∃v,v=xb.setCell ⟨g,2,none⟩ (.slice pb zsb.length qb):=⟨_,rfl⟩
 rw[<-hwb]at C1 Rb ⊢
 clear hwb
 -- the keeps
 obtain⟨ysk,hyk,hynk,hAk,hgdk,_⟩:=HS.out.k.rows'
 have hcnk:h.k.2.1<=1000000000:=by have h1:=HS.out.k.len;have h2:=few_keeps s;have h3:=HL.out;omega
 refine(pcloneK_any h.k.1 h.k.2.1 h.k.2.2 ysk w3 hynk (hAk.below C1.out.below) (fun y hy=>(hgdk y hy).ok) HS.out.k.le HS.out.k.max HS.out.k.nil hcnk).mono ?_
 rintro e xk ⟨vk,rfl,hownk,hbk⟩
 have hrk:Rws sK 95 xk w3.heap.size vk ysk:=⟨by rw[hynk];exact hownk,fun y hy=>⟨((hgdk y hy).below C1.out.below).below hbk,Or.inl rfl⟩⟩
 obtain⟨zsk,hzsk⟩:∃z,z=ysk:=⟨_,rfl⟩
 have hzk:zsk.map (·.1)=ysk.map (·.1):=by rw[hzsk]
 rw[<-hzsk]at hrk
 clear hownk hzsk
 obtain⟨pk,qk,rfl,_⟩:=hrk.told
 have HZk:=Lib.hid (hzk.trans hyk)
 have hC2:=C1.out.step hbk 3 (.slice pk zsk.length qk) (show _=scells s (⟨(pb,zsb.length,qb),(pk,zsk.length,qk),h.h,h.v,h.d⟩:Hds)from scells_setk s (⟨(pb,zsb.length,qb),h.k,h.h,h.v,h.d⟩:Hds) (pk,zsk.length,qk))
 have hxk:=C1.out.box.below hbk C1.out.box.lt
 have dk:xk.cell? ⟨g,3,none⟩=some (.slice h.k.1 h.k.2.1 h.k.2.2):=(hxk.cell 3).trans (by rw[scells_eq];rfl)
 have zk:xk.frozen? ⟨g,3,none⟩=false:=hxk.free 3
 have Rk:=Lib.hid ((hrk.weak (B':=w.heap.size) C1.out.below.size).boxed (i:=3) (u:=.slice pk zsk.length qk) hxk (by decide))
 have Rb:=Lib.hid ((Rb.out.below hbk).boxed (i:=3) (u:=.slice pk zsk.length qk) hxk (by decide))
 have ch:(xk.setCell ⟨g,3,none⟩ (.slice pk zsk.length qk)).cell? ⟨g,4,none⟩=some (.slice h.h.1 h.h.2.1 h.h.2.2):=(hC2.box.cell 4).trans (by rw[scells_eq];rfl)
 have C2:=Lib.hid hC2
 clear hC2 hxk hrk hbk hzk hyk hynk hAk hgdk hcnk C1
 go_wp2_with fail
 clear dk zk ch
 obtain⟨w4,hwk⟩:∃v,v=xk.setCell ⟨g,3,none⟩ (.slice pk zsk.length qk):=⟨_,rfl⟩
 rw[<-hwk]at C2 Rk ⊢
 rw[<-hwk]at Rb
 clear hwk
 -- the hints
 obtain⟨ysh,hyh,hynh,hAh,hgdh,_⟩:=HS.out.h.rows'
 have hcnh:h.h.2.1<=1000000000:=by have h1:=HS.out.h.len;have h2:=few_hints s;have h3:=HL.out;omega
 refine(pcloneH_any h.h.1 h.h.2.1 h.h.2.2 ysh w4 hynh (hAh.below C2.out.below) (fun y hy=>(hgdh y hy).ok) HS.out.h.le HS.out.h.max HS.out.h.nil hcnh).mono ?_
 rintro e xh ⟨vh,rfl,hownh,hbh⟩
 have hrh:Rws sH 97 xh w4.heap.size vh ysh:=⟨by rw[hynh];exact hownh,fun y hy=>⟨((hgdh y hy).below C2.out.below).below hbh,Or.inl rfl⟩⟩
 obtain⟨zsh,hzsh⟩:∃z,z=ysh:=⟨_,rfl⟩
 have hzh:zsh.map (·.1)=ysh.map (·.1):=by rw[hzsh]
 rw[<-hzsh]at hrh
 clear hownh hzsh
 obtain⟨ph,qh,rfl,_⟩:=hrh.told
 have HZh:=Lib.hid (hzh.trans hyh)
 have hC3:=C2.out.step hbh 4 (.slice ph zsh.length qh) (show _=scells s (⟨(pb,zsb.length,qb),(pk,zsk.length,qk),(ph,zsh.length,qh),h.v,h.d⟩:Hds)from scells_seth s (⟨(pb,zsb.length,qb),(pk,zsk.length,qk),h.h,h.v,h.d⟩:Hds) (ph,zsh.length,qh))
 have hxh:=C2.out.box.below hbh C2.out.box.lt
 have dh:xh.cell? ⟨g,4,none⟩=some (.slice h.h.1 h.h.2.1 h.h.2.2):=(hxh.cell 4).trans (by rw[scells_eq];rfl)
 have zh:xh.frozen? ⟨g,4,none⟩=false:=hxh.free 4
 have Rh:=Lib.hid ((hrh.weak (B':=w.heap.size) C2.out.below.size).boxed (i:=4) (u:=.slice ph zsh.length qh) hxh (by decide))
 have Rb:=Lib.hid ((Rb.out.below hbh).boxed (i:=4) (u:=.slice ph zsh.length qh) hxh (by decide))
 have Rk:=Lib.hid ((Rk.out.below hbh).boxed (i:=4) (u:=.slice ph zsh.length qh) hxh (by decide))
 have cv:(xh.setCell ⟨g,4,none⟩ (.slice ph zsh.length qh)).cell? ⟨g,5,none⟩=some (.slice h.v.1 h.v.2.1 h.v.2.2):=(hC3.box.cell 5).trans (by rw[scells_eq];rfl)
 have C3:=Lib.hid hC3
 clear hC3 hxh hrh hbh hzh hyh hynh hAh hgdh hcnh C2
 go_wp2_with fail
 clear dh zh cv
 obtain⟨w5,hwh⟩:∃v,v=xh.setCell ⟨g,4,none⟩ (.slice ph zsh.length qh):=⟨_,rfl⟩
 rw[<-hwh]at C3 Rh ⊢
 rw[<-hwh]at Rb
 rw[<-hwh]at Rk
 clear hwh
 -- the votes
 obtain⟨ysv,hyv,hynv,hAv,hgdv,_⟩:=HS.out.v.rows'
 have hcnv:h.v.2.1<=1000000000:=by have h1:=HS.out.v.len;have h2:=few_votes s;have h3:=HL.out;omega
 refine(pclonedV_any h.v.1 h.v.2.1 h.v.2.2 ysv w5 hynv (hAv.below C3.out.below) (fun y hy=>(hgdv y hy).below C3.out.below) HS.out.v.le HS.out.v.max HS.out.v.nil hcnv (fun y hy=>Nat.le_trans (HSO.out.votes y.1 (by rw[<-hyv];exact List.mem_map_of_mem hy)).data.1 (by decide))).mono ?_
 rintro e xv ⟨vv,zsv,rfl,hzv,hrv,hbv⟩
 obtain⟨pv,qv,rfl,_⟩:=hrv.told
 have HZv:=Lib.hid (hzv.trans hyv)
 have hC4:=C3.out.step hbv 5 (.slice pv zsv.length qv) (show _=scells s (⟨(pb,zsb.length,qb),(pk,zsk.length,qk),(ph,zsh.length,qh),(pv,zsv.length,qv),h.d⟩:Hds)from scells_setv s (⟨(pb,zsb.length,qb),(pk,zsk.length,qk),(ph,zsh.length,qh),h.v,h.d⟩:Hds) (pv,zsv.length,qv))
 have hxv:=C3.out.box.below hbv C3.out.box.lt
 have dv:xv.cell? ⟨g,5,none⟩=some (.slice h.v.1 h.v.2.1 h.v.2.2):=(hxv.cell 5).trans (by rw[scells_eq];rfl)
 have zv:xv.frozen? ⟨g,5,none⟩=false:=hxv.free 5
 have Rv:=Lib.hid ((hrv.weak (B':=w.heap.size) C3.out.below.size).boxed (i:=5) (u:=.slice pv zsv.length qv) hxv (by decide))
 have Rb:=Lib.hid ((Rb.out.below hbv).boxed (i:=5) (u:=.slice pv zsv.length qv) hxv (by decide))
 have Rk:=Lib.hid ((Rk.out.below hbv).boxed (i:=5) (u:=.slice pv zsv.length qv) hxv (by decide))
 have Rh:=Lib.hid ((Rh.out.below hbv).boxed (i:=5) (u:=.slice pv zsv.length qv) hxv (by decide))
 have cd:(xv.setCell ⟨g,5,none⟩ (.slice pv zsv.length qv)).cell? ⟨g,6,none⟩=some (.slice h.d.1 h.d.2.1 h.d.2.2):=(hC4.box.cell 6).trans (by rw[scells_eq];rfl)
 have C4:=Lib.hid hC4
 clear hC4 hxv hrv hbv hzv hyv hynv hAv hgdv hcnv C3
 go_wp2_with fail
 clear dv zv cd
 obtain⟨w6,hwv⟩:∃v,v=xv.setCell ⟨g,5,none⟩ (.slice pv zsv.length qv):=⟨_,rfl⟩
 rw[<-hwv]at C4 Rv ⊢
 rw[<-hwv]at Rb
 rw[<-hwv]at Rk
 rw[<-hwv]at Rh
 clear hwv
 -- the decs
 obtain⟨ysd,hyd,hynd,hAd,hgdd,_⟩:=HS.out.d.rows'
 have hcnd:h.d.2.1<=1000000000:=by have h1:=HS.out.d.len;have h2:=few_decs s;have h3:=HL.out;omega
 refine(pclonedD_any h.d.1 h.d.2.1 h.d.2.2 ysd w6 hynd (hAd.below C4.out.below) (fun y hy=>(hgdd y hy).below C4.out.below) HS.out.d.le HS.out.d.max HS.out.d.nil hcnd (fun y hy=>Nat.le_trans (HSO.out.decs y.1 (by rw[<-hyd];exact List.mem_map_of_mem hy)).2.1 (by decide))).mono ?_
 rintro e xd ⟨vd,zsd,rfl,hzd,hrd,hbd⟩
 obtain⟨pd,qd,rfl,_⟩:=hrd.told
 have HZd:=Lib.hid (hzd.trans hyd)
 have hC5:=C4.out.step hbd 6 (.slice pd zsd.length qd) (show _=scells s (⟨(pb,zsb.length,qb),(pk,zsk.length,qk),(ph,zsh.length,qh),(pv,zsv.length,qv),(pd,zsd.length,qd)⟩:Hds)from scells_setd s (⟨(pb,zsb.length,qb),(pk,zsk.length,qk),(ph,zsh.length,qh),(pv,zsv.length,qv),h.d⟩:Hds) (pd,zsd.length,qd))
 have hxd:=C4.out.box.below hbd C4.out.box.lt
 have dd:xd.cell? ⟨g,6,none⟩=some (.slice h.d.1 h.d.2.1 h.d.2.2):=(hxd.cell 6).trans (by rw[scells_eq];rfl)
 have zd:xd.frozen? ⟨g,6,none⟩=false:=hxd.free 6
 have Rd:=Lib.hid ((hrd.weak (B':=w.heap.size) C4.out.below.size).boxed (i:=6) (u:=.slice pd zsd.length qd) hxd (by decide))
 have Rb:=Lib.hid ((Rb.out.below hbd).boxed (i:=6) (u:=.slice pd zsd.length qd) hxd (by decide))
 have Rk:=Lib.hid ((Rk.out.below hbd).boxed (i:=6) (u:=.slice pd zsd.length qd) hxd (by decide))
 have Rh:=Lib.hid ((Rh.out.below hbd).boxed (i:=6) (u:=.slice pd zsd.length qd) hxd (by decide))
 have Rv:=Lib.hid ((Rv.out.below hbd).boxed (i:=6) (u:=.slice pd zsd.length qd) hxd (by decide))
 have ld:=load_steB hC5.box
 have st:=store_ste (s:=s) (h:=(⟨(pb,zsb.length,qb),(pk,zsk.length,qk),(ph,zsh.length,qh),(pv,zsv.length,qv),(pd,zsd.length,qd)⟩:Hds)) hC5.res
 have C5:=Lib.hid hC5
 clear hC5 hxd hrd hbd hzd hyd hynd hAd hgdd hcnd C4
 obtain⟨wz,hwz⟩:∃v,v=xd.setCell ⟨g,6,none⟩ (.slice pd zsd.length qd):=⟨_,rfl⟩
 rw[<-hwz]at ld st C5 Rd Rb Rk Rh Rv
 have hE:Chg (fun j=>j=g2) wz (wz.setRow g2 (scells s (⟨(pb,zsb.length,qb),(pk,zsk.length,qk),(ph,zsh.length,qh),(pv,zsv.length,qv),(pd,zsd.length,qd)⟩:Hds)).toArray):=⟨rfl,rfl,rfl,by simp[World.setRow],fun k _ hn=>setRow_other _ _ _ _ hn⟩
 have hno:∀k cs fz t,wz.heap[k]? = some (.cells cs t fz)->(rowT t\/t=5)->¬k=g2:=by
  rintro k cs fz t hk ht rfl
  have h9:wz.heap[k]? = _:=C5.out.res
  rw[hk]at h9;cases h9
  rcases ht with(ht | ht | ht | ht | ht) | ht<;>exact absurd ht (by decide)
 have HE:=Lib.hid (show CopP s w (.returned (.agg (scells s (⟨(pb,zsb.length,qb),(pk,zsk.length,qk),(ph,zsh.length,qh),(pv,zsv.length,qv),(pd,zsd.length,qd)⟩:Hds)).toArray)) (wz.setRow g2 (scells s (⟨(pb,zsb.length,qb),(pk,zsk.length,qk),(ph,zsh.length,qh),(pv,zsv.length,qv),(pd,zsd.length,qd)⟩:Hds)).toArray)from
  ⟨⟨.slice pb zsb.length qb,.slice pk zsk.length qk,.slice ph zsh.length qh,.slice pv zsv.length qv,.slice pd zsd.length qd,zsb,zsk,zsh,zsv,zsd⟩,(⟨(pb,zsb.length,qb),(pk,zsk.length,qk),(ph,zsh.length,qh),(pv,zsv.length,qv),(pd,zsd.length,qd)⟩:Hds),rfl,by rw[scells_eq];rfl,
   StR.chg ⟨Rb.out,HZb.out,Rk.out,HZk.out,Rh.out,HZh.out,Rv.out,HZv.out,Rd.out,HZd.out⟩ hE hno,Below.setRow C5.out.below (Nat.le_trans C5.out.lg (by have:=C5.out.lg2;omega)) _⟩)
 have HKE:=Lib.hid (C5.out.res.row (scells s (⟨(pb,zsb.length,qb),(pk,zsk.length,qk),(ph,zsh.length,qh),(pv,zsv.length,qv),(pd,zsd.length,qd)⟩:Hds)))
 rw[hwz]at st ld HE HKE
 clear hE hno hwz Rd Rb Rk Rh Rv HZb HZk HZh HZv HZd
 go_wp2_with fail
 exact bodyPost_ret (v:=.agg (scells s (⟨(pb,zsb.length,qb),(pk,zsk.length,qk),(ph,zsh.length,qh),(pv,zsv.length,qv),(pd,zsd.length,qd)⟩:Hds)).toArray) (results_cell_row rfl _ _ _ _ _ _ _ rfl HKE.out (Tryz.underlying47) rfl (ste_sizeA s _)) rfl HE.out
end
section
open Go.RowKit Sha Fct
def FSteQ (w:World)(s:Ste)(h:Hds)(x:Fac)(q:Option Addr)(c:Nat)(r:Ste×Int)(e:Ending)(w':World):Prop:=
 ∃k,e= .returned (.tuple #[.agg (scells r.1 k).toArray,.int .i64 r.2])/\SGood w' r.1 k/\Below w.heap.size w w'/\∀G:Nat->Prop,(∀g,G g->g < w.heap.size/\∃cs,Blk w g cs 47)->SApart w s h G->FApart w x q c G->SApart w' r.1 k G
structure FactsStep:Prop extends FactsFold where
 apply:∀(s:Ste) h (x:Fac) q c w,Sound s->(facts s).length<=4*listMost->SGood w s h->sF.Good w x q c->x.B.length<=dataMost->Calls Tryz.prog 24 #[.agg (scells s h).toArray,.agg (fcells x q c).toArray] w (FSteQ w s h x q c (s.apply x))
end
section
open Go.RowKit Sha Fct
attribute [local go_sem ↓] execOp_allocSte execOp_storeSte execOp_boxSte execOp_loadSte execOp_boxFact execOp_loadFact execOp_buildFacts
theorem run_apply (s:Ste)(x:Fac):s.run [x] = s.apply x:=by
 unfold Ste.apply
 rw[Ste.run]
 split<;>rfl
theorem apart_of {w':World} {B:Nat} {t:Ste} {r:Rows9} {k:Hds}(hR:StR w' B t r)(hk:ocells t r=scells t k) {G:Nat->Prop}(hG:∀g,G g->∃cs,Blk w' g cs 47):SApart w' t k G:=fun W' hs hk2=>by
 have h1:Chg G w' {w' with heap:=W'.heap}:=⟨rfl,rfl,rfl,hs,fun j hj hn=>hk2 j hj hn⟩
 have h2:=(hR.chg h1 (fun j cs fz ty hj ht e=>by
  obtain⟨c2,h9⟩:=hG j e
  unfold Blk at h9
  rw[hj]at h9;cases h9
  rcases ht with(ht | ht | ht | ht | ht) | ht<;>exact absurd ht (by decide))).good hk
 exact h2.carry fun p v hv=>hv
theorem ap_fold {w W3:World} {B gF Bs:Nat} {s:Ste} {r:Rows9} {k:Hds} {x:Fac} {q:Option Addr} {c:Nat}(hb:Below w.heap.size w W3)(hB:w.heap.size<=B)(hB3:B<=W3.heap.size)(hR:StR W3 B s r)(hk:ocells s r=scells s k)(hs:Sound s)(hl:(facts s).length<=100000000)
 (hF:Blk W3 gF (fcells x q c) 28) (hbx:Boxed W3 Bs 30 (.slice (some ⟨gF,0,none⟩) 1 1)) (hx:sF.Good w x q c):
 Calls Tryz.prog 52 #[.agg (scells s k).toArray,.func (.func 93) #[] #[.pointer (some ⟨Bs,0,none⟩)]] W3 (FoldP W3 B (s.apply x)):=by
 have h1:=fold_any w W3 B s r k [(x,q,c)] (some ⟨gF,0,none⟩) 1 1 Bs hR hk hs hl rfl (by omega) hbx (fun W' hc=>by
  have h2:=hc.blk hF (fun⟨_,cs,t',fz,e2,e3⟩=>by
   unfold Blk at hF;rw[hF]at e2;cases e2
   rcases e3 with e3 | e3 | e3 | e3 | e3<;>exact absurd e3 (by decide))
  rw[List.flatMap_cons,List.flatMap_nil,List.append_nil]
  exact Or.inr ⟨gF,0,rfl,fun i u hi=>by rw[Nat.zero_add,h2.cell];exact hi⟩) (fun y hy=>by rw[List.mem_singleton.1 hy];exact hx) hb hB hB3
 rw[<-run_apply]
 exact h1
theorem ap_end {w W3 w6:World} {B g4:Nat} {s:Ste} {h:Hds} {x:Fac} {q:Option Addr} {c:Nat} {t:Ste×Int} {r':Rows9} {k':Hds}(hb:Below w.heap.size w W3)(hB:w.heap.size<=B)(hg:w.heap.size<=g4)(h4:Blk W3 g4 (scells Ste.none Hds.none) 47)
 (hk:ocells t.1 r'=scells t.1 k') (hR:StR w6 B t.1 r') (hC:Chg (fun j=>OwnR W3 B j) W3 w6):
 (storeOp 47 (.pointer (some ⟨g4,0,none⟩)) (.agg (scells t.1 k').toArray)).run Tryz.prog w6= .ok .skip (w6.setRow g4 (scells t.1 k').toArray)/\Blk (w6.setRow g4 (scells t.1 k').toArray) g4 (scells t.1 k') 47/\
   FSteQ w s h x q c t (.returned (.tuple #[.agg (scells t.1 k').toArray,.int .i64 t.2])) (w6.setRow g4 (scells t.1 k').toArray):=by
 have k4:=hC.blk h4 (fun⟨_,cs,t',fz,e2,e3⟩=>by
  unfold Blk at h4;rw[h4]at e2;cases e2
  rcases e3 with e3 | e3 | e3 | e3 | e3<;>exact absurd e3 (by decide))
 have hb6:=chg_belowR hb hB hC
 have hR7:StR (w6.setRow g4 (scells t.1 k').toArray) B t.1 r':=hR.chg (Q:=fun j=>j=g4) (show Chg (fun j=>j=g4) w6 (w6.setRow g4 (scells t.1 k').toArray)from⟨rfl,rfl,rfl,by simp[World.setRow],fun k _ hn=>setRow_other _ _ _ _ hn⟩) (fun k cs fz ty hk ht e=>by
  subst e
  unfold Blk at k4
  rw[hk]at k4;cases k4
  rcases ht with(ht | ht | ht | ht | ht) | ht<;>exact absurd ht (by decide))
 have hb7:=Below.setRow hb6 hg (scells t.1 k').toArray
 refine⟨store_ste k4,k4.row _,k',rfl,hR7.good hk,hb7,fun G hG _ _=>apart_of hR7 hk fun g e=>?_⟩
 obtain⟨h1,cs,h2⟩:=hG g e
 exact⟨cs,h2.below hb7 h1⟩
def ApP (w:World)(g4:Nat)(s:Ste)(h:Hds)(x:Fac)(q:Option Addr)(c:Nat)(e:Ending)(w6:World):Prop:=
 ∃k',e= .returned (.tuple #[.agg (scells (s.apply x).1 k').toArray,.int .i64 (s.apply x).2])/\(storeOp 47 (.pointer (some ⟨g4,0,none⟩)) (.agg (scells (s.apply x).1 k').toArray)).run Tryz.prog w6= .ok .skip (w6.setRow g4 (scells (s.apply x).1 k').toArray)/\
  Blk (w6.setRow g4 (scells (s.apply x).1 k').toArray) g4 (scells (s.apply x).1 k') 47/\FSteQ w s h x q c (s.apply x) (.returned (.tuple #[.agg (scells (s.apply x).1 k').toArray,.int .i64 (s.apply x).2])) (w6.setRow g4 (scells (s.apply x).1 k').toArray)
theorem ap_both {w W3:World} {B gF Bs g4:Nat} {s:Ste} {h:Hds} {r:Rows9} {k:Hds} {x:Fac} {q:Option Addr} {c:Nat}(hb:Below w.heap.size w W3)(hB:w.heap.size<=B)(hB3:B<=W3.heap.size)(hR:StR W3 B s r)(hk:ocells s r=scells s k)(hs:Sound s)(hl:(facts s).length<=100000000)
 (hF:Blk W3 gF (fcells x q c) 28) (hbx:Boxed W3 Bs 30 (.slice (some ⟨gF,0,none⟩) 1 1)) (hx:sF.Good w x q c) (hg:w.heap.size<=g4) (h4:Blk W3 g4 (scells Ste.none Hds.none) 47):
 Calls Tryz.prog 52 #[.agg (scells s k).toArray,.func (.func 93) #[] #[.pointer (some ⟨Bs,0,none⟩)]] W3 (ApP w g4 s h x q c):=
 (ap_fold hb hB hB3 hR hk hs hl hF hbx hx).mono fun e w6 ⟨r',k',he,hk',hR',hC⟩=>by
   obtain⟨h1,h2,h3⟩:=ap_end (s:=s) (h:=h) (x:=x) (q:=q) (c:=c) hb hB hg h4 hk' hR' hC
   exact⟨k',he,h1,h2,h3⟩
theorem ap_A {w wc W w5:World} {gF Bs g4:Nat} {s:Ste} {h:Hds} {r:Rows9} {k:Hds} {x:Fac} {q:Option Addr} {c:Nat}(hbc:Below w.heap.size w wc)(hW:Below wc.heap.size wc W)(hR:StR w5 W.heap.size s r)(hk:ocells s r=scells s k)(hb5:Below W.heap.size W w5)(hs:Sound s)(hl:(facts s).length<=100000000)
 (hx:sF.Good w x q c) (hg:w.heap.size<=g4) (h4:Blk wc g4 (scells Ste.none Hds.none) 47) (hBs:Bs=w5.heap.size+1) (hgF:gF=w5.heap.size):
 Calls Tryz.prog 52 #[.agg (scells s k).toArray,.func (.func 93) #[] #[.pointer (some ⟨Bs,0,none⟩)]] ((w5.alloc (.cells (fcells x q c).toArray 28)).alloc (.cells #[.slice (some ⟨gF,0,none⟩) 1 1] 30)) (ApP w g4 s h x q c):=by
 subst hBs hgF
 have hc5:Below wc.heap.size wc w5:=hW.trans (hb5.mono hW.size)
 have h5:Below w5.heap.size w5 ((w5.alloc (.cells (fcells x q c).toArray 28)).alloc (.cells #[.slice (some ⟨w5.heap.size,0,none⟩) 1 1] 30)):=((Below.refl _ w5).alloc (Nat.le_refl _) _).alloc (by simp) _
 refine ap_both ((hbc.trans (hc5.mono hbc.size)).trans (h5.mono (Nat.le_trans hbc.size hc5.size))) (Nat.le_trans hbc.size hW.size) (Nat.le_trans hb5.size h5.size) (hR.below h5) hk hs hl ((Blk.new w5 (fcells x q c).toArray 28).old _) ?_ hx hg (((h4.below hc5 h4.lt)).below h5 (h4.below hc5 h4.lt).lt)
 have h6:=Boxed.new (w5.alloc (.cells (fcells x q c).toArray 28)) 30 (.slice (some ⟨w5.heap.size,0,none⟩) 1 1)
 rw[World.size_alloc]at h6
 exact h6
theorem ap_B {w wc W w5:World} {gF Bs g4:Nat} {s:Ste} {h:Hds} {r:Rows9} {k:Hds} {x:Fac} {q:Option Addr} {c:Nat}(hbc:Below w.heap.size w wc)(hW:Below wc.heap.size wc W)(hR:StR w5 W.heap.size s r)(hk:ocells s r=scells s k)(hb5:Below W.heap.size W w5)(hF:Blk W gF (fcells x q c) 28)(hs:Sound s)(hl:(facts s).length<=100000000)
 (hx:sF.Good w x q c) (hg:w.heap.size<=g4) (h4:Blk wc g4 (scells Ste.none Hds.none) 47) (hBs:Bs=w5.heap.size):
 Calls Tryz.prog 52 #[.agg (scells s k).toArray,.func (.func 93) #[] #[.pointer (some ⟨Bs,0,none⟩)]] (w5.alloc (.cells #[.slice (some ⟨gF,0,none⟩) 1 1] 30)) (ApP w g4 s h x q c):=by
 subst hBs
 have hc5:Below wc.heap.size wc w5:=hW.trans (hb5.mono hW.size)
 have h5:Below w5.heap.size w5 (w5.alloc (.cells #[.slice (some ⟨gF,0,none⟩) 1 1] 30)):=(Below.refl _ w5).alloc (Nat.le_refl _) _
 have hF5:=hF.below hb5 hF.lt
 exact ap_both ((hbc.trans (hc5.mono hbc.size)).trans (h5.mono (Nat.le_trans hbc.size hc5.size))) (Nat.le_trans hbc.size hW.size) (Nat.le_trans hb5.size h5.size) (hR.below h5) hk hs hl (hF5.below h5 hF5.lt) (Boxed.new w5 30 _) hx hg ((h4.below hc5 h4.lt).below h5 (h4.below hc5 h4.lt).lt)
theorem pApply_any (s:Ste)(h:Hds)(x:Fac)(q:Option Addr)(c:Nat)(w:World)(hs:Sound s)(hl:(facts s).length<=100000000)(hg:SGood w s h)(hx:sF.Good w x q c):
 Calls Tryz.prog 24 #[.agg (scells s h).toArray,.agg (fcells x q c).toArray] w (FSteQ w s h x q c (s.apply x)):=by
 have bx:=run_boxOp (P:=Tryz.prog) (t:=47) (cs:=(scells s h).toArray) w
 have k1:Blk (w.alloc (.cells (scells s h).toArray 47)) w.heap.size (scells s h) 47:=Blk.new w _ 47
 have b1:=(Below.refl w.heap.size w).alloc (Nat.le_refl _) (.cells (scells s h).toArray 47)
 have z1:=World.size_alloc w (.cells (scells s h).toArray 47)
 obtain⟨wa,hwa⟩:∃v,v=w.alloc (.cells (scells s h).toArray 47):=⟨_,rfl⟩
 rw[<-hwa]at bx k1 b1 z1
 have by_:=run_boxOp (P:=Tryz.prog) (t:=28) (cs:=(fcells x q c).toArray) wa
 have k3:Blk (wa.alloc (.cells (fcells x q c).toArray 28)) wa.heap.size (fcells x q c) 28:=Blk.new wa _ 28
 have k13:=k1.old (.cells (fcells x q c).toArray 28)
 have b3:=b1.alloc b1.size (.cells (fcells x q c).toArray 28)
 have z3:=World.size_alloc wa (.cells (fcells x q c).toArray 28)
 obtain⟨wb,hwb⟩:∃v,v=wa.alloc (.cells (fcells x q c).toArray 28):=⟨_,rfl⟩
 rw[<-hwb]at by_ k3 k13 b3 z3
 have al:=alloc_ste wb
 have k4:Blk (wb.alloc (.cells (scells Ste.none Hds.none).toArray 47)) wb.heap.size (scells Ste.none Hds.none) 47:=Blk.new wb _ 47
 have k14:=k13.old (.cells (scells Ste.none Hds.none).toArray 47)
 have k34:=k3.old (.cells (scells Ste.none Hds.none).toArray 47)
 have b4:=b3.alloc b3.size (.cells (scells Ste.none Hds.none).toArray 47)
 obtain⟨wc,hwc⟩:∃v,v=wb.alloc (.cells (scells Ste.none Hds.none).toArray 47):=⟨_,rfl⟩
 rw[<-hwc]at al k4 k14 k34 b4
 obtain⟨g1,hg1⟩:∃g,g=w.heap.size:=⟨_,rfl⟩
 obtain⟨g3,hg3⟩:∃g,g=wa.heap.size:=⟨_,rfl⟩
 obtain⟨g4,hg4⟩:∃g,g=wb.heap.size:=⟨_,rfl⟩
 rw[<-hg1]at bx k14
 rw[<-hg3]at by_ k34
 rw[<-hg4]at al k4
 have H4:=Lib.hid (show w.heap.size<=g4 by omega)
 have HB:=Lib.hid b4
 have HK4:=Lib.hid k4
 have HS:=Lib.hid hs
 have HL:=Lib.hid hl
 have HX:=Lib.hid hx
 have hlen:=hx.ok.len
 have E1:=Lib.hid (fun W (hb:Below wc.heap.size wc W)=>load_steB (k14.below hb k14.lt))
 have E3:=Lib.hid (fun W (hb:Below wc.heap.size wc W)=>load_factB (k34.below hb k34.lt) hlen)
 have BF:=Lib.hid (fun W=>show(buildOp 30 1 #[(0,Value.agg (fcells x q c).toArray)]).run Tryz.prog W= .ok (.value (.slice (some ⟨W.heap.size,0,none⟩) 1 1)) (W.alloc (.cells (fcells x q c).toArray 28))from by
  have h9:=build_facts W [(x,q,c)] (by intro y hy;rw[List.mem_singleton.1 hy];exact hlen) (by simp)
  rw[show(([(x,q,c)]:List (Hd Fac)).map sF.row).flatten=fcells x q c by simp[Shp.row,sF]]at h9
  exact h9)
 have HCP:=Lib.hid (fun W (hb:Below wc.heap.size wc W)=>pcopied_any s h W (hg.below (b4.trans (hb.mono b4.size))) hs hl)
 have l1:=E1.out wc.drew (Below.refl _ wc).drew
 have l3:=E3.out wc.drew (Below.refl _ wc).drew
 clear hs hl hg hx k1 k3 k13 k4 k14 k34 b1 b3 b4 z1 z3 hwa hwb hwc hg1 hg3 hg4 hlen
 go_enter Tryz.func24,Tryz.ntmps24
 have bF0:=BF.out wc.drew
 have l1b:=E1.out (wc.alloc (.cells (fcells x q c).toArray 28)).drew ((Below.refl _ wc).alloc (Nat.le_refl _) _).drew
 go_wp2_with fail
 go_region_law ((first
  | (go_simp;go_at_call 54;refine(HCP.out _ (by first | exact(Below.refl _ wc).drew | exact((Below.refl _ wc).alloc (Nat.le_refl _) _).drew)).mono ?_;rintro e w5 ⟨r,k,rfl,hk,hR,hb⟩;(have HR5:=Lib.hid hR);(have HK5:=Lib.hid hk);(have HB5:=Lib.hid hb);clear hR hk hb;(have l35:=E3.out w5 (by first | exact(Below.refl _ wc).drew.trans (HB5.out.mono (by simp)) | exact((Below.refl _ wc).alloc (Nat.le_refl _) _).drew.trans (HB5.out.mono (by simp))));(have bF5:=BF.out w5))
  | (go_simp;go_at_call 53;refine(fvals_any _ _ _ _).mono ?_;rintro e w8 ⟨rfl,rfl⟩)
  | (go_simp;go_at_call 52;(first | refine(ap_A (h:=h) HB.out (Below.refl _ wc).drew HR5.out HK5.out HB5.out HS.out HL.out HX.out H4.out HK4.out (by simp) rfl).mono ?_ | refine(ap_B (h:=h) HB.out ((Below.refl _ wc).alloc (Nat.le_refl _) _).drew HR5.out HK5.out HB5.out (Blk.new wc (fcells x q c).toArray 28).drew HS.out HL.out HX.out H4.out HK4.out (by simp)).mono ?_);rintro e w9 ⟨k',rfl,st,k9,hE⟩;(have HE:=Lib.hid hE);(have HK9:=Lib.hid k9);clear hE k9)))
 all_goals(
  go_wp2_with fail
  exact bodyPost_ret (v:=.tuple #[.agg (scells (s.apply x).1 k').toArray,.int .i64 (s.apply x).2]) (results_ste1 rfl _ _ g4 (s.apply x).1 k' (.int .i64 (s.apply x).2) rfl rfl HK9.out) rfl HE.out)
end
section
open Go.RowKit Sha Fct
theorem factStep:FactsStep where
 toFactsFold:=factFold
 apply s h x q c w hs hl hg hx _:=pApply_any s h x q c w hs (Nat.le_trans hl (by decide)) hg hx
end
end Go.Proofs.YtokpabkcaofahaaGreat
