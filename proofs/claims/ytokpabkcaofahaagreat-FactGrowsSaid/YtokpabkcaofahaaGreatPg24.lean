/-
  What stands under factGrows_holds: part 24.
-/
import Derived.Test.YtokpabkcaofahaaGreatPg23
import Derived.Test.YtokpabkcaofahaaGreatPg3
import Derived.Deep.Slices
import Derived.Deep.Strs
namespace Go.Proofs.YtokpabkcaofahaaGreat
set_option linter.unusedSimpArgs false
set_option linter.unusedVariables false
set_option maxRecDepth 100000
set_option maxHeartbeats 20000000
section
set_option maxRecDepth 100000
open Go.ChangeShapes Go.WideShapes Go.ChangeAt Go.RowKit Sha Fct
section
variable {H:Type} {enc:TypeId×Value->H} {P:Program} {w:World} {base:Nat} {spare:Nat->Bool} {held:Bool}
theorem cells_bytes9 {t e:TypeId} {n fuel:Nat} {cs:List Value} {x:DataW H×List MemPlace}(ht:P.underlying t=some (.array n e))(he:P.underlying e=some (.int .u8))(hce:P.cellsOf e=1)(hct:P.cellsOf t=n)
 (hf:DataW.trod enc P w base spare held fuel t cs=some x):
 ∃xs:List Int,cs=xs.map v8/\xs.length=n/\(∀m∈xs,0<=m/\m<=255):=by
 obtain⟨ys,m,_,hx,hl,hyl,hel⟩:=DataW.trod_array ht hf
 simp only[hce,Nat.mul_one]at hel
 have hcl:cs.length=n:=by rw[hl,hct]
 have each:∀i,i < n->∃z,cs[i]? = some (.int .u8 z)/\0<=z/\z<=255:=by
  intro i hi
  have h1:=hel i hi
  obtain⟨y,hy⟩:∃y,ys[i]? = some y:=⟨ys[i],List.getElem?_eq_getElem (by omega)⟩
  rw[hy]at h1
  obtain⟨z,hc,rfl,hwf⟩:=DataW.trod_int he h1
  refine⟨z,?_,bounds_u8 hwf⟩
  have:=congrArg (·[0]?) hc
  simpa[List.getElem?_take,List.getElem?_drop]using this
 refine⟨(cs.map fun c=>match c with | .int _ z=>z | _=>0),?_,by simpa using hcl,?_⟩
 ·simp only[List.map_map]
  apply List.ext_getElem?
  intro i
  rw[List.getElem?_map]
  by_cases hi:i < n
  ·obtain⟨z,hz,_⟩:=each i hi
   simp[hz,v8]
  ·rw[List.getElem?_eq_none (by omega)];rfl
 ·intro q hq
  obtain⟨c,hc,rfl⟩:=List.mem_map.1 hq
  obtain⟨i,hi,hci⟩:=List.mem_iff_getElem.1 hc
  obtain⟨z,hz,hb⟩:=each i (by omega)
  rw[List.getElem?_eq_getElem hi,hci]at hz
  cases hz
  exact hb
end
section
variable {H:Type} {enc:TypeId×Value->H} {w:World} {base:Nat} {spare:Nat->Bool} {held:Bool}
theorem trod_struct6 {P:Program} {t:TypeId} {f0 f1 f2 f3 f4 f5:Field} {fuel:Nat} {cs:List Value} {x:DataW H×List MemPlace}(ht:P.underlying t=some (.struct #[f0,f1,f2,f3,f4,f5]))(h:DataW.trod enc P w base spare held fuel t cs=some x):
 ∃y0 y1 y2 y3 y4 y5 n,cs.length=P.cellsOf t/\DataW.trod enc P w base spare held n f0.type ((cs.drop f0.offset).take (P.cellsOf f0.type))=some y0/\
  DataW.trod enc P w base spare held n f1.type ((cs.drop f1.offset).take (P.cellsOf f1.type))=some y1/\DataW.trod enc P w base spare held n f2.type ((cs.drop f2.offset).take (P.cellsOf f2.type))=some y2/\
  DataW.trod enc P w base spare held n f3.type ((cs.drop f3.offset).take (P.cellsOf f3.type))=some y3/\DataW.trod enc P w base spare held n f4.type ((cs.drop f4.offset).take (P.cellsOf f4.type))=some y4/\
  DataW.trod enc P w base spare held n f5.type ((cs.drop f5.offset).take (P.cellsOf f5.type))=some y5:=by
 obtain⟨xs,n,_,rfl,hl,hlen,hf⟩:=DataW.trod_struct ht h
 match xs,hlen with
 | [y0,y1,y2,y3,y4,y5],_=>exact⟨y0,y1,y2,y3,y4,y5,n,hl,by simpa using hf 0 f0 rfl,by simpa using hf 1 f1 rfl,by simpa using hf 2 f2 rfl,by simpa using hf 3 f3 rfl,by simpa using hf 4 f4 rfl,by simpa using hf 5 f5 rfl⟩
theorem cells32f:Tryz.prog.cellsOf 25=32:=by kernel_rfl
theorem cells1sf:Tryz.prog.cellsOf 26=1:=by kernel_rfl
theorem cells1bf:Tryz.prog.cellsOf 5=1:=by kernel_rfl
theorem cells1if:Tryz.prog.cellsOf 3=1:=by kernel_rfl
theorem cells38:Tryz.prog.cellsOf 28=38:=by kernel_rfl
theorem cells2b:Tryz.prog.cellsOf 23=2:=by kernel_rfl
theorem open_fact {fuel:Nat} {cs:List Value} {x:DataW H×List MemPlace}(h:DataW.trod enc Tryz.prog w base spare held fuel 28 cs=some x):
 ∃y:Hd Fac,cs=sF.row y/\sF.Good w y.1 y.2.1 y.2.2:=by
 obtain⟨y0,y1,y2,y3,y4,y5,n,hl,h0,h1,h2,h3,h4,h5⟩:=trod_struct6 Tryz.underlying28 h
 have h0':DataW.trod enc Tryz.prog w base spare held n 3 ((cs.drop 0).take 1)=some y0:=by rw[<-cells1if];exact h0
 have h1':DataW.trod enc Tryz.prog w base spare held n 3 ((cs.drop 1).take 1)=some y1:=by rw[<-cells1if];exact h1
 have h2':DataW.trod enc Tryz.prog w base spare held n 3 ((cs.drop 2).take 1)=some y2:=by rw[<-cells1if];exact h2
 have h3':DataW.trod enc Tryz.prog w base spare held n 23 ((cs.drop 3).take 2)=some y3:=by rw[<-cells2b];exact h3
 have h4':DataW.trod enc Tryz.prog w base spare held n 25 ((cs.drop 5).take 32)=some y4:=by rw[<-cells32f];exact h4
 have h5':DataW.trod enc Tryz.prog w base spare held n 26 ((cs.drop 37).take 1)=some y5:=by rw[<-cells1sf];exact h5
 rw[cells38]at hl
 clear h0 h1 h2 h3 h4 h5 h
 obtain⟨K,c0,_,hw0⟩:=DataW.trod_int Tryz.underlying3 h0'
 obtain⟨S,c1,_,hw1⟩:=DataW.trod_int Tryz.underlying3 h1'
 obtain⟨Hm,c2,_,hw2⟩:=DataW.trod_int Tryz.underlying3 h2'
 obtain⟨z0,z1,n3,_,hl3,g0,g1⟩:=Go.ChangeShapes.trod_struct2 Tryz.underlying23 h3'
 have g0':DataW.trod enc Tryz.prog w base spare held n3 3 ((((cs.drop 3).take 2).drop 0).take 1)=some z0:=by rw[<-cells1if];exact g0
 have g1':DataW.trod enc Tryz.prog w base spare held n3 3 ((((cs.drop 3).take 2).drop 1).take 1)=some z1:=by rw[<-cells1if];exact g1
 obtain⟨N,c3,_,hw3⟩:=DataW.trod_int Tryz.underlying3 g0'
 obtain⟨O,c4,_,hw4⟩:=DataW.trod_int Tryz.underlying3 g1'
 obtain⟨D,c5,hD,hDb⟩:=cells_bytes9 Tryz.underlying25 Tryz.underlying5 cells1bf cells32f h4'
 obtain⟨q,B,cap,c6,hA,hle,hm,hn,hB⟩:=cells_bytesl Tryz.underlying26 Tryz.underlying5 cells1bf h5'
 clear h0' h1' h2' h3' h4' h5' g0 g1 g0' g1' hl3
 have e:cs= .int .i64 K::.int .i64 S::.int .i64 Hm::.int .i64 N::.int .i64 O::(D.map v8++[.slice q B.length cap]):=by
  rcases cs with _ | ⟨a0,_ | ⟨a1,_ | ⟨a2,_ | ⟨a3,_ | ⟨a4,r⟩⟩⟩⟩⟩
  ·simp at hl
  ·simp at hl
  ·simp at hl
  ·simp at hl
  ·simp at hl
  ·simp at c0 c1 c2 c3 c4 c5 c6 hl
   subst c0 c1 c2 c3 c4
   rw[<-c5,<-c6]
   have hr:r=r.take 32++(r.drop 32).take 1:=by rw[List.take_of_length_le (l:=r.drop 32) (by rw[List.length_drop];omega),List.take_append_drop]
   rw[<-hr]
 have k0:=bounds_i64 hw0
 have k1:=bounds_i64 hw1
 have k2:=bounds_i64 hw2
 have k3:=bounds_i64 hw3
 have k4:=bounds_i64 hw4
 exact⟨(⟨K,S,Hm,N,O,D,B⟩,q,cap),e,⟨⟨k0,k1,k2,k3,k4,hDb,hB,hD⟩,hA,hle,by unfold maxLen at hm;omega,hn⟩⟩
theorem fflat_inv (ys:List (Hd Fac))(h:∀y∈ys,y.1.ok)(j:Nat)(v:Value)(hv:(ys.flatMap sF.row)[j]? = some v):∃(i r:Nat)(hi:i < ys.length),r < 38/\j=i*38+r/\(sF.row ys[i])[r]? = some v:=by
 induction ys generalizing j with
 | nil=>simp at hv
 | cons y ys ih=>
    have hl:(sF.row y).length=38:=fcells_length (h y (List.mem_cons_self ..)).len _ _
    rw[List.flatMap_cons]at hv
    by_cases hj:j < 38
    ·rw[List.getElem?_append_left (by omega)]at hv
     exact⟨0,j,by simp,hj,by omega,by simpa using hv⟩
    ·rw[List.getElem?_append_right (by omega),hl]at hv
     obtain⟨i,r,hi,hr,he,hv'⟩:=ih (fun y hy=>h y (List.mem_cons_of_mem _ hy)) (j - 38) hv
     exact⟨i+1,r,by simpa using hi,hr,by omega,by simpa using hv'⟩
theorem open_facts {r:Reach} {b0:Nat} {v:Value} {d:DataW H} {p:List MemPlace}(hv:Value.okWide Tryz.prog w r b0 30 v)(h:DataW.Trod enc Tryz.prog w base spare held 30 v d p):
 ∃(q:Option Addr) (l:List Fac) (len cap:Nat),v= .slice q len cap/\sF.Told w q len cap l:=by
 obtain⟨a0,len0,cap0,rfl⟩:=okWide_slice Tryz.underlying30 hv
 obtain⟨fuel,hf⟩:=h
 rcases Deep.open_slice Tryz.underlying30 hf with⟨hcs,hx⟩ | ⟨a,len,cap,m,n,D,Pl,hcs,_,hl,hm,hmm,hx,hel⟩
 ·simp[Value.cells]at hcs
  obtain⟨rfl,rfl,rfl⟩:=hcs
  exact⟨none,[],0,0,rfl,Shp.Told.none_ _⟩
 ·simp[Value.cells]at hcs
  obtain⟨rfl,rfl,rfl⟩:=hcs
  have hlm:len0<=m:=by rw[hmm];split<;>omega
  have key:∀i,i < len0->∃y:Hd Fac,w.cells? base (a.add (i*38)) 38=some (sF.row y)/\sF.Good w y.1 y.2.1 y.2.2:=by
   intro i hi
   obtain⟨cs',h1,h2⟩:=hel i (by omega)
   rw[cells38]at h1
   obtain⟨y,rfl,hg⟩:=open_fact h2
   exact⟨y,h1,hg⟩
  have:Inhabited (Hd Fac):=⟨(⟨0,0,0,0,0,[],[]⟩,none,0)⟩
  obtain⟨f,hF⟩:=Deep.choose_lt key
  have hgood:∀y∈(List.range len0).map f,sF.Good w y.1 y.2.1 y.2.2:=by
   intro y hy
   obtain⟨i,hi,rfl⟩:=List.mem_map.1 hy
   exact(hF i (List.mem_range.1 hi)).2
  refine⟨some a,((List.range len0).map f).map (·.1),len0,cap0,rfl,by simp,hl,by unfold maxLen at hm;omega,(fun h=>by cases h),(List.range len0).map f,rfl,?_,hgood⟩
  by_cases h0:len0=0
  ·subst h0;exact At.nil _ _
  ·have h1:=(World.cells?_some (hF 0 (by omega)).1).2.2 0 (by omega)
   have hsp:a.spot=none:=by
    have e:(a.add (0*38)).add 0=a:=by simp[Addr.add]
    rw[e,show(sF.row (f 0))[0]? = some (.int .i64 (f 0).1.K)from fcells_K _ _ _]at h1
    cases hs:a.spot with
    | none=>rfl
    | some s=>
       unfold World.cell? at h1
       split at h1
       ·simp[hs]at h1
       ·cases h1
   obtain⟨b,off,sp⟩:=a
   simp only at hsp
   subst hsp
   refine Or.inr ⟨b,off,rfl,fun j v hj=>?_⟩
   obtain⟨i,r,hi,hr,rfl,hv'⟩:=fflat_inv _ (fun y hy=>(hgood y hy).ok) j v hj
   have h2:=(World.cells?_some (hF i (by simpa using hi)).1).2.2 r hr
   rw[Addr.add_mid,Addr.add_mid,Nat.add_assoc]at h2
   rw[h2]
   simpa using hv'
end
end
end Go.Proofs.YtokpabkcaofahaaGreat
