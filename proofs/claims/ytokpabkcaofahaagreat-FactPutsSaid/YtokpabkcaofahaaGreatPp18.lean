/-
  What stands under factPuts_holds: part 18.
-/
import Derived.Test.YtokpabkcaofahaaGreatPp17
import Derived.Test.YtokpabkcaofahaaGreatPp15
import Derived.Test.YtokpabkcaofahaaGreatPp13
import Derived.Test.YtokpabkcaofahaaGreatPp2
import Derived.Test.YtokpabkcaofahaaGreatPp4
import Derived.Test.YtokpabkcaofahaaGreatPp12
import Derived.Laws.MakeOwn
namespace Go.Proofs.YtokpabkcaofahaaGreat
set_option linter.unusedSimpArgs false
set_option linter.unusedVariables false
set_option maxRecDepth 100000
set_option maxHeartbeats 20000000
section
open Go.RowKit Sha
open Fld (Itm)
abbrev WS:=(List Int×List Itm)×Int
def RS (w0:World)(ga:Nat)(p:Option Addr)(n c:Nat)(l:List Itm)(s:WS)(w:World):Prop:=
 ∃k v out,RW w0 ga (.slice p n c) k v out s.2 w/\(s.2=0->out=s.1.1/\l.drop k=s.1.2/\k<=n/\out.length+5000*s.1.2.length<=999000000)
theorem RS.err {w0 w:World} {ga:Nat} {p:Option Addr} {n c:Nat} {l:List Itm} {k:Nat} {v:Value} {out:List Int} {er:Int} {s:WS}(h:RW w0 ga (.slice p n c) k v out er w)(he:er≠0)(hs:s.2=er):RS w0 ga p n c l s w:=
 ⟨k,v,out,by rw[hs];exact h,fun h0=>absurd (hs.symm.trans h0) he⟩
theorem drop_step {l r:List Itm} {k:Nat} {x:Itm}(h:l.drop k=x::r):∃hk:k < l.length,l[k] = x/\l.drop (k+1)=r:=by
 have hk:k < l.length:=by
  rcases Nat.lt_or_ge k l.length with hk | hk
  ·exact hk
  ·rw[List.drop_eq_nil_of_le hk]at h;cases h
 rw[List.drop_eq_getElem_cons hk]at h
 exact⟨hk,(List.cons.inj h).1,(List.cons.inj h).2⟩
theorem rnext_no {w0 w:World} {ga:Nat} {p:Option Addr} {n c:Nat} {l:List Itm} {s:WS}(ht:Told w0 p n c l)(h:RS w0 ga p n c l s w)(hs:s.2≠0\/s.1.2= []):
 ∃k v out er,er≠0/\er=(if s.2=0 then 2 else s.2)/\Calls Tryz.prog 121 #[.pointer (some ⟨ga,0,none⟩)] w (NextDone w0 ga (.slice p n c) v out ⟨0,[],Fld.zero32⟩ k er):=by
 obtain⟨k,v,out,hr,hf⟩:=h
 by_cases h0:s.2=0
 ·obtain⟨rfl,hd,hk,_⟩:=hf h0
  have hnil:s.1.2= []:=by rcases hs with h | h;exact absurd h0 h;exact h
  rw[hnil,List.drop_eq_nil_iff]at hd
  rw[h0]at hr
  exact⟨k,v,_,2,by omega,by rw[if_pos h0],rnext_end w0 ga p n c v _ k w hr (by rw[ht.len];exact hd)⟩
 ·exact⟨k,v,out,s.2,h0,by rw[if_neg h0],rnext_err w0 ga p n c v out k s.2 w hr h0⟩
theorem rnext_yes {w0 w:World} {ga:Nat} {p:Option Addr} {n c:Nat} {l:List Itm} {o:List Int} {x:Itm} {r:List Itm}(ht:Told w0 p n c l)(h:RS w0 ga p n c l ((o,x::r),0) w):
 ∃k v,k+1<=n/\l.drop (k+1)=r/\x.ok/\o.length+5000*(r.length+1)<=999000000/\Calls Tryz.prog 121 #[.pointer (some ⟨ga,0,none⟩)] w (NextDone w0 ga (.slice p n c) v o x (k+1) 0):=by
 obtain⟨k,v,out,hr,hf⟩:=h
 obtain⟨h1,hd,hk,hsm⟩:=hf rfl
 simp only at h1 hd hsm hr
 subst h1
 obtain⟨hlt,hx,hd'⟩:=drop_step hd
 refine⟨k,v,by have:=ht.len;omega,hd',hx ▸ ht.items.ok _ (List.getElem_mem hlt),by simpa using hsm,?_⟩
 rw[<-hx]
 exact rnext_ok w0 ga p n c l ht v out k w hr hlt
theorem stick_0 (c:Int)(st:List Int×List Itm):Fld.stick Fld.putS c (st,0)=((Fld.putS c st).1,(Fld.putS c st).2.2):=by unfold Fld.stick;rw[if_pos rfl]
theorem stick_er {c:Int} {s:WS}(hs:s.2≠0\/s.1.2= []):(Fld.stick Fld.putS c s).2=if s.2=0 then 2 else s.2:=by
 obtain⟨⟨o,r⟩,e⟩:=s
 by_cases h0:e=0
 ·subst h0
  have:r= []:=by rcases hs with h | h;exact absurd rfl h;exact h
  subst this
  rw[stick_0,if_pos rfl];rfl
 ·unfold Fld.stick;rw[if_neg h0,if_neg h0]
theorem stick_no {c:Int} {o:List Int} {x:Itm} {r:List Itm}(h:Fld.okFor c x=false):(Fld.stick Fld.putS c ((o,x::r),0)).2=2:=by rw[stick_0,putS_no h]
theorem stick_bd {c:Int} {o:List Int} {x:Itm} {r:List Itm}(h:Fld.okFor c x=true)(hb:Fld.bound c x≠0):(Fld.stick Fld.putS c ((o,x::r),0)).2=Fld.bound c x:=by rw[stick_0,putS_bd h hb]
theorem stick_yes {c:Int} {o:List Int} {x:Itm} {r:List Itm}(h:Fld.okFor c x=true)(hb:Fld.bound c x=0):Fld.stick Fld.putS c ((o,x::r),0)=((o++Fld.enc c x,r),0):=by rw[stick_0,putS_yes h hb]
def cntN (c:Int)(s:WS):Int:=if s.2=0 then(Fld.putS c s.1).2.1 else 0
theorem cntN_no {c:Int} {s:WS}(hs:s.2≠0\/s.1.2= []):cntN c s=0:=by
 obtain⟨⟨o,r⟩,e⟩:=s
 unfold cntN
 split
 ·rename_i h0
  have:r= []:=by rcases hs with h | h;exact absurd h0 h;exact h
  subst this;rfl
 ·rfl
theorem enc_small {c:Int} {o:List Int} {x:Itm} {r:List Itm}(hx:x.ok)(ho:Fld.okFor c x=true)(hb:Fld.bound c x=0)(hsm:o.length+5000*(r.length+1)<=999000000):(o++Fld.enc c x).length+5000*r.length<=999000000:=by
 have:=Fld.enc_len c x hx ho hb
 rw[List.length_append];omega
theorem RS.yes {w0 w:World} {ga:Nat} {p:Option Addr} {n cp:Nat} {l:List Itm} {k:Nat} {v:Value} {o:List Int} {c:Int} {x:Itm} {r:List Itm}(h:RW w0 ga (.slice p n cp) (k+1) v (o++Fld.enc c x) 0 w)(hk:k+1<=n)(hd:l.drop (k+1)=r)(hx:x.ok)(hsm:o.length+5000*(r.length+1)<=999000000)(ho:Fld.okFor c x=true)(hb:Fld.bound c x=0):
 RS w0 ga p n cp l (Fld.stick Fld.putS c ((o,x::r),0)) w:=by
 rw[stick_yes ho hb]
 exact⟨k+1,v,_,h,fun _=>⟨rfl,hd,hk,enc_small hx ho hb hsm⟩⟩
theorem rcount_any {w0 w:World} {ga:Nat} {p:Option Addr} {n cp:Nat} {l:List Itm} {s:WS}(ht:Told w0 p n cp l)(h:RS w0 ga p n cp l s w)(c most:Int)(hc:(c=110/\most=4611686018427387903)\/(c=40/\most=4000)):
 Calls Tryz.prog 89 #[.pointer (some ⟨ga,0,none⟩),.int .i64 most] w fun e w'=>e= .returned (.int .i64 (cntN c s))/\RS w0 ga p n cp l (Fld.stick Fld.putS c s) w':=by
 have hm0:0<=most:=by omega
 have c98:c≠98:=by omega
 have c100:c≠100:=by omega
 by_cases hs:s.2≠0\/s.1.2= []
 ·obtain⟨k,v,out,er,he,hee,hn⟩:=rnext_no ht h hs
  refine(rcount_err w0 ga _ v out k er he most hm0 w hn).mono ?_
  rintro e w' ⟨rfl,v',hr⟩
  exact⟨by rw[cntN_no hs],RS.err hr he (by rw[stick_er hs,hee])⟩
 ·obtain⟨⟨o,r⟩,e⟩:=s
  obtain⟨h0,hne⟩:=not_or.1 hs
  have h0:e=0:=by simpa using h0
  subst h0
  cases r with
  | nil=>exact absurd rfl hne
  | cons x r=>
     obtain⟨k,v,hk,hd,hx,hsm,hn⟩:=rnext_yes ht h
     have hcnt:cntN c ((o,x::r),0)=(Fld.putS c (o,x::r)).2.1:=by unfold cntN;rw[if_pos rfl]
     by_cases hok:Fld.okFor c x=true
     ·obtain⟨hB,hD⟩:=Fld.okFor_n c98 c100 hok
      have hbd:Fld.bound c x=if x.N < 0\/4611686018427387903 < x.N then 5 else if most < x.N then 3 else 0:=by
       unfold Fld.bound
       rw[hB]
       rcases hc with⟨rfl,rfl⟩ | ⟨rfl,rfl⟩
       ·split
        ·rfl
        ·rename_i h1;rw[if_neg (by simp),if_neg (by omega)]
       ·split
        ·rfl
        ·simp
      by_cases h5:x.N < 0\/4611686018427387903 < x.N
      ·rw[if_pos h5]at hbd
       have hb0:Fld.bound c x≠0:=by rw[hbd];omega
       refine(rcount_r5 w0 ga _ v o (k+1) x hx most hm0 w hn hB hD h5).mono ?_
       rintro e w' ⟨rfl,v',hr⟩
       exact⟨by rw[hcnt,putS_bd hok hb0],RS.err hr (by omega) (by rw[stick_bd hok hb0,hbd])⟩
      ·rw[if_neg h5]at hbd
       by_cases h3:most < x.N
       ·rw[if_pos h3]at hbd
        have hb0:Fld.bound c x≠0:=by rw[hbd];omega
        refine(rcount_r3 w0 ga _ v o (k+1) x hx most hm0 w hn hB hD (by omega) (by omega) h3).mono ?_
        rintro e w' ⟨rfl,v',hr⟩
        exact⟨by rw[hcnt,putS_bd hok hb0],RS.err hr (by omega) (by rw[stick_bd hok hb0,hbd])⟩
       ·rw[if_neg h3]at hbd
        refine(rcount_ok w0 ga _ v o (k+1) x hx most w hn hB hD (by omega) (by omega) (by omega) (by omega)).mono ?_
        rintro e w' ⟨rfl,v',hr⟩
        refine⟨by rw[hcnt,putS_yes hok hbd],RS.yes (v:=v') (c:=c) ?_ hk hd hx hsm hok hbd⟩
        rw[show Fld.enc c x=Fld.num x.N.toNat by unfold Fld.enc;rw[if_neg c98,if_neg c100]]
        exact hr
     ·have hok':Fld.okFor c x=false:=by simpa using hok
      by_cases hB:x.B= []
      ·have hD:x.D≠Fld.zero32:=fun hD=>hok (by unfold Fld.okFor;rw[if_neg c98,if_neg c100,hB,hD];simp)
       refine(rcount_d w0 ga _ v o (k+1) x hx most hm0 w hn hB hD).mono ?_
       rintro e w' ⟨rfl,v',hr⟩
       exact⟨by rw[hcnt,putS_no hok'],RS.err hr (by omega) (stick_no hok')⟩
      ·refine(rcount_b w0 ga _ v o (k+1) x hx most hm0 w hn hB).mono ?_
       rintro e w' ⟨rfl,v',hr⟩
       exact⟨by rw[hcnt,putS_no hok'],RS.err hr (by omega) (stick_no hok')⟩
theorem rfield_n {w0 w:World} {ga:Nat} {p:Option Addr} {n cp:Nat} {l:List Itm} {s:WS}(ht:Told w0 p n cp l)(h:RS w0 ga p n cp l s w):
 Calls Tryz.prog 87 #[.pointer (some ⟨ga,0,none⟩),.int .u8 110] w fun e w'=>e= .returned (.tuple #[])/\RS w0 ga p n cp l (Fld.stick Fld.putS 110 s) w':=by
 have HC:=Lib.hid (rcount_any ht h 110 4611686018427387903 (Or.inl ⟨rfl,rfl⟩))
 clear h ht
 go_enter Tryz.func87,Tryz.ntmps87
 go_wp2_with (go_at_call 89;refine HC.out.mono ?_;rintro e w1 ⟨rfl,h1⟩)
 exact bodyPost_ret (results_none rfl _ _ _) rfl ⟨rfl,h1⟩
theorem rfield_98 {w0 w:World} {ga:Nat} {p:Option Addr} {n cp:Nat} {l:List Itm} {s:WS}(ht:Told w0 p n cp l)(h:RS w0 ga p n cp l s w):
 Calls Tryz.prog 87 #[.pointer (some ⟨ga,0,none⟩),.int .u8 98] w fun e w'=>e= .returned (.tuple #[])/\RS w0 ga p n cp l (Fld.stick Fld.putS 98 s) w':=by
 by_cases hs:s.2≠0\/s.1.2= []
 ·obtain⟨k,v,out,er,he,hee,hn⟩:=rnext_no ht h hs
  refine(rfield_err_98 w0 ga _ v out k er he w hn).mono ?_
  rintro e w' ⟨rfl,v',hr⟩
  exact⟨rfl,RS.err hr he (by rw[stick_er hs,hee])⟩
 ·obtain⟨⟨o,r⟩,e⟩:=s
  obtain⟨h0,hne⟩:=not_or.1 hs
  have h0:e=0:=by simpa using h0
  subst h0
  cases r with
  | nil=>exact absurd rfl hne
  | cons x r=>
     obtain⟨k,v,hk,hd,hx,hsm,hn⟩:=rnext_yes ht h
     by_cases hN:x.N=0
     ·by_cases hD:x.D=Fld.zero32
      ·have hok:Fld.okFor 98 x=true:=by rw[okFor_98,hN,hD];simp
       have hbd:Fld.bound 98 x=if 4000 < x.B.length then 3 else 0:=by unfold Fld.bound;rw[hN,if_neg (by omega)];simp
       by_cases h3:4000 < x.B.length
       ·rw[if_pos h3]at hbd
        have hb0:Fld.bound 98 x≠0:=by rw[hbd];omega
        refine(rfield_long_98 w0 ga _ v o (k+1) x hx w hn hN hD h3).mono ?_
        rintro e w' ⟨rfl,v',hr⟩
        exact⟨rfl,RS.err hr (by omega) (by rw[stick_bd hok hb0,hbd])⟩
       ·rw[if_neg h3]at hbd
        refine(rfield_b w0 ga _ v o (k+1) x hx w hn hN hD (by omega) (by omega)).mono ?_
        rintro e w' ⟨rfl,v',hr⟩
        refine⟨rfl,RS.yes (v:=v') (c:=98) ?_ hk hd hx hsm hok hbd⟩
        rw[show Fld.enc 98 x=Fld.num x.B.length++x.B by unfold Fld.enc;rw[if_pos rfl],<-List.append_assoc]
        exact hr
      ·have hok':Fld.okFor 98 x=false:=by rw[okFor_98];simp[hD]
       refine(rfield_id_98 w0 ga _ v o (k+1) x hx w hn hN hD).mono ?_
       rintro e w' ⟨rfl,v',hr⟩
       exact⟨rfl,RS.err hr (by omega) (stick_no hok')⟩
     ·have hok':Fld.okFor 98 x=false:=by rw[okFor_98];simp[hN]
      refine(rfield_n_98 w0 ga _ v o (k+1) x hx w hn hN).mono ?_
      rintro e w' ⟨rfl,v',hr⟩
      exact⟨rfl,RS.err hr (by omega) (stick_no hok')⟩
theorem rfield_100 {w0 w:World} {ga:Nat} {p:Option Addr} {n cp:Nat} {l:List Itm} {s:WS}(ht:Told w0 p n cp l)(h:RS w0 ga p n cp l s w):
 Calls Tryz.prog 87 #[.pointer (some ⟨ga,0,none⟩),.int .u8 100] w fun e w'=>e= .returned (.tuple #[])/\RS w0 ga p n cp l (Fld.stick Fld.putS 100 s) w':=by
 by_cases hs:s.2≠0\/s.1.2= []
 ·obtain⟨k,v,out,er,he,hee,hn⟩:=rnext_no ht h hs
  refine(rfield_err_100 w0 ga _ v out k er he w hn).mono ?_
  rintro e w' ⟨rfl,v',hr⟩
  exact⟨rfl,RS.err hr he (by rw[stick_er hs,hee])⟩
 ·obtain⟨⟨o,r⟩,e⟩:=s
  obtain⟨h0,hne⟩:=not_or.1 hs
  have h0:e=0:=by simpa using h0
  subst h0
  cases r with
  | nil=>exact absurd rfl hne
  | cons x r=>
     obtain⟨k,v,hk,hd,hx,hsm,hn⟩:=rnext_yes ht h
     by_cases hN:x.N=0
     ·by_cases hB:x.B= []
      ·have hok:Fld.okFor 100 x=true:=by rw[okFor_100,hN,hB];simp
       have hbd:Fld.bound 100 x=0:=by unfold Fld.bound;rw[hN,hB,if_neg (by omega)];simp
       refine(rfield_d w0 ga _ v o (k+1) x hx w hn hN hB (by omega)).mono ?_
       rintro e w' ⟨rfl,v',hr⟩
       refine⟨rfl,RS.yes (v:=v') (c:=100) ?_ hk hd hx hsm hok hbd⟩
       rw[show Fld.enc 100 x=x.D by unfold Fld.enc;rw[if_neg (by omega),if_pos rfl]]
       exact hr
      ·have hok':Fld.okFor 100 x=false:=by rw[okFor_100];simp[hB]
       refine(rfield_by_100 w0 ga _ v o (k+1) x hx w hn hN hB).mono ?_
       rintro e w' ⟨rfl,v',hr⟩
       exact⟨rfl,RS.err hr (by omega) (stick_no hok')⟩
     ·have hok':Fld.okFor 100 x=false:=by rw[okFor_100];simp[hN]
      refine(rfield_n_100 w0 ga _ v o (k+1) x hx w hn hN).mono ?_
      rintro e w' ⟨rfl,v',hr⟩
      exact⟨rfl,RS.err hr (by omega) (stick_no hok')⟩
theorem rfield_any {w0 w:World} {ga:Nat} {p:Option Addr} {n cp:Nat} {l:List Itm} {s:WS}(ht:Told w0 p n cp l)(h:RS w0 ga p n cp l s w)(c:Int)(hc:Fld.isLet c):
 Calls Tryz.prog 87 #[.pointer (some ⟨ga,0,none⟩),.int .u8 c] w fun e w'=>e= .returned (.tuple #[])/\RS w0 ga p n cp l (Fld.stick Fld.putS c s) w':=by
 rcases hc with rfl | rfl | rfl
 ·exact rfield_n ht h
 ·exact rfield_98 ht h
 ·exact rfield_100 ht h
def walkS (r:List Int)(s:WS):WS:=if s.2=0 then Fld.walkL Fld.putS none 0 r s.1 else s
theorem walkS_letter {c:Int} {r:List Int} {k:Bool}(s:WS)(hc:c≠40)(h:Fld.chkL r false k=true):walkS (c::r) s=walkS r (Fld.stick Fld.putS c s):=by
 unfold walkS Fld.stick
 by_cases h0:s.2=0
 ·rw[if_pos h0,if_pos h0,Fld.walkL_letter _ _ _ _ _ hc]
  split
  ·exact Fld.walkL_tail _ _ _ r _ k h
  ·rfl
 ·rw[if_neg h0,if_neg h0,if_neg h0]
def repS (cs:List Int)(m:Nat)(s:WS):WS:=if s.2=0 then Fld.rep Fld.putS cs m s.1 else s
theorem repS_err {cs:List Int} {m:Nat} {s:WS}(h:s.2≠0):repS cs m s=s:=by unfold repS;rw[if_neg h]
theorem repS_zero {cs:List Int} {s:WS}:repS cs 0 s=s:=by
 unfold repS
 split
 ·rename_i h;rw[Fld.rep,<-h]
 ·rfl
theorem repS_succ {cs:List Int} {m:Nat} {s:WS}(h:s.2=0):repS cs (m+1) s=repS cs m (Fld.sticks Fld.putS cs s):=by
 have e:(s.1,(0:Int))=s:=by rw[<-h]
 unfold repS
 rw[if_pos h,Fld.rep_stick,e]
theorem walkS_open {cs r:List Int} {k:Bool}(s:WS)(hcs:∀c∈cs,Fld.isLet c)(h:Fld.chkL r false k=true):walkS (40::(cs++41::r)) s=walkS r (repS cs (cntN 40 s).toNat (Fld.stick Fld.putS 40 s)):=by
 unfold walkS
 by_cases h0:s.2=0
 ·have hcn:cntN 40 s=(Fld.putS 40 s.1).2.1:=by unfold cntN;rw[if_pos h0]
  rw[if_pos h0,Fld.walkL_open _ _ _ _ _ hcs,hcn]
  unfold repS Fld.stick
  rw[if_pos h0]
  split
  ·rename_i h1
   simp only[h1,if_true]
   split
   ·exact Fld.walkL_tail _ _ _ r _ k h
   ·rfl
  ·rename_i h1
   simp only[h1,if_false]
 ·rw[if_neg h0]
  have e:Fld.stick Fld.putS 40 s=s:=Fld.stick_err _ h0
  rw[e,repS_err h0,if_neg h0]
theorem cntN_pos (s:WS):0<=cntN 40 s/\cntN 40 s<=4000:=by
 obtain⟨⟨o,r⟩,e⟩:=s
 unfold cntN
 split
 ·cases r with
  | nil=>simp[Fld.putS]
  | cons x r=>
     unfold Fld.putS
     simp only
     split
     ·split
      ·rename_i hb
       have:=Fld.bound_zero hb
       exact⟨this.1,this.2.2.2 rfl⟩
      ·simp
     ·simp
 ·simp
theorem sticks_snoc (cs:List Int)(c:Int)(s:WS):Fld.sticks Fld.putS (cs++[c]) s=Fld.stick Fld.putS c (Fld.sticks Fld.putS cs s):=by
 unfold Fld.sticks;rw[List.foldl_append];rfl
theorem inner_nums {s:ByteArray} {k:Nat} {c:Int} {cs r:List Int}(h:(nums s).drop k=c::(cs++41::r)):nums (s.extract (k+1) s.size)=cs++41::r/\nums ((s.extract (k+1) s.size).extract 0 cs.length)=cs:=by
 have h1:nums (s.extract (k+1) s.size)=cs++41::r:=by
  rw[nums_extract,<-nums_length,List.take_length,<-List.drop_drop,h]
  rfl
 refine⟨h1,?_⟩
 rw[nums_extract,h1]
 simp
theorem put_of_walkS (s:List Int)(l:List Itm)(h:Fld.chk s=true):Fld.put s l=if(walkS s (([],l),0)).2=0 then(if(walkS s (([],l),0)).1.2= []then((walkS s (([],l),0)).1.1,0)else([],2))else([],(walkS s (([],l),0)).2):=by
 have e:walkS s (([],l),0)=Fld.walkL Fld.putS none 0 s ([],l):=by unfold walkS;rw[if_pos rfl]
 rw[e]
 unfold Fld.put
 rw[if_pos h]
theorem rput_any (s:ByteArray)(hs:s.size<=maxLen)(l:List Itm)(p:Option Addr)(n c:Nat)(w:World)(ht:Told w p n c l)(hsm:n<=100000):
 Calls Tryz.prog 45 #[.string s,.slice p n c] w (PutDone w (Fld.put (nums s) l)):=by
 by_cases hc:Fld.chk (nums s)=true
 ·have HE:=Lib.hid (Fld.chkE_ok hc)
  have HC:=Lib.hid (chk_len hc)
  have hsl:s.size<=40:=by have:=HC.out.1;rwa [nums_length]at this
  obtain⟨R,hr⟩:∃R,R=walkS (nums s) (([],l),0):=⟨_,rfl⟩
  have HP:=Lib.hid (put_of_walkS (nums s) l hc)
  rw[<-hr]at HP
  have HR:=Lib.hid hr
  have HT:=Lib.hid ht
  have hnm:=ht.max
  have hnc:=ht.le
  clear hc hr ht
  go_enter Tryz.func45,Tryz.ntmps45
  go_wp2_with (first
   | (go_at_call 86;refine(rcheck_any s w hs).mono ?_;rw[HE.out];rintro e w1 ⟨rfl,rfl⟩))
  have hst:RS w w.heap.size p n c l (([],l),0) (w.alloc (Obj.cells #[Value.slice p n c,Value.int IntKind.i64 0,Value.slice none 0 0,Value.int IntKind.i64 0] 127)):=
   ⟨0,.slice none 0 0,[],⟨by simpa using Blk.new w #[Value.slice p n c,Value.int IntKind.i64 0,Value.slice none 0 0,Value.int IntKind.i64 0] 127,Own8.nil _ _ _,Nat.le_refl _,(Below.refl _ _).alloc (Nat.le_refl _) _⟩,fun _=>⟨rfl,rfl,by omega,by have:=HT.out.len;simp;omega⟩⟩
  have HST:=Lib.hid hst
  clear hst
  generalize w.alloc (Obj.cells #[Value.slice p n c,Value.int IntKind.i64 0,Value.slice none 0 0,Value.int IntKind.i64 0] 127)=wA at *
  obtain⟨ga,hga⟩:∃g,g=w.heap.size:=⟨_,rfl⟩
  rw[<-hga]at HST ⊢
  clear hga
  go_loopw [7,8,9,10] (fun i _ _ _ wr=>∃(k:Nat) (st:WS) (kk:Bool),i= .int .i64 k/\k<=s.size/\Hid (RS w ga p n c l st wr)/\Hid (walkS ((nums s).drop k) st=R)/\Hid (Fld.chkL ((nums s).drop k) false kk=true)) (fun i _ _ _ _=>s.size - (intOf i).toNat)
  case atStart=>exact⟨0,_,false,rfl,by omega,HST,Lib.hid (by rw[List.drop_zero];exact HR.out.symm),Lib.hid (by rw[List.drop_zero];exact HC.out.2)⟩
  case round=>
   clear HST HR
   obtain⟨k,st,kk,rfl,hk,HS,HW,HK⟩:=hrel
   by_cases hlt:k < s.size
   ·obtain⟨c1,hd⟩:=drop_some s k hlt
    have hby:=run_letter s k c1 _ hd
    have hko:=HK.out
    rw[hd]at hko
    rcases Fld.chkL_out c1 _ kk hko with⟨hlet,hrest⟩ | ⟨rfl,cs,r',k',hr',hcs,hrest⟩
    ·have h40:(c1 == 40)=false:=by rw[beq_eq_false_iff_ne];exact(Fld.isLet_ne hlet).1
     have HF:=Lib.hid (rfield_any HT.out HS.out c1 hlet)
     have HW':=Lib.hid (show walkS ((nums s).drop (k+1)) (Fld.stick Fld.putS c1 st)=R by rw[<-walkS_letter st (Fld.isLet_ne hlet).1 hrest,<-hd];exact HW.out)
     have HK':=Lib.hid hrest
     clear hd hko hlet hrest HW HK HS
     go_wp2_with (go_at_call 87;refine HF.out.mono ?_;rintro e w2 ⟨rfl,h2⟩;have H2:=Lib.hid h2;clear h2)
     go_roundw
     case rel=>exact⟨k+1,_,true,by go_num,by omega,H2,HW',HK'⟩
     case measure=>simp[intOf];omega
    ·have hd2:(nums s).drop k=40::(cs++41::r'):=by rw[hd,hr']
     obtain⟨hin,hinn⟩:=inner_nums hd2
     have hlen:cs.length+2+r'.length+k=s.size:=by
      have:=congrArg List.length hd2
      rw[List.length_drop,nums_length]at this
      simp at this;omega
     have hrd:(nums s).drop (k+cs.length+2)=r':=by
      have e1:(nums s).drop (k+1)=cs++41::r':=hr'
      have e2:(nums s).drop (k+cs.length+2)=((nums s).drop (k+1)).drop (cs.length+1):=by rw[List.drop_drop];congr 1;omega
      rw[e2,e1];simp
     have hcp:=cntN_pos st
     obtain⟨cn,hcn⟩:∃m:Nat,(m:Int)=cntN 40 st:=⟨(cntN 40 st).toNat,by omega⟩
     have hcn4:cn<=4000:=by omega
     clear hcp
     have HCT:=Lib.hid (rcount_any HT.out HS.out 40 4000 (Or.inr ⟨rfl,rfl⟩))
     rw[<-hcn]at HCT
     have HGR:=Lib.hid (group_any (s.extract (k+1) s.size) (by rw[ByteArray.size_extract];unfold maxLen at *;omega) cs r' hin (fun d hd=>(Fld.isLet_ne (hcs d hd)).2))
     obtain⟨inn,hinn2⟩:∃t,t=(s.extract (k+1) s.size).extract 0 cs.length:=⟨_,rfl⟩
     rw[<-hinn2]at hinn HGR
     have hisz:inn.size=cs.length:=by rw[<-nums_length,hinn]
     have HIN:=Lib.hid hinn
     have HCS:=Lib.hid hcs
     have HD:=Lib.hid hrd
     have HW':=Lib.hid (show walkS r' (repS cs cn (Fld.stick Fld.putS 40 st))=R by
      have:=walkS_open st hcs hrest
      rw[<-hcn,Int.toNat_natCast]at this
      rw[<-this,<-hd2];exact HW.out)
     have HK':=Lib.hid hrest
     clear hd hko hrest HW HK HS hd2 hin hinn hinn2 hrd hcs hcn hr'
     go_wp2_with (first
      | (go_at_call 88;refine(HGR.out _).mono ?_;rintro e w2 ⟨rfl,rfl⟩)
      | (go_at_call 89;refine HCT.out.mono ?_;rintro e w3 ⟨rfl,h3⟩;have H3:=Lib.hid h3;clear h3))
     obtain⟨RR,hRR⟩:∃RR,RR=repS cs cn (Fld.stick Fld.putS 40 st):=⟨_,rfl⟩
     rw[<-hRR]at HW'
     have HRR:=Lib.hid hRR.symm
     clear hRR HCT HGR hby
     obtain⟨gl,hgl⟩:∃g,g=cs.length:=⟨_,rfl⟩
     rw[<-hgl]at hlen hisz HD
     have HGL:=Lib.hid hgl
     clear hgl
     go_loopw [9,10] (fun nn _ wr=>∃(m:Nat) (st2:WS),nn= .int .i64 m/\m<=4000/\Hid (RS w ga p n c l st2 wr)/\Hid (repS cs m st2=RR)) (fun nn _ _=>(intOf nn).toNat)
     case atStart=>exact⟨cn,_,rfl,hcn4,H3,HRR⟩
     case round=>
      clear H3 HRR
      obtain⟨m,st2,rfl,hm,H2,HR2⟩:=hrel
      by_cases hm0:m=0
      ·subst hm0
       have HE2:=Lib.hid (show st2=RR from repS_zero.symm.trans HR2.out)
       have HS2:=Lib.hid (show RS w ga p n c l RR wr from HE2.out ▸ H2.out)
       go_wp2_with fail
       go_roundw
       case rel=>exact⟨k+gl+2,RR,k',by go_num,by omega,HS2,Lib.hid (by rw[HD.out];exact HW'.out),Lib.hid (by rw[HD.out];exact HK'.out)⟩
       case measure=>simp[intOf];omega
      ·have hmp:(0:Int) < (m:Int):=by omega
       have h2:=H2.out
       obtain⟨k0,v0,o0,hrw,_⟩:=h2
       have c3:wr.cell? ⟨ga,3,none⟩=some (.int .i64 st2.2):=hrw.blk.cell 3
       clear hrw
       obtain⟨er,her⟩:∃e,e=st2.2:=⟨_,rfl⟩
       rw[<-her]at c3
       by_cases h0:er=0
       ·subst h0
        have HE0:=Lib.hid her.symm
        clear her
        go_wp2_with fail
        go_loopw [10] (fun kk wr=>∃(j:Nat) (st3:WS),kk= .int .i64 j/\j<=gl/\Hid (RS w ga p n c l st3 wr)/\Hid (st3=Fld.sticks Fld.putS (cs.take j) st2)) (fun kk _=>gl - (intOf kk).toNat)
        case atStart=>exact⟨0,st2,rfl,by omega,H2,Lib.hid (by rw[List.take_zero];rfl)⟩
        case round=>
         clear H2 c3
         obtain⟨j,st3,rfl,hj,H3,HJ⟩:=hrel
         by_cases hlj:j < gl
         ·have hjc:j < cs.length:=by rw[<-HGL.out];exact hlj
          have hby:=run_letter inn j cs[j] (cs.drop (j+1)) (by rw[HIN.out];exact List.drop_eq_getElem_cons hjc)
          have HF:=Lib.hid (rfield_any HT.out H3.out cs[j] (HCS.out _ (List.getElem_mem hjc)))
          have HJ':=Lib.hid (show Fld.stick Fld.putS cs[j] st3=Fld.sticks Fld.putS (cs.take (j+1)) st2 by rw[List.take_succ_eq_append_getElem hjc,sticks_snoc,HJ.out])
          obtain⟨cj,hcj⟩:∃x,x=cs[j]:=⟨_,rfl⟩
          rw[<-hcj]at hby HF HJ'
          clear hcj hjc H3 HJ
          go_wp2_with (go_at_call 87;refine HF.out.mono ?_;rintro e w4 ⟨rfl,h4⟩;have H4:=Lib.hid h4;clear h4)
          go_roundw
          case rel=>exact⟨j+1,_,by go_num,by omega,H4,HJ'⟩
          case measure=>simp[intOf];omega
         ·obtain rfl:j=gl:=by omega
          obtain⟨m',rfl⟩:∃m',m=m'+1:=⟨m - 1,by omega⟩
          have HN2:=Lib.hid (show repS cs m' st3=RR by rw[HJ.out,HGL.out,List.take_length,<-repS_succ HE0.out];exact HR2.out)
          go_wp2_with fail
          go_roundw
          case rel=>exact⟨m',st3,by go_num,by omega,H3,HN2⟩
          case measure=>simp[intOf]
       ·have hne:(er == 0)=false:=by rw[beq_eq_false_iff_ne];exact h0
        have HE2:=Lib.hid (show st2=RR from(repS_err (by rw[<-her];exact h0)).symm.trans HR2.out)
        have HS2:=Lib.hid (show RS w ga p n c l RR wr from HE2.out ▸ H2.out)
        clear h0 her
        go_wp2_with fail
        go_roundw
        case rel=>exact⟨k+gl+2,RR,k',by go_num,by omega,HS2,Lib.hid (by rw[HD.out];exact HW'.out),Lib.hid (by rw[HD.out];exact HK'.out)⟩
        case measure=>simp[intOf];omega
   ·obtain rfl:k=s.size:=by omega
    have hRst:st=R:=by
     have h1:=HW.out
     rw[<-nums_length,List.drop_length]at h1
     rw[<-h1]
     unfold walkS
     split
     ·rename_i h2;rw[Fld.walkL,<-h2]
     ·rfl
    subst hRst
    have h2:=HS.out
    obtain⟨k0,v0,o0,hrw,hf⟩:=h2
    have HRW:=Lib.hid hrw
    have a1:wr.cell? ⟨ga,1,none⟩=some (.int .i64 k0):=hrw.blk.cell 1
    have a2:wr.cell? ⟨ga,2,none⟩=some v0:=hrw.blk.cell 2
    have a3:wr.cell? ⟨ga,3,none⟩=some (.int .i64 st.2):=hrw.blk.cell 3
    have HLN:=Lib.hid HT.out.len
    clear hrw HW HK HS
    by_cases h0:st.2=0
    ·obtain⟨rfl,hdr,hk0,_⟩:=hf h0
     have HP2:=HP
     rw[if_pos h0]at HP2
     rw[h0]at a3 HRW
     clear hf h0 HP
     by_cases hl0:st.1.2= []
     ·rw[hl0,List.drop_eq_nil_iff,<-HLN.out]at hdr
      obtain rfl:k0=n:=by omega
      rw[if_pos hl0]at HP2
      clear hl0 hdr
      go_wp2_with fail
      go_ret2
      exact⟨v0,by rw[HP2.out];rfl,by rw[HP2.out];exact HRW.out.own,HRW.out.below⟩
     ·have hlt:k0 < n:=by
       rcases Nat.lt_or_ge k0 n with h | h
       ·exact h
       ·exact absurd (hdr.symm.trans (List.drop_eq_nil_of_le (by rw[<-HLN.out];exact h))) hl0
      rw[if_neg hl0]at HP2
      clear hl0 hdr
      go_wp2_with (go_at_call 90;refine(rfails_any ga _ _ _ 0 2 wr HRW.out.blk).mono ?_;rintro e w5 ⟨rfl,rfl⟩;rw[if_pos rfl];have hr5:=HRW.out.fail 2;generalize wr.setCell ⟨ga,3,none⟩ (.int .i64 2)=w6 at *;have b3:w6.cell? ⟨ga,3,none⟩=some (.int .i64 2):=hr5.blk.cell 3;have R5:=Lib.hid hr5;clear hr5)
      go_quiet (fail)
      go_wp2_with fail
      go_ret2
      exact⟨.slice none 0 0,by rw[HP2.out];rfl,by rw[HP2.out];exact Own8.nil _ _ _,below_drewN R5.out.below _⟩
    ·have HP2:=HP
     rw[if_neg h0]at HP2
     obtain⟨er,her⟩:∃e,e=st.2:=⟨_,rfl⟩
     rw[<-her]at a3 HRW HP2 h0
     have hne:(er == 0)=false:=by rw[beq_eq_false_iff_ne];exact h0
     have HNE:=Lib.hid h0
     clear hf h0 HP her
     by_cases hlt:k0 < n
     all_goals
      go_wp2_with (go_at_call 90;refine(rfails_e HRW.out HNE.out 2).mono ?_;rintro e w5 ⟨rfl,rfl⟩)
      go_quiet (fail)
      go_wp2_with fail
      go_ret2
      exact⟨.slice none 0 0,by rw[HP2.out];rfl,by rw[HP2.out];exact Own8.nil _ _ _,below_drewN HRW.out.below _⟩
 ·have hc':Fld.chk (nums s)=false:=by simpa using hc
  have HE:=Lib.hid (Fld.chkE_no hc')
  have HP:=Lib.hid (put_bad (l:=l) hc')
  clear hc hc'
  go_enter Tryz.func45,Tryz.ntmps45
  go_wp2_with (first
   | (go_at_call 86;refine(rcheck_any s w hs).mono ?_;rw[HE.out];rintro e w1 ⟨rfl,rfl⟩))
  go_ret2
  exact⟨.slice none 0 0,by rw[HP.out];rfl,by rw[HP.out];exact Own8.nil _ _ _,Below.refl _ _⟩
end
section
open Go.RowKit Sha Fct
open Fld (Itm)
theorem itemsH_few (x:Fac)(q:Option Addr)(c:Nat):(itemsH x q c).length<=4:=by
 unfold itemsH
 (repeat' split)<;>simp
theorem row_weak9 {w:World} {B B' n size:Nat} {e:TypeId} {v:Value} {xs:List Value}(h:w.ownsRow B e size v n xs)(hb:B'<=B):w.ownsRow B' e size v n xs:=by
 refine⟨h.1,?_⟩
 rcases h.2 with h | ⟨g,cap,cur,hv,hg,hh⟩
 ·exact Or.inl h
 ·exact Or.inr ⟨g,cap,cur,hv,Nat.le_trans hb hg,hh⟩
theorem item_zsize:(Value.agg (icells ⟨0,[],Fld.zero32⟩ none 0).toArray).cells.size=34:=by
 have h:=icells_length (x:=⟨0,[],Fld.zero32⟩) ⟨by simp,by simp,by simp,z32_ok.1,z32_ok.2⟩ none 0
 simp[Value.cells,h]
theorem own_full_s (w:World)(cs:Array Value)(e:TypeId)(size B:Nat)(hB:B<=w.heap.size)(hs:cs.size=size):(w.alloc (.cells cs e)).ownsRow B e size (.slice (some ⟨w.heap.size,0,none⟩) 1 1) 1 cs.toList:=by
 refine⟨by simp[hs],.inr ⟨w.heap.size,1,cs,rfl,hB,heap_alloc_new w _,Nat.le_refl _,by unfold maxLen;omega,by omega,?_⟩⟩
 rw[List.take_of_length_le (by simp[hs])]
theorem row_below_s {w w':World} {B n size:Nat} {e:TypeId} {v:Value} {xs:List Value}(h:w.ownsRow B e size v n xs)(hb:Below w.heap.size w w'):w'.ownsRow B e size v n xs:=
 row_carry h fun k c fz _ hh=>(hb.block k (Array.getElem?_eq_some_iff.1 hh).1).trans hh
theorem told_cons {w:World} {B:Nat} {v:Value} {y:Hdr} {ys:List Hdr} {n:Nat}(h:w.ownsRow B 83 34 v (1+n) (cellsI y++ys.flatMap cellsI))(hn:n=ys.length)(hy:∀z∈y::ys,GoodI w z.1 z.2.1 z.2.2):
 ∃p c,v= .slice p (1+n) c/\Told w p (1+n) c (y.1::ys.map (·.1)):=by
 obtain⟨p,cap,rfl,h1,h2,hA,_,h3⟩:=own_at_s h
 unfold maxLen at h2
 exact⟨p,cap,rfl,⟨by simp[hn];omega,h1,by omega,h3,⟨y::ys,rfl,by simpa using hA,hy⟩⟩⟩
@[irreducible] def catOp (x y:Operand) (u v:Value):Sem Next:=do pure (.value (<-(do eqGuard .add 9 x y u v;binOp .add 9 u v)))
theorem execOp_cat (ρ:Operand->Value)(dst:Option Tmp)(x y:Operand)(r:TypeId)(ty:TypeId)(pos:String)(after:Array Edge)(guard:Option (Nat×Bool)):
 execOp ρ {dst:=dst,op:=.binOp .add 9 x y r,type:=ty,pos:=pos,after:=after,guard:=guard}= catOp x y (ρ x) (ρ y):=by unfold catOp;rfl
theorem run_cat9 (x y:Operand)(s t:ByteArray)(hs:s.size+t.size<=1000000)(w:World):(catOp x y (.string s) (.string t)).run Tryz.prog w= .ok (.value (.string (s++t))) w:=by
 have h:¬(((s.size+t.size:Nat):Int) > IntKind.i64.max):=by have h1:IntKind.i64.max=9223372036854775807:=rfl;rw[h1];omega
 unfold catOp
 simp only[binOp]
 simp only[eqGuard,Op.stringOp,run_underlying Tryz.underlying9,h]
 simp
theorem nums_cat (s t:ByteArray):nums (s++t)=nums s++nums t:=by
 unfold nums
 simp
theorem cat_letters {k:Int} {s:ByteArray}(hs:nums s=Fct.shape k)(hz:s.size<=4):
 ∃sn:ByteArray,(∀w,(catOp (.const (.string ⟨#[110]⟩)) (.tmp 9) (.string ⟨#[110]⟩) (.string s)).run Tryz.prog w= .ok (.value (.string sn)) w)/\nums sn=letters k/\sn.size<=maxLen:=by
 have h1:(ByteArray.mk #[110]).size=1:=rfl
 refine⟨⟨#[110]⟩++s,fun w=>run_cat9 _ _ _ _ (by omega) w,?_,?_⟩
 ·rw[nums_cat,hs,show nums ⟨#[110]⟩= [110] by decide +kernel];rfl
 ·rw[ByteArray.size_append];unfold maxLen;omega
attribute [local go_sem ↓] execOp_cat execOp_allocFact execOp_storeFact execOp_boxFact execOp_makeFact execOp_loadFact execOp_loadId execOp_loadItem execOp_buildItems execOp_makeItem execOp_loadBal
theorem rput9_any (x:Fac)(q:Option Addr)(c:Nat)(w:World)(hx:sF.Good w x q c)(hm:x.B.length<=100000):
 Calls Tryz.prog 13 #[.agg (fcells x q c).toArray] w (PutDone w (Fct.put x)):=by
 have hF:=fbox_of hx
 have bx:=run_boxOp (P:=Tryz.prog) (t:=28) (cs:=(fcells x q c).toArray) w
 obtain⟨w1,hw1⟩:∃v,v=w.alloc (.cells (fcells x q c).toArray 28):=⟨_,rfl⟩
 rw[<-hw1]at hF bx
 obtain⟨g,hg⟩:∃g,g=w.heap.size:=⟨_,rfl⟩
 rw[<-hg]at hF bx
 have HF:=Lib.hid hF
 have HM:=Lib.hid hm
 have HC:=Lib.hid (rcheck9_any x q c w1 hF.x hm)
 have ld1:=load_factB hF.blk hF.x.ok.len
 clear hF hm hx hw1 hg
 by_cases hc:Fct.Can x
 ·rw[show Fct.check x=0 from check_ok hc]at HC
  have hk:1<=x.K/\x.K < 11:=hc.kind
  have HCAN:=Lib.hid hc
  have HK:=Lib.hid hk
  clear hc
  go_enter Tryz.func13,Tryz.ntmps13
  go_wp2_with fail
  refine HC.out.mono ?_
  rintro e w2 ⟨rfl,hb2⟩
  have HF2:=Lib.hid (HF.out.on hb2)
  clear hb2 HC HF ld1 bx
  go_wp2_with fail
  have E0:=Lib.hid (fun W (hb:Below w2.heap.size w2 W)=>(show W.cell? ⟨g,0,none⟩=some (.int .i64 x.K)from((HF2.out.blk.below hb HF2.out.blk.lt).cell 0).trans (fcells_K x q c)))
  have E1:=Lib.hid (fun W (hb:Below w2.heap.size w2 W)=>load_factB (HF2.out.blk.below hb HF2.out.blk.lt) HF2.out.x.ok.len)
  have H1:=Lib.hid (fun W (hb:Below w2.heap.size w2 W)=>rshape_any x.K ⟨by omega,by omega⟩ W)
  have H2:=Lib.hid (fun W (hb:Below w2.heap.size w2 W)=>ritemsH_any x q c W (HF2.out.x.below hb) hk)
  have mk:=make_iN x.K
  have bi:=fun w=>build_item w (q:=none) (c:=0) (iN_good w HF2.out.x.ok.K).ok
  go_region_held3 (fun w'=>Below w2.heap.size w2 w'/\w'.cell? ⟨g,0,none⟩=some (.int .i64 x.K)/\(loadOp 28 (.pointer (some ⟨g,0,none⟩))).run Tryz.prog w'= .ok (.value (.agg (fcells x q c).toArray)) w')
   (exact⟨by(repeat(first | exact Below.refl _ _ | assumption | refine Below.drew ?_ | refine below_alloc9 ?_ _)),E0.out _ (by(repeat(first | exact Below.refl _ _ | assumption | refine Below.drew ?_ | refine below_alloc9 ?_ _))),E1.out _ (by(repeat(first | exact Below.refl _ _ | assumption | refine Below.drew ?_ | refine below_alloc9 ?_ _)))⟩)
   ((first
     | (go_at_call 46;refine(H1.out _ (by(repeat(first | exact Below.refl _ _ | assumption | refine Below.drew ?_ | refine below_alloc9 ?_ _)))).mono ?_;rintro e w3 ⟨s3,rfl,hs3,hz3,hb⟩;(have hbw3:Below w2.heap.size w2 w3:=below_next9 (by(repeat(first | exact Below.refl _ _ | assumption | refine Below.drew ?_ | refine below_alloc9 ?_ _))) hb);(have c03:=E0.out _ hbw3);(have ld3:=E1.out _ hbw3);(have HB3:=Lib.hid hb);(obtain⟨sn,hc3,hn3,hz5⟩:=cat_letters (k:=x.K) hs3 hz3);(have HSN:=Lib.hid hn3);(have HZ3:=Lib.hid hz5);clear hb hs3 hz3 hn3 hz5)
     | (go_at_call 47;refine(H2.out _ (by(repeat(first | exact Below.refl _ _ | assumption | refine Below.drew ?_ | refine below_alloc9 ?_ _)))).mono ?_;rintro e w4 ⟨p4,n4,rfl,hn4,hA4,hp4,hb⟩;(have hbw4:Below w2.heap.size w2 w4:=below_next9 (by(repeat(first | exact Below.refl _ _ | assumption | refine Below.drew ?_ | refine below_alloc9 ?_ _))) hb);(have c04:=E0.out _ hbw4);(have ld4:=E1.out _ hbw4);(have HY2:=Lib.hid hA4);(have NIL:=Lib.hid hp4);(have HB4:=Lib.hid hb);(have N4:=Lib.hid (show n4=(itemsH x q c).length/\n4<=4 from⟨hn4,by rw[hn4];exact itemsH_few x q c⟩));clear hn4 hA4 hp4 hb)
     | (go_at_call 45;refine(rput_any sn HZ3.out _ p5 _ c5 w5 HT5.out (by have:=N4.out.2;omega)).mono ?_;rintro e w6 ⟨v6,rfl,ho6,hb6⟩;(have hbw6:Below w2.heap.size w2 w6:=below_next9 hbw5 hb6);(have c06:=E0.out _ hbw6);(have ld6:=E1.out _ hbw6);(have HO6:=Lib.hid ho6);(have HB6:=Lib.hid hb6);clear ho6 hb6)
     | (refine step_app_s rfl (.tmp 14) (.tmp 16) 81 rfl w2.heap.size 83 (size:=34) (by omega) Tryz.underlying81 item_all3 item_zsize _ 1 (icells (iN x.K) none 0) rfl
         (by first | exact own_full_s _ _ _ 34 _ (by first | exact Nat.le_refl _ | exact hbw4.size | exact hbw3.size | (have h:=hbw4.size;simp;omega)) (by simp[icells_length (iN_good w2 HF2.out.x.ok.K).ok]) | exact row_below_s (own_full_s _ _ _ 34 _ (by first | exact Nat.le_refl _ | exact hbw4.size | exact hbw3.size | (have h:=hbw4.size;simp;omega)) (by simp[icells_length (iN_good w2 HF2.out.x.ok.K).ok])) HB4.out | exact row_below_s (row_below_s (w:=(w2.alloc (Obj.cells (icells (iN x.K) none 0).toArray 83)).drew) (own_full_s w2 _ _ 34 _ (by first | exact Nat.le_refl _ | exact hbw4.size | exact hbw3.size | (have h:=hbw4.size;simp;omega)) (by simp[icells_length (iN_good w2 HF2.out.x.ok.K).ok])) HB3.out) HB4.out)
         p4 n4 n4 ((itemsH x q c).flatMap cellsI) rfl (by first | exact HY2.out | exact HY2.out.alloc _) (by rw[flat_length _ (fun y hy=>(itemsH_good HF2.out.x y hy).ok),N4.out.1]) NIL.out (Nat.le_refl _) (by intro u hu;obtain⟨y,hy,hu⟩:=List.mem_flatMap.1 hu;exact icells_one _ _ _ u hu) (by have:=N4.out.2;omega) (by unfold maxLen;have:=N4.out.2;omega) (by first | exact Nat.le_refl _ | exact hbw4.size | exact hbw3.size | (have h:=hbw4.size;simp;omega)) ?_
        intro v5 w5 hown5 hg5 hat5
        have hbw5:Below w2.heap.size w2 w5:=Below.grown (by(repeat(first | exact Below.refl _ _ | assumption | refine Below.drew ?_ | refine below_alloc9 ?_ _))) hg5 (by first | exact Nat.le_refl _ | exact hbw4.size | exact hbw3.size | (have h:=hbw4.size;simp;omega)) (fun k hk=>by cases hk;first | exact Nat.le_refl _ | exact hbw4.size | exact hbw3.size)
        have c05:=E0.out _ hbw5
        have ld5:=E1.out _ hbw5
        obtain⟨p5,c5,rfl,ht5⟩:=told_cons (y:=iNh x.K) hown5 N4.out.1 (fun z hz=>by
         rcases List.mem_cons.1 hz with rfl | hz
         ·exact iN_good w5 HF2.out.x.ok.K
         ·exact itemsH_good (HF2.out.x.below hbw5) z hz)
        rw[itemsH_map]at ht5
        have HT5:=Lib.hid ht5
        clear hown5 hg5 hat5 ht5)))
  all_goals have HPUT:=Lib.hid (show Fct.put x=Fld.put (letters x.K) ((iNh x.K).1::items x) by unfold Fct.put;rw[if_pos ((can_iff x).2 HCAN.out)];rfl)
  all_goals(go_wp2_with fail;go_ret2)
  all_goals(
   have hbase:w.heap.size<=w5.heap.size:=Nat.le_trans HF2.out.below.size hbw5.size
   unfold PutDone
   rw[HPUT.out,<-HSN.out]
   exact⟨v6,rfl,⟨row_weak9 HO6.out.row hbase,HO6.out.ints⟩,HF2.out.below.trans (hbw6.mono HF2.out.below.size)⟩)
 ·rw[show Fct.check x=2 from check_no hc]at HC
  have HPUT:=Lib.hid (put_not hc)
  clear hc
  go_enter Tryz.func13,Tryz.ntmps13
  go_wp2_with fail
  refine HC.out.mono ?_
  rintro e w2 ⟨rfl,hb2⟩
  have HF2:=Lib.hid (HF.out.on hb2)
  clear hb2 HC HF ld1 bx
  go_wp2_with fail
  go_ret2
  unfold PutDone
  rw[HPUT.out]
  exact⟨_,rfl,Own8.nil _ _ _,HF2.out.below⟩
end
section
open Go.RowKit Sha Fct
open Fld (Itm)
theorem execOp_boxForm (ρ:Operand->Value)(dst:Option Tmp)(x:Operand)(ty:TypeId)(pos:String)(after:Array Edge)(guard:Option (Nat×Bool)):
 execOp ρ {dst:=dst,op:=.box 79 x,type:=ty,pos:=pos,after:=after,guard:=guard}= boxOp 79 (ρ x):=by unfold boxOp;rfl
theorem has_next (t:ByteArray)(l:List Int)(hl:nums t=l)(j:Nat)(hj:j < t.size)(h128:∀c∈l,c < 128):∃c,NextL Tryz.prog t j (j+1) c/\l[j]? = some c:=by
 obtain⟨c,hn,hd⟩:=next_isL Tryz.prog t j hj (by rw[hl];exact h128)
 refine⟨c,hn,?_⟩
 rw[hl]at hd
 rw[<-List.head?_drop,hd];rfl
theorem hasL_128 (k:Int):∀c∈hasL k,c < 128:=fun c hc=>by have:=hasL_is k c hc;unfold isHas at this;omega
theorem rowOwn_told {w:World} {B:Nat} {v:Value} {ys:List Hdr} {n:Nat}(h:w.ownsRow B 83 34 v n (ys.flatMap cellsI))(hn:n=ys.length)(hy:∀z∈ys,GoodI w z.1 z.2.1 z.2.2):
 ∃p c,v= .slice p n c/\At w p (ys.flatMap cellsI)/\Told w p n c (ys.map (·.1)):=by
 obtain⟨p,cap,rfl,h1,h2,hA,_,h3⟩:=own_at_s h
 unfold maxLen at h2
 exact⟨p,cap,rfl,hA,⟨by simp[hn],h1,by omega,h3,⟨ys,rfl,hA,hy⟩⟩⟩
def PItems (ys:List Hdr)(w:World)(e:Ending)(w':World):Prop:=
 ∃p n cp,e= .returned (.slice p n cp)/\n=ys.length/\At w' p (ys.flatMap cellsI)/\Told w' p n cp (ys.map (·.1))/\Below w.heap.size w w'
attribute [local go_sem ↓] execOp_boxFact execOp_boxForm execOp_loadFact execOp_buildItems
theorem pitems_any (k:Int)(x:Fac)(q:Option Addr)(c:Nat)(w:World)(h:sF.Good w x q c):
 Calls Tryz.prog 44 #[form k,.agg (fcells x q c).toArray] w (PItems ((hasL k).map (hdrOf x q c)) w):=by
 have hsz:=kHas_size k
 have hnm:=kHas_nums k
 have HIS:=Lib.hid (hasL_is k)
 have H128:=Lib.hid (hasL_128 k)
 show Calls Tryz.prog 44 #[.agg #[.string (kSh k),.string (kHas k)],.agg (fcells x q c).toArray] w _
 generalize kSh k=s at *
 generalize kHas k=t at *
 generalize hasL k=l at *
 have HL:=Lib.hid (show l.length=t.size by rw[<-hnm,nums_length])
 have HNM:=Lib.hid hnm
 clear hnm
 have bx1:=run_boxOp (P:=Tryz.prog) (t:=79) (cs:=#[.string s,.string t]) w
 have hb1:=(Below.refl w.heap.size w).alloc (Nat.le_refl _) (.cells #[.string s,.string t] 79)
 have hk1:Blk (w.alloc (.cells #[.string s,.string t] 79)) w.heap.size [.string s,.string t] 79:=Blk.new w #[.string s,.string t] 79
 obtain⟨w1,hw1⟩:∃v,v=w.alloc (.cells #[.string s,.string t] 79):=⟨_,rfl⟩
 rw[<-hw1]at bx1 hb1 hk1
 have bx2:=run_boxOp (P:=Tryz.prog) (t:=28) (cs:=(fcells x q c).toArray) w1
 have hb2:=hb1.alloc hb1.size (.cells (fcells x q c).toArray 28)
 have hk2:Blk (w1.alloc (.cells (fcells x q c).toArray 28)) w1.heap.size (fcells x q c) 28:=Blk.new w1 (fcells x q c).toArray 28
 have hk12:=hk1.old (.cells (fcells x q c).toArray 28)
 obtain⟨w2,hw2⟩:∃v,v=w1.alloc (.cells (fcells x q c).toArray 28):=⟨_,rfl⟩
 rw[<-hw2]at bx2 hb2 hk2 hk12
 obtain⟨i0,hi,hz0,hz1,hz2⟩:=info_parts item_all3
 obtain⟨w3,hmk,hown,hgr⟩:=run_make_own (P:=Tryz.prog) (w:=w2) w.heap.size 81 83 i0 _ 34 Tryz.underlying81 hi hz0 hz1 .i64 .i64 t.size (by rw[hz2];omega) (by unfold maxLen;omega) hb2.size
 have hb3:Below w.heap.size w w3:=hb2.grown hgr hb2.size (fun k e=>by cases e)
 have hb23:Below w2.heap.size w2 w3:=(Below.refl _ _).grown hgr (Nat.le_refl _) (fun k e=>by cases e)
 have c1:w2.cell? ⟨w.heap.size,1,none⟩=some (.string t):=hk12.cell 1
 have c1':w3.cell? ⟨w.heap.size,1,none⟩=some (.string t):=(hk12.below hb23 hk12.lt).cell 1
 have K3:=Lib.hid (hk2.below hb23 hk2.lt)
 have HO:=Lib.hid hown
 have HB3:=Lib.hid hb3
 have HX:=Lib.hid h
 obtain⟨gf,hgf⟩:∃gf,gf=w1.heap.size:=⟨_,rfl⟩
 rw[<-hgf]at bx2 K3
 have HGF:=Lib.hid (show w.heap.size<=gf/\gf < w3.heap.size from⟨by rw[hgf];exact hb1.size,K3.out.lt⟩)
 clear hb1 hk1 hw1 hb2 hk2 hk12 hw2 hi hz0 hz1 hz2 hown hgr hb3 hb23 h hgf
 go_enter Tryz.func44,Tryz.ntmps44
 go_wp2_with fail
 have HI0:=Lib.hid (World.iter_heap w3 t 0)
 have hal:(w3.iter t 0)=w3.alloc (.stringIter t 0):=rfl
 have K4:=Lib.hid (show Blk (w3.iter t 0) gf (fcells x q c) 28 from by rw[hal];exact K3.out.old _)
 have HO4:=Lib.hid (show(w3.iter t 0).ownsRow w.heap.size 83 34 (.slice (some ⟨w2.heap.size,0,none⟩) 0 t.size) 0 []from by rw[hal];exact HO.out.alloc _)
 have HB4:=Lib.hid (show Below w.heap.size w (w3.iter t 0)from by rw[hal];exact HB3.out.alloc HB3.out.size _)
 obtain⟨gi,hgi⟩:∃gi,gi=w3.heap.size:=⟨_,rfl⟩
 rw[<-hgi]at HI0 ⊢
 have HG:=Lib.hid (show w.heap.size<=gi by rw[hgi];exact HB3.out.size)
 clear hal hgi HB3 HO K3 HGF
 generalize w3.iter t 0=w4 at *
 go_loopg [5] t.size (fun gh vv wr=>∃(j:Nat) (v:Value),v=vv/\j<=t.size/\gh=t.size - j/\Hid (wr.heap[gi]? = some (.stringIter t j))/\Hid (Blk wr gf (fcells x q c) 28)/\Hid (wr.ownsRow w.heap.size 83 34 v j (((l.take j).map (hdrOf x q c)).flatMap cellsI))/\Hid (Below w.heap.size w wr))
 case atStart=>exact⟨0,_,rfl,by omega,rfl,HI0,K4,HO4,HB4⟩
 case round=>
  obtain⟨j,v,rfl,hj,rfl,HI,K,HO,HB⟩:=hrel
  clear HI0 K4 HO4 HB4
  by_cases hp:j < t.size
  ·obtain⟨ch,hn,hch⟩:=has_next t l HNM.out j hp H128.out
   have hnx:=fun ty=>hn.run wr gi ty HI.out
   have hcm:ch∈l:=List.mem_of_getElem? hch
   have HC:=Lib.hid (HIS.out ch hcm)
   have HTK:=Lib.hid (show(l.take (j+1)).map (hdrOf x q c)=(l.take j).map (hdrOf x q c)++[hdrOf x q c ch]from by
    rw[List.take_add_one,hch];simp)
   have HI2:=Lib.hid (Lib.iterAt_heap _ _ _ _ (j+1) HI.out)
   have hck:=cells_iterAt HI.out (j+1)
   have K2:=Lib.hid (show Blk (wr.iterAt gi t (j+1)) gf (fcells x q c) 28 from hck.2 _ _ _ _ K.out)
   have HO2:=Lib.hid (row_carry HO.out (fun k c fz _ hk=>hck.2 _ _ _ _ hk))
   have HB2:=Lib.hid (show Below w.heap.size w (wr.iterAt gi t (j+1))from Lib.below_iterAt HB.out HG.out t (j+1))
   clear hn hch hcm hck HI K HO HB
   obtain⟨w5,hw5⟩:∃w5,w5=wr.iterAt gi t (j+1):=⟨_,rfl⟩
   rw[<-hw5]at hnx HI2 K2 HO2 HB2
   clear hw5
   have lf:=load_factB K2.out HX.out.ok.len
   have HX5:=Lib.hid (HX.out.below HB2.out)
   have IO:=Lib.hid (itemOf_any x q c ch HC.out w5 HX5.out)
   have HY:=Lib.hid (fun w' (hb:Below w5.heap.size w5 w')=>hdrOf_good (HX5.out.below hb) ch)
   obtain⟨y,hy⟩:∃y,y=hdrOf x q c ch:=⟨_,rfl⟩
   rw[<-hy]at IO HTK HY
   clear hy
   obtain⟨yi,yq,yc⟩:=y
   have IO2:=Lib.hid (show Calls Tryz.prog 85 #[.agg (fcells x q c).toArray,.int .i32 ch] w5 (fun e w'=>e= .returned (.agg (icells yi yq yc).toArray)/\Below w5.heap.size w5 w')from IO.out)
   clear IO
   go_wp2_with fail
   refine IO2.out.mono ?_
   rintro e w6 ⟨rfl,hb6⟩
   have HB6:=Lib.hid hb6
   have yok:=(HY.out w6 hb6).ok
   have bi:=build_item w6 (q:=yq) (c:=yc) yok
   have HYO:=Lib.hid yok
   have K6:=Lib.hid ((K2.out.below hb6 K2.out.lt).old (.cells (icells yi yq yc).toArray 83))
   have HO6:=Lib.hid ((row_below_s HO2.out hb6).alloc (.cells (icells yi yq yc).toArray 83))
   have HB7:=Lib.hid ((HB2.out.trans (hb6.mono HB2.out.size)).alloc (HB2.out.trans (hb6.mono HB2.out.size)).size (.cells (icells yi yq yc).toArray 83))
   have HI6:=Lib.hid (show(w6.alloc (.cells (icells yi yq yc).toArray 83)).heap[gi]? = some (.stringIter t (j+1))from by
    have h1:gi < w5.heap.size:=(Array.getElem?_eq_some_iff.1 HI2.out).1
    rw[heap_alloc_old w6 _ (Nat.lt_of_lt_of_le h1 hb6.size),hb6.block gi h1];exact HI2.out)
   have HA6:=Lib.hid (at_cells w6 (icells yi yq yc) 83 (0,0))
   have HL6:=Lib.hid (icells_length yok yq yc)
   clear hb6 yok lf IO2 HI2 K2 HO2 HB2 HX5 HY
   go_wp2_with (at_builtin;refine wpList_app_s rfl (.tmp 18) (.tmp 22) 81 rfl w.heap.size 83 (size:=34) (by omega) Tryz.underlying81 item_all3 item_zsize v j _ rfl HO6.out (some ⟨w6.heap.size,0,none⟩) 1 1 (icells yi yq yc) rfl HA6.out (by rw[HL6.out]) (fun h=>by cases h) (Nat.le_refl _) (icells_one _ _ _) (by omega) (by unfold maxLen;omega) HB7.out.size ?_;intro v8' w8 hown8 hgr8 hat8)
   have HK8:=Lib.hid (show Blk w8 gf (fcells x q c) 28 from(hgr8.block gf K6.out.lt (fun e=>by
    obtain⟨cc,fz,hh⟩:=row_kind HO6.out gf e.symm
    have h2:=K6.out
    unfold Blk at h2
    rw[hh]at h2;cases h2)).trans K6.out)
   have HI8:=Lib.hid (show w8.heap[gi]? = some (.stringIter t (j+1))from(hgr8.block gi (Array.getElem?_eq_some_iff.1 HI6.out).1 (fun e=>by
    obtain⟨cc,fz,hh⟩:=row_kind HO6.out gi e.symm
    rw[HI6.out]at hh;cases hh)).trans HI6.out)
   have HB8:=Lib.hid (HB7.out.grown hgr8 HB7.out.size (fun k e=>row_base HO6.out k e))
   have HO8:=Lib.hid (show w8.ownsRow w.heap.size 83 34 v8' (j+1) (((l.take (j+1)).map (hdrOf x q c)).flatMap cellsI)from by
    rw[HTK.out,List.flatMap_append,List.flatMap_singleton];exact hown8)
   clear hown8 hgr8 hat8 K6 HI6 HB7 HO6 HA6 HL6 HTK
   go_wp2_with fail
   go_roundg (t.size - (j+1))
   case measure=>omega
   case rel=>exact⟨j+1,_,rfl,by omega,rfl,HI8,HK8,HO8,HB8⟩
  ·obtain rfl:j=t.size:=by omega
   have hnx:=fun ty=>Lib.run_next_end_at (P:=Tryz.prog) wr gi t t.size ty HI.out (by omega)
   have HTL:=Lib.hid (show l.take t.size=l from List.take_of_length_le (by rw[HL.out];exact Nat.le_refl _))
   obtain⟨p,cp,rfl,hA,hT⟩:=rowOwn_told (ys:=(l.take t.size).map (hdrOf x q c)) HO.out (by rw[List.length_map,HTL.out,HL.out]) (fun z hz=>by
    obtain⟨lt,_,rfl⟩:=List.mem_map.1 hz
    exact hdrOf_good (HX.out.below HB.out) lt)
   rw[HTL.out]at hA hT
   have HA:=Lib.hid hA
   have HT:=Lib.hid hT
   clear hA hT HO HI K
   go_wp2_with fail
   go_ret
   exact⟨p,t.size,cp,rfl,by rw[List.length_map,HL.out],HA.out,HT.out,HB.out⟩
end
section
open Go.RowKit Sha Fct
open Fld (Itm)
def bndL:List Int->List Itm->Bool
 | a::s,y::ys=>inB a y && bndL s ys
 | _,_=>true
theorem bndL_at {l:List Int} {ys:List Itm}(j:Nat)(hj:j < l.length)(hy:j < ys.length):bndL (l.drop j) (ys.drop j)=(inB l[j] ys[j] && bndL (l.drop (j+1)) (ys.drop (j+1))):=by
 rw[List.drop_eq_getElem_cons hj,List.drop_eq_getElem_cons hy];rfl
attribute [local go_sem ↓] execOp_boxForm execOp_loadItem
theorem pbounded_any (k:Int)(ys:List Itm)(p:Option Addr)(n cp:Nat)(w:World)(h:Told w p n cp ys)(hn:n=(hasL k).length):
 Calls Tryz.prog 77 #[form k,.slice p n cp] w fun e w'=>e= .returned (.bool (bndL (hasL k) ys))/\Below w.heap.size w w':=by
 have hsz:=kHas_size k
 have hnm:=kHas_nums k
 have HIS:=Lib.hid (hasL_is k)
 have H128:=Lib.hid (hasL_128 k)
 show Calls Tryz.prog 77 #[.agg #[.string (kSh k),.string (kHas k)],.slice p n cp] w _
 generalize kSh k=s at *
 generalize kHas k=t at *
 generalize hasL k=l at *
 have HL:=Lib.hid (show l.length=t.size by rw[<-hnm,nums_length])
 obtain rfl:n=t.size:=by rw[hn,HL.out]
 have HNM:=Lib.hid hnm
 have HYL:=Lib.hid (show ys.length=t.size from h.len.symm)
 clear hnm hn
 have bx1:=run_boxOp (P:=Tryz.prog) (t:=79) (cs:=#[.string s,.string t]) w
 have hb1:=(Below.refl w.heap.size w).alloc (Nat.le_refl _) (.cells #[.string s,.string t] 79)
 have hk1:Blk (w.alloc (.cells #[.string s,.string t] 79)) w.heap.size [.string s,.string t] 79:=Blk.new w #[.string s,.string t] 79
 obtain⟨w1,hw1⟩:∃v,v=w.alloc (.cells #[.string s,.string t] 79):=⟨_,rfl⟩
 rw[<-hw1]at bx1 hb1 hk1
 have c1:w1.cell? ⟨w.heap.size,1,none⟩=some (.string t):=hk1.cell 1
 have HB1:=Lib.hid hb1
 have HT:=Lib.hid h
 clear hw1 hk1 hb1 h
 go_enter Tryz.func77,Tryz.ntmps77
 go_wp2_with fail
 have HI0:=Lib.hid (World.iter_heap w1 t 0)
 have hal:(w1.iter t 0)=w1.alloc (.stringIter t 0):=rfl
 have HB2:=Lib.hid (show Below w.heap.size w (w1.iter t 0)from by rw[hal];exact HB1.out.alloc HB1.out.size _)
 obtain⟨gi,hgi⟩:∃gi,gi=w1.heap.size:=⟨_,rfl⟩
 rw[<-hgi]at HI0 ⊢
 have HG:=Lib.hid (show w.heap.size<=gi by rw[hgi];exact HB1.out.size)
 have HA0:=Lib.hid (show bndL l ys=bndL (l.drop 0) (ys.drop 0)from rfl)
 clear hal hgi HB1
 generalize w1.iter t 0=w2 at *
 go_loopg [5] t.size (fun gh vv wr=>∃(j:Nat) (v:Value),v=vv/\j<=t.size/\gh=t.size - j/\Hid (wr.heap[gi]? = some (.stringIter t j))/\Hid (bndL l ys=bndL (l.drop j) (ys.drop j))/\Hid (Below w.heap.size w wr))
 case atStart=>exact⟨0,_,rfl,by omega,rfl,HI0,HA0,HB2⟩
 case round=>
  obtain⟨j,v,rfl,hj,rfl,HI,HA,HB⟩:=hrel
  clear HI0 HA0 HB2
  by_cases hp:j < t.size
  ·obtain⟨ch,hn,hch⟩:=has_next t l HNM.out j hp H128.out
   have hnx:=fun ty=>hn.run wr gi ty HI.out
   have HC:=Lib.hid (HIS.out ch (List.mem_of_getElem? hch))
   have hjy:j < ys.length:=by rw[HYL.out];exact hp
   have hjl:j < l.length:=by rw[HL.out];exact hp
   obtain⟨b,off,rfl,hit⟩:=items_at HT.out (by rw[HYL.out];omega)
   obtain⟨q,d,hI⟩:=hit j hjy
   have HST:=Lib.hid (show bndL l ys=(inB ch ys[j] && bndL (l.drop (j+1)) (ys.drop (j+1)))from by
    rw[HA.out,bndL_at j hjl hjy]
    have:l[j] = ch:=Option.some.inj ((List.getElem?_eq_getElem hjl).symm.trans hch)
    rw[this])
   have HI2:=Lib.hid (Lib.iterAt_heap _ _ _ _ (j+1) HI.out)
   have HB2:=Lib.hid (show Below w.heap.size w (wr.iterAt gi t (j+1))from Lib.below_iterAt HB.out HG.out t (j+1))
   clear hn hch HI HB HA hit
   obtain⟨w5,hw5⟩:∃w5,w5=wr.iterAt gi t (j+1):=⟨_,rfl⟩
   rw[<-hw5]at hnx HI2 HB2
   clear hw5
   have ld:(loadOp 83 (.pointer (some ⟨b,off+j*34,none⟩))).run Tryz.prog w5= .ok (.value (.agg (icells ys[j] q d).toArray)) w5:=load_at (hI.on HB2.out).g.ok (hI.on HB2.out).r
   generalize hyj:ys[j] = y at *
   have WI:=Lib.hid (within_any ch HC.out y q d w5)
   have hjn:(0:Int)<=(j:Int)/\(j:Int) < (t.size:Int):=by omega
   have HTR:=Lib.hid (HT.out.le)
   clear hyj hI
   cases hin:inB ch y with
   | true=>
      rw[hin]at WI HST
      have HS2:=Lib.hid (show bndL l ys=bndL (l.drop (j+1)) (ys.drop (j+1))from by rw[HST.out];rfl)
      clear hin HST hjy hjl
      go_wp2_with fail
      refine WI.out.mono ?_
      rintro e w6 ⟨rfl,hb6⟩
      have HI6:=Lib.hid ((hb6.block gi (Array.getElem?_eq_some_iff.1 HI2.out).1).trans HI2.out)
      have HB6:=Lib.hid (HB2.out.trans (hb6.mono HB2.out.size))
      clear hb6
      go_wp2_with fail
      go_roundg (t.size - (j+1))
      case measure=>omega
      case rel=>exact⟨j+1,_,rfl,by omega,rfl,HI6,HS2,HB6⟩
   | false=>
      rw[hin]at WI HST
      have HS2:=Lib.hid (show bndL l ys=false from by rw[HST.out];rfl)
      clear hin HST hjy hjl
      go_wp2_with fail
      refine WI.out.mono ?_
      rintro e w6 ⟨rfl,hb6⟩
      have HB6:=Lib.hid (HB2.out.trans (hb6.mono HB2.out.size))
      clear hb6
      go_wp2_with fail
      try rw[Exit.noGoto_ret]
      go_ret
      exact⟨by rw[HS2.out];rfl,HB6.out⟩
  ·obtain rfl:j=t.size:=by omega
   have hnx:=fun ty=>Lib.run_next_end_at (P:=Tryz.prog) wr gi t t.size ty HI.out (by omega)
   have HS2:=Lib.hid (show bndL l ys=true from by
    rw[HA.out,List.drop_eq_nil_of_le (by rw[HL.out];exact Nat.le_refl _)];rfl)
   go_wp2_with fail
   go_ret
   exact⟨by rw[HS2.out];rfl,HB.out⟩
end
end Go.Proofs.YtokpabkcaofahaaGreat
