/-
  What stands under factGrows_holds: part 11.
-/
import Derived.Test.YtokpabkcaofahaaGreatPg9
import Derived.Test.YtokpabkcaofahaaGreatPg10
namespace Go.Proofs.YtokpabkcaofahaaGreat
set_option linter.unusedSimpArgs false
set_option linter.unusedVariables false
set_option maxRecDepth 100000
set_option maxHeartbeats 20000000
section
open Go.RowKit Sha
theorem repeat_w {σ:Type} {ga B:Nat} {f:Int->σ->σ×Int×Int} {R:σ->World->Prop}(D:Doer Tryz.prog 84 ga B f R)(g:ByteArray)(gl:List Int)(hgl:gl=nums g)(hg:∀c∈gl,Fld.isC c)(times:Int)(ht:times<=9223372036854775807)(st:σ)(w:World)(hR:R st w)(hs:g.size<=40):
 Calls Tryz.prog 116 #[.string g,.int .i64 times,.func (.func 84) #[.pointer (some ⟨ga,0,none⟩)] #[]] w (RDone R (Fld.rep f gl times.toNat st) w):=by
 have HR:=Lib.hid hR
 have HD:=Lib.hid D
 have HG:=Lib.hid hg
 have HL:=Lib.hid hgl
 have H128:=Lib.hid (show∀c∈nums g,c < 128 from fun c hc=>isC_lt (hg c (by rw[hgl];exact hc)))
 clear hR D hg hgl
 obtain⟨T,hT⟩:∃T,T=times.toNat:=⟨_,rfl⟩
 rw[<-hT]
 have hT1:T=times.toNat:=hT
 have HT:=Lib.hid hT
 clear hT hT1
 go_enter Tryz.func116,Tryz.ntmps116
 go_wp2_with fail
 go_loopg [12] T (fun gh i wr=>∃(k:Nat) (sk:σ),i= .int .i64 k/\gh=T - k/\k<=T/\Hid (Fld.rep f gl T st=Fld.rep f gl (T - k) sk)/\Hid (R sk wr)/\Hid (ItersKept w wr))
 case atStart=>exact⟨0,st,rfl,rfl,by omega,rfl,HR,ItersKept.refl _⟩
 case round=>
  obtain⟨k,sk,rfl,rfl,hk,HE,HK,HO⟩:=hrel
  clear HR
  by_cases hlt:(k:Int) < times
  ·have hkT:k+1<=T:=by have:=HT.out;omega
   have HE1:=Lib.hid (show Fld.rep f gl T st=Fld.rep f gl ((T - (k+1))+1) sk by rw[show T - (k+1)+1=T - k by omega];exact HE.out)
   clear HE
   go_wp2_with fail
   have HI0:=Lib.hid (World.iter_heap wr g 0)
   have HK0:=Lib.hid (HD.out.keepA _ _ (.stringIter g 0) HK.out)
   have HO0:=Lib.hid (ItersBut.new HO.out (.stringIter g 0))
   have HS:=Lib.hid (show(wr.iter g 0)=wr.alloc (.stringIter g 0)from rfl)
   rw[<-HS.out]at HK0 HO0
   clear HS
   have hgb:=HD.out.base _ _ HK.out
   generalize wr.iter g 0=wz at *
   generalize wr.heap.size=gi at *
   go_loopg [8] g.size (fun gh2 c wi=>∃(j:Nat) (sj:σ),j<=g.size/\gh2=g.size - j/\Hid (wi.heap[gi]? = some (.stringIter g j))/\Hid (Fld.once f gl sk=Fld.once f ((nums g).drop j) sj)/\Hid (R sj wi)/\Hid (ItersBut gi w wi))
   case atStart=>exact⟨0,sk,by omega,rfl,HI0,Lib.hid (by rw[List.drop_zero,HL.out]),HK0,HO0⟩
   case round=>
    obtain⟨j,sj,hj,rfl,HI,HF,HJ,HP⟩:=hrel
    clear HI0 HK0 HO0 HK HO
    by_cases hp:j < g.size
    ·obtain⟨c,hn,hd⟩:=next_isL Tryz.prog g j hp H128.out
     have hnx:=fun ty=>hn.run wr gi ty HI.out
     have HC:=Lib.hid (HG.out c (by rw[HL.out];exact List.mem_of_mem_drop (by rw[hd];exact List.mem_cons_self ..)))
     have HI2:=Lib.hid (Lib.iterAt_heap _ _ _ _ (j+1) HI.out)
     have HJ2:=Lib.hid (HD.out.keepI _ _ _ _ _ (j+1) HJ.out hgb HI.out)
     have HP2:=Lib.hid (HP.out.move g (j+1))
     have HF2:=Lib.hid (HF.out.trans (congrArg (fun l=>Fld.once f l sj) hd))
     clear hd hn
     by_cases h0:(f c sj).2.2=0
     ·have h0':((f c sj).2.2 == 0)=true:=by simpa using h0
      have HN:=Lib.hid (HF2.out.trans (once_ok h0))
      have H0:=Lib.hid h0
      clear h0
      go_wp2_with fail
      refine(HD.out.step c sj _ HC.out HJ2.out).mono ?_
      rintro e w2 ⟨rfl,hr2,hi2⟩
      have HR2:=Lib.hid hr2
      have HI3:=Lib.hid (hi2 _ _ _ HI2.out)
      have HP3:=Lib.hid (HP2.out.on hi2)
      clear hr2 hi2
      go_wp2_with fail
      go_roundg (g.size - (j+1))
      case measure=>omega
      case rel=>exact⟨j+1,_,by omega,rfl,HI3,HN,HR2,HP3⟩
     ·have h0':((f c sj).2.2 == 0)=false:=by simpa using h0
      have HN:=Lib.hid (HE1.out.trans (rep_err (HF2.out.trans (once_err h0)) h0))
      clear h0
      go_wp2_with fail
      refine(HD.out.step c sj _ HC.out HJ2.out).mono ?_
      rintro e w2 ⟨rfl,hr2,hi2⟩
      have HR2:=Lib.hid hr2
      have HP3:=Lib.hid (HP2.out.on hi2)
      clear hr2 hi2
      go_wp2_with fail
      try rw[Exit.noGoto_ret]
      go_ret
      exact⟨by rw[HN.out];rfl,by rw[HN.out];exact HR2.out,HP3.out.kept⟩
    ·obtain rfl:j=g.size:=by omega
     have hnx:=fun ty=>Lib.run_next_end_at (P:=Tryz.prog) wr gi g g.size ty HI.out (by omega)
     have HN:=Lib.hid (HE1.out.trans (rep_ok (HF.out.trans (by rw[<-nums_length,List.drop_length];rfl))))
     go_wp2_with fail
     go_roundg (T - (k+1))
     case measure=>omega
     case rel=>exact⟨k+1,sj,by go_num,rfl,by omega,HN,HJ,HP.out.kept⟩
  ·have HZ:=Lib.hid (show Fld.rep f gl T st=(sk,0) by rw[HE.out,show T - k=0 by have:=HT.out;omega];rfl)
   go_wp2_with fail
   go_ret
   exact⟨by rw[HZ.out];rfl,by rw[HZ.out];exact HK.out,HO.out⟩
theorem walk_w {σ:Type} {ga B:Nat} {f:Int->σ->σ×Int×Int} {R:σ->World->Prop}(D:Doer Tryz.prog 84 ga B f R)(s:ByteArray)(hs:s.size<=40)(hc:Fld.chkL (nums s) false false=true)(st:σ)(w:World)(hR:R st w):
 Calls Tryz.prog 83 #[.string s,.func (.func 84) #[.pointer (some ⟨ga,0,none⟩)] #[]] w (RDone R (Fld.walkL f none 0 (nums s) st) w):=by
 have H128:=Lib.hid (chkL_lt _ _ _ hc)
 have HW0:=Lib.hid (show WRel f (nums s) st 0 0 0 none false st from⟨Or.inl ⟨rfl,rfl⟩,by simp,by rw[List.drop_zero];exact hc,by rw[List.drop_zero]⟩)
 have HD:=Lib.hid D
 have HR:=Lib.hid hR
 clear hc D hR
 obtain⟨l,hl⟩:∃l,l=nums s:=⟨_,rfl⟩
 rw[<-hl]at HW0 H128 ⊢
 have HL:=Lib.hid hl
 have HS:=Lib.hid (show l.length=s.size by rw[hl,nums_length])
 clear hl
 go_enter Tryz.func83,Tryz.ntmps83
 go_wp2_with fail
 go_step3
 go_wp2_with fail
 go_step3
 go_wp2_with fail
 have HI0:=Lib.hid (World.iter_heap w s 0)
 have HK0:=Lib.hid (HD.out.keepA _ _ (.stringIter s 0) HR.out)
 have HO0:=Lib.hid (ItersBut.new (ItersKept.refl w) (.stringIter s 0))
 have HZ:=Lib.hid (show(w.iter s 0)=w.alloc (.stringIter s 0)from rfl)
 rw[<-HZ.out]at HK0 HO0
 have hgb:=HD.out.base _ _ HR.out
 clear HZ HR
 generalize w.iter s 0=wz at *
 obtain⟨gi,hgi⟩:∃gi,gi=w.heap.size:=⟨_,rfl⟩
 rw[<-hgi]at HI0 HO0 hgb ⊢
 clear hgi
 go_loopg [5,6] s.size (fun gh b t wr=>∃(k bg:Nat) (tt:Int) (gO:Option (List Int)) (kk:Bool) (sk:σ),k<=s.size/\gh=s.size - k/\b= .int .i64 bg/\t= .int .i64 tt/\tt<=9223372036854775807/\Hid (wr.heap[gi]? = some (.stringIter s k))/\Hid (WRel f l st k bg tt gO kk sk)/\Hid (R sk wr)/\Hid (ItersBut gi w wr))
 case atStart=>exact⟨0,0,0,none,false,st,by omega,rfl,rfl,rfl,by omega,HI0,HW0,HK0,HO0⟩
 case round=>
  obtain⟨k,bg,tt,gO,kk,sk,hk,rfl,rfl,rfl,htt,HI,HW,HJ,HP⟩:=hrel
  clear HI0 HK0 HO0 HW0
  by_cases hp:k < s.size
  ·obtain⟨c,hn,hd⟩:=next_isL Tryz.prog s k hp (by rw[<-HL.out];exact H128.out)
   rw[<-HL.out]at hd
   have hnx:=fun ty=>hn.run wr gi ty HI.out
   have HI2:=Lib.hid (Lib.iterAt_heap _ _ _ _ (k+1) HI.out)
   have HJ2:=Lib.hid (HD.out.keepI _ _ _ _ _ (k+1) HJ.out hgb HI.out)
   have HP2:=Lib.hid (HP.out.move s (k+1))
   have HDR:=Lib.hid hd
   clear hd hn
   cases gO with
   | none=>
      have hbg:bg=0:=by
       rcases HW.out.grp with h | ⟨cs,h,_⟩
       ·exact h.2
       ·cases h
      subst hbg
      have hck:=HW.out.chk
      rw[HDR.out]at hck
      by_cases h0:(f c sk).2.2=0
      ·have h0':((f c sk).2.2 == 0)=true:=by simpa using h0
       have hlim:=(HD.out.lim c sk _ HJ.out).1
       rcases chkL_none hck with⟨hC,h40,_⟩ | ⟨h40,_⟩
       ·have HN:=Lib.hid (HW.out.one HDR.out h40 h0)
        have HC:=Lib.hid hC
        have t40:(c == 40)=false:=by simpa using h40
        have t41:(c == 41)=false:=by rw[beq_eq_false_iff_ne];unfold Fld.isC at hC;omega
        clear h0 hck h40 hC
        go_wp2_with fail
        refine(HD.out.step c sk _ HC.out HJ2.out).mono ?_
        rintro e w2 ⟨rfl,hr2,hi2⟩
        have HR2:=Lib.hid hr2
        have HI3:=Lib.hid (hi2 _ _ _ HI2.out)
        have HP3:=Lib.hid (HP2.out.on hi2)
        clear hr2 hi2
        go_wp2_with fail
        go_roundg (s.size - (k+1))
        case measure=>omega
        case rel=>exact⟨k+1,0,_,none,true,_,by omega,rfl,rfl,rfl,hlim,HI3,HN,HR2,HP3⟩
       ·subst h40
        have HN:=Lib.hid (HW.out.open_ HDR.out rfl h0)
        have HC:=Lib.hid (show Fld.isC 40 from Or.inr (Or.inr (Or.inr rfl)))
        clear h0 hck
        go_wp2_with fail
        refine(HD.out.step 40 sk _ HC.out HJ2.out).mono ?_
        rintro e w2 ⟨rfl,hr2,hi2⟩
        have HR2:=Lib.hid hr2
        have HI3:=Lib.hid (hi2 _ _ _ HI2.out)
        have HP3:=Lib.hid (HP2.out.on hi2)
        clear hr2 hi2
        go_wp2_with fail
        go_roundg (s.size - (k+1))
        case measure=>omega
        case rel=>exact⟨k+1,k+1,_,some [],false,_,by omega,rfl,by go_num,rfl,hlim,HI3,HN,HR2,HP3⟩
      ·have h0':((f c sk).2.2 == 0)=false:=by simpa using h0
       have HN:=Lib.hid (HW.out.walk.trans ((congrArg (fun x=>Fld.walkL f none tt x sk) HDR.out).trans (walk_err h0)))
       rcases chkL_none hck with⟨hC,h40,_⟩ | ⟨h40,_⟩
       ·have HC:=Lib.hid hC
        have t40:(c == 40)=false:=by simpa using h40
        have t41:(c == 41)=false:=by rw[beq_eq_false_iff_ne];unfold Fld.isC at hC;omega
        clear h0 hck h40 hC
        go_wp2_with fail
        refine(HD.out.step c sk _ HC.out HJ2.out).mono ?_
        rintro e w2 ⟨rfl,hr2,hi2⟩
        have HR2:=Lib.hid hr2
        have HP3:=Lib.hid (HP2.out.on hi2)
        clear hr2 hi2
        go_wp2_with fail
        try rw[Exit.noGoto_ret]
        go_ret
        exact⟨by rw[HN.out];rfl,by rw[HN.out];exact HR2.out,HP3.out.kept⟩
       ·subst h40
        have HC:=Lib.hid (show Fld.isC 40 from Or.inr (Or.inr (Or.inr rfl)))
        clear h0 hck
        go_wp2_with fail
        refine(HD.out.step 40 sk _ HC.out HJ2.out).mono ?_
        rintro e w2 ⟨rfl,hr2,hi2⟩
        have HR2:=Lib.hid hr2
        have HP3:=Lib.hid (HP2.out.on hi2)
        clear hr2 hi2
        go_wp2_with fail
        try rw[Exit.noGoto_ret]
        go_ret
        exact⟨by rw[HN.out];rfl,by rw[HN.out];exact HR2.out,HP3.out.kept⟩
   | some cs=>
      obtain⟨hb0,hbk,hcs⟩:0 < bg/\bg<=k/\cs=(l.take k).drop bg:=by
       rcases HW.out.grp with h | ⟨cs',h,h1,h2,h3⟩
       ·cases h.1
       ·cases h;exact⟨h1,h2,h3⟩
      by_cases h41:c=41
      ·subst h41
       have HX:=Lib.hid (show cs=nums (s.extract bg k) by rw[nums_extract,<-HL.out];exact hcs)
       have HXL:=Lib.hid (show(s.extract bg k).size<=40 by rw[ByteArray.size_extract];omega)
       clear hcs
       obtain⟨r,hr⟩:∃r,r=Fld.rep f cs tt.toNat sk:=⟨_,rfl⟩
       obtain⟨sk',er⟩:=r
       have HRP:=Lib.hid hr
       clear hr
       by_cases h0:er=0
       ·have HN:=Lib.hid (HW.out.shut HDR.out (by rw[<-HRP.out,h0]))
        have h0':(er == 0)=true:=by simpa using h0
        clear h0
        go_wp2_with fail
        refine(repeat_w HD.out _ cs HX.out (HW.out.ok cs rfl) tt htt sk _ HJ2.out HXL.out).mono ?_
        rw[<-HRP.out]
        rintro e w2 ⟨rfl,hr2,hi2⟩
        have HR2:=Lib.hid hr2
        have HI3:=Lib.hid (hi2 _ _ _ HI2.out)
        have HP3:=Lib.hid (HP2.out.on hi2)
        clear hr2 hi2
        go_wp2_with fail
        try rw[Exit.noGoto_ret]
        go_roundg (s.size - (k+1))
        case measure=>omega
        case rel=>exact⟨k+1,0,tt,none,kk,sk',by omega,rfl,rfl,rfl,htt,HI3,HN,HR2,HP3⟩
       ·have HN:=Lib.hid (HW.out.walk.trans ((congrArg (fun x=>Fld.walkL f (some cs) tt x sk) HDR.out).trans (walk_bad HRP.out.symm h0)))
        have h0':(er == 0)=false:=by simpa using h0
        clear h0
        go_wp2_with fail
        refine(repeat_w HD.out _ cs HX.out (HW.out.ok cs rfl) tt htt sk _ HJ2.out HXL.out).mono ?_
        rw[<-HRP.out]
        rintro e w2 ⟨rfl,hr2,hi2⟩
        have HR2:=Lib.hid hr2
        have HP3:=Lib.hid (HP2.out.on hi2)
        clear hr2 hi2
        go_wp2_with fail
        try rw[Exit.noGoto_ret]
        go_ret
        exact⟨by rw[HN.out];rfl,by rw[HN.out];exact HR2.out,HP3.out.kept⟩
      ·have HN:=Lib.hid (HW.out.in_ HDR.out h41)
       have t41:(c == 41)=false:=by simpa using h41
       clear h41 hcs
       go_wp2_with fail
       try rw[Exit.noGoto_ret]
       go_roundg (s.size - (k+1))
       case measure=>omega
       case rel=>exact⟨k+1,bg,tt,_,true,sk,by omega,rfl,rfl,rfl,htt,HI2,HN,HJ2,HP2⟩
  ·obtain rfl:k=s.size:=by omega
   have hnx:=fun ty=>Lib.run_next_end_at (P:=Tryz.prog) wr gi s s.size ty HI.out (by omega)
   have HN:=Lib.hid (HW.out.walk.trans ((congrArg (fun x=>Fld.walkL f gO tt x sk) (show l.drop s.size= [] by rw[<-HS.out,List.drop_length])).trans walk_end))
   go_wp2_with fail
   go_ret
   exact⟨by rw[HN.out];rfl,by rw[HN.out];exact HJ.out,HP.out.kept⟩
end
section
open Go.RowKit Sha
open Fld (Itm)
theorem WSt.keepA {w0 w:World} {ga:Nat} {st:List Int×List Itm} {p:Option Addr} {c:Nat} {v:Value}(h:WSt w0 ga st p c v w)(o:Obj):WSt w0 ga st p c v (w.alloc o):=
 ⟨h.mem.carry (cells_alloc w o),h.items,h.le,h.max,h.nil,h.below.alloc h.mem.size o,h.small⟩
theorem WSt.keepI {w0 w:World} {ga:Nat} {st:List Int×List Itm} {p:Option Addr} {c:Nat} {v:Value}(h:WSt w0 ga st p c v w) {gi:Nat} {s:ByteArray} {k:Nat}(hg:w0.heap.size<=gi)(hi:w.heap[gi]? = some (.stringIter s k))(k':Nat):WSt w0 ga st p c v (w.iterAt gi s k'):=
 ⟨h.mem.carry (cells_iterAt hi k'),h.items,h.le,h.max,h.nil,Lib.below_iterAt h.below hg s k',h.small⟩
theorem putS_lim (c:Int)(st:List Int×List Itm)(h:∀x∈st.2,x.ok):(Fld.putS c st).2.1<=9223372036854775807/\-9223372036854775808<=(Fld.putS c st).2.1:=by
 obtain⟨out,l⟩:=st
 cases l with
 | nil=>simp[Fld.putS]
 | cons x l=>
    have hx:=h x (List.mem_cons_self ..)
    have:=hx.N0
    have:=hx.N1
    unfold Fld.putS
    simp only
    repeat' split
    all_goals simp only[]
    all_goals omega
theorem doer_w (w0:World)(ga:Nat):Doer Tryz.prog 84 ga w0.heap.size Fld.putS (WAt w0 ga) where
 step c st w hc hR:=(put_any w0 ga c hc st w hR).mono fun e w' ⟨he,hr,ho⟩=>⟨he,hr,iters_of ho (by obtain⟨p,c,v,h⟩:=hR;exact⟨_,_,h.mem.blk⟩)⟩
 keepA st w o h:=by obtain⟨p,c,v,h⟩:=h;exact⟨p,c,v,h.keepA o⟩
 keepI st w gi s p p' h hg hi:=by obtain⟨q,c,v,h⟩:=h;exact⟨q,c,v,h.keepI hg hi p'⟩
 base st w h:=by obtain⟨p,c,v,h⟩:=h;exact h.mem.size
 lim c st w h:=by obtain⟨p,cc,v,h⟩:=h;exact putS_lim c st h.items.ok
def PutDone (w0:World)(r:List Int×Int)(e:Ending)(w:World):Prop:=
 ∃v,e= .returned (.tuple #[v,.int .i64 r.2])/\Own8 w w0.heap.size 5 v r.1.length (r.1.map v8)/\Below w0.heap.size w0 w
theorem put_bad {s:List Int} {l:List Itm}(h:Fld.chk s=false):Fld.put s l=([],2):=by simp[Fld.put,h]
theorem put_walked {s:List Int} {l:List Itm}(h:Fld.chk s=true) {st:List Int×List Itm} {e:Int}(hw:Fld.walkL Fld.putS none 0 s ([],l)=(st,e)):
 Fld.put s l=if e=0 then(if st.2= []then(st.1,0)else([],2))else([],e):=by simp[Fld.put,h,hw]
theorem putF_bad (s:ByteArray)(hs:s.size<=maxLen)(p:Option Addr)(n c:Nat)(w:World)(l:List Itm)(hc:Fld.chk (nums s)=false):
 Calls Tryz.prog 43 #[.string s,.slice p n c] w (PutDone w (Fld.put (nums s) l)):=by
 have HP:=Lib.hid (put_bad (l:=l) hc)
 have HE:=Lib.hid (Fld.chkE_no hc)
 clear hc
 go_enter Tryz.func43,Tryz.ntmps43
 go_wp2_with (go_at_call 82;refine(check_any s w hs).mono ?_;rw[HE.out];rintro e w1 ⟨rfl,hb1⟩)
 go_ret2
 exact⟨.slice none 0 0,by rw[HP.out];rfl,by rw[HP.out];exact Own8.nil _ _ _,hb1⟩
theorem putF_any (s:ByteArray)(hs:s.size<=maxLen)(l:List Itm)(p:Option Addr)(n c:Nat)(w:World)(hn:n=l.length)(hi:ItemsAt w p l)(hle:n<=c)(hm:c<=9223372036854775807)(hp:p=none->c=0)(hsm:n<=100000):
 Calls Tryz.prog 43 #[.string s,.slice p n c] w (PutDone w (Fld.put (nums s) l)):=by
 subst hn
 by_cases hc:Fld.chk (nums s)=true
 ·have HE:=Lib.hid (Fld.chkE_ok hc)
  have HC:=Lib.hid (chk_len hc)
  have hsl:s.size<=40:=by have:=HC.out.1;rwa [nums_length]at this
  obtain⟨⟨st,er⟩,hr⟩:∃r,r=Fld.walkL Fld.putS none 0 (nums s) ([],l):=⟨_,rfl⟩
  have HP:=Lib.hid (put_walked hc hr.symm)
  have HR:=Lib.hid hr
  have HI:=Lib.hid hi
  have HPN:=Lib.hid hp
  clear hc hr hi hp
  go_enter Tryz.func43,Tryz.ntmps43
  go_wp2_with (first
   | (go_at_call 82;refine(check_any s w hs).mono ?_;rw[HE.out];rintro e w1 ⟨rfl,hb1⟩))
  have hst:WAt w w1.heap.size ([],l) (w1.alloc (Obj.cells #[Value.slice p l.length c,Value.slice none 0 0] 121)):=
   ⟨p,c,.slice none 0 0,⟨by simpa using Blk.new w1 #[Value.slice p l.length c,Value.slice none 0 0] 121,Own8.nil _ _ _,hb1.size,by simp;have:=hb1.size;omega⟩,HI.out,hle,hm,HPN.out,hb1.alloc hb1.size _,by simp;omega⟩
  refine(walk_w (doer_w w w1.heap.size) s hsl HC.out.2 ([],l) _ hst).mono ?_
  rw[<-HR.out]
  rintro e w2 ⟨rfl,hs2,_⟩
  clear hst hb1
  generalize w1.heap.size=ga at *
  obtain⟨out,l2⟩:=st
  obtain⟨p2,c2,v2,hs2⟩:=hs2
  have a0:w2.cell? ⟨ga,0,none⟩=some (.slice p2 l2.length c2):=hs2.mem.blk.cell 0
  have a1:w2.cell? ⟨ga,1,none⟩=some v2:=hs2.mem.blk.cell 1
  have HS2:=Lib.hid hs2
  clear hs2
  by_cases he:er=0
  ·subst he
   by_cases h2:l2= []
   ·subst h2
    have HP2:=Lib.hid (HP.out.trans (by simp:_=(out,(0:Int))))
    go_wp2_with fail
    go_ret2
    exact⟨v2,by rw[HP2.out];rfl,by rw[HP2.out];exact HS2.out.mem.own,HS2.out.below⟩
   ·have h3:0 < l2.length:=List.length_pos_iff.2 h2
    have HP2:=Lib.hid (HP.out.trans (by simp[h2]:_=(([]:List Int),(2:Int))))
    clear h2
    go_wp2_with fail
    go_ret2
    exact⟨.slice none 0 0,by rw[HP2.out];rfl,by rw[HP2.out];exact Own8.nil _ _ _,HS2.out.below⟩
  ·have he':(er == 0)=false:=by simpa using he
   have HP2:=Lib.hid (HP.out.trans (by simp[he]:_=(([]:List Int),er)))
   clear he
   go_wp2_with fail
   go_ret2
   exact⟨.slice none 0 0,by rw[HP2.out];rfl,by rw[HP2.out];exact Own8.nil _ _ _,HS2.out.below⟩
 ·exact putF_bad s hs p _ c w l (by simpa using hc)
end
section
open Go.RowKit Sha
open Fld (Itm)
attribute [local go_sem ↓] execOp_loadItem execOp_buildItems
theorem get_o (w0:World)(ga:Nat)(bs:List Int)(p:Option Addr)(n c:Nat)(hin:RIn w0 ga bs p n c)(hn:n<=1000000)(at_:Nat)(l:List Itm)(w:World)(h:RAt w0 ga bs p n c (at_,l) w):
 Calls Tryz.prog 113 #[.pointer (some ⟨ga,0,none⟩),.int .i32 40] w (GDone w0 ga bs p n c 40 (at_,l) w):=by
 obtain⟨v,ys,hs⟩:=h
 have HI:=Lib.hid hin
 have HS:=Lib.hid hs
 have hat:at_<=n:=hs.at_
 obtain⟨r,hr⟩:∃r,r=Fld.rdTop (bs.drop at_):=⟨_,rfl⟩
 have HR:=Lib.hid hr
 clear hin hs
 by_cases h0:r.1=0
 ·have h0':(r.1 == 0)=true:=by simpa using h0
  obtain⟨m,e1,e2,e3,e4,e5⟩:=Fld.rdTop_back (bs.drop at_) r.2.1 r.2.2 (fun x hx=>HI.out.bd x (List.mem_of_mem_drop hx)) (by rw[<-hr,<-h0])
  have HG:=Lib.hid (getS_o_ok (bs:=bs) (at_:=at_) (acc:=l) hr h0)
  have hpos:=Fld.num_pos m
  rw[List.length_drop,HI.out.len]at e4
  have hk1:at_+r.2.2<=n:=by omega
  have hk2:at_+1<=at_+r.2.2:=by omega
  have HOKX:=Lib.hid (show Itm.ok ⟨r.2.1,[],Fld.zero32⟩from⟨by simp only[];omega,by simp only[];omega,by simp,item0_ok'.D,Fld.zero32_length⟩)
  clear e1 e2 e3 e4 e5 h0 hr hpos
  go_enter Tryz.func113,Tryz.ntmps113
  go_wp2_with (first
   | (refine wpList_alloc_arr rfl 83 rfl _ item_info ?_;have hkA:=HS.out.blk.old (Obj.cells (icells ⟨0,[],Fld.zero32⟩ none 0).toArray 83);have hiA:=Blk.new w (icells ⟨0,[],Fld.zero32⟩ none 0).toArray 83;have hoA:=only_alloc (only_refl w ga) (Obj.cells (icells ⟨0,[],Fld.zero32⟩ none 0).toArray 83);rw[List.toList_toArray]at hiA;have hBA:=below_only HS.out.below hoA HI.out.base HS.out.below.size;have hgx:w.heap.size<=w.heap.size:=Nat.le_refl _;have hlt:ga < w.heap.size:=HS.out.blk.lt;have hgne:w.heap.size≠ga:=(by omega);generalize w.alloc (Obj.cells (icells ⟨0,[],Fld.zero32⟩ none 0).toArray 83)=wA at *;generalize hgxe:w.heap.size=gx at *;have HGX:=Lib.hid hgxe.symm;clear hgxe;have HKA:=Lib.hid hkA;have HIA:=Lib.hid hiA;have HOA:=Lib.hid hoA;have HBA:=Lib.hid hBA;clear hkA hiA hoA hBA hgx)
   | (go_at_call 145;refine(count_any w0 ga bs p n c HI.out v at_ wA HBA.out hat HKA.out).mono ?_;rw[<-HR.out];rintro e w1 ⟨rfl,hk1,ho1⟩;have hi1:=HIA.out.grow ho1 (fun e=>hgne (Option.some.inj e).symm);have d0:w1.cell? ⟨gx,0,none⟩=some (.int .i64 0):=(hi1.cell 0).trans (icells_0 _ _ _);have d1:w1.frozen? ⟨gx,0,none⟩=false:=hi1.free 0;have HK1:=Lib.hid hk1;have HO1:=Lib.hid (only_trans HOA.out ho1);have HI1:=Lib.hid hi1;clear hk1 ho1 hi1))
  have ho2:=only_setNew HO1.out (Nat.le_of_eq HGX.out.symm) 0 (.int .i64 r.2.1)
  have hk3:=HK1.out.setOther (⟨gx,0,none⟩:Addr) (.int .i64 r.2.1) (Ne.symm hgne)
  have hi2:Blk (w1.setCell ⟨gx,0,none⟩ (.int .i64 r.2.1)) gx (icells ⟨r.2.1,[],Fld.zero32⟩ none 0) 83:=by have:=HI1.out.set 0 (.int .i64 r.2.1);rwa [icells_set0]at this
  have hgs:=HS.out.step HI.out.base ho2 hk3 hi2 ⟨HOKX.out,rfl,by simp,Or.inl ⟨rfl,rfl⟩⟩ (Nat.le_of_eq HGX.out.symm)
  have HLL:=Lib.hid (show l.length+1<=at_+r.2.2 by have h2:=HS.out.few;simp only at h2;omega)
  obtain⟨x,hxx⟩:∃x:Itm,x=⟨r.2.1,[],Fld.zero32⟩:=⟨_,rfl⟩
  have HXN:=Lib.hid (show x.N=r.2.1 by rw[hxx])
  clear ho2 hk3 hi2 d0 d1
  generalize w1.setCell ⟨gx,0,none⟩ (.int .i64 r.2.1)=w2 at *
  have GS:=Lib.hid hgs
  clear hgs
  obtain⟨at2,hat2⟩:∃a,a=at_+r.2.2:=⟨_,rfl⟩
  rw[<-hat2]at GS HG HLL hk1 hk2
  clear hat2 HK1 HI1 HO1
  rw[<-hxx]at GS HG
  clear hxx HOKX
  obtain⟨q,hq⟩:∃q:Option Addr,q=none:=⟨_,rfl⟩
  obtain⟨qc,hqc⟩:∃qc:Nat,qc=0:=⟨_,rfl⟩
  rw[<-hq,<-hqc]at GS
  clear hq hqc
  have c2:w2.cell? ⟨ga,2,none⟩=some v:=GS.out.blk.cell 2
  have g0:w2.cell? ⟨gx,0,none⟩=some (.int .i64 x.N):=(GS.out.item.cell 0).trans (icells_0 _ _ _)
  have c2':(w2.alloc (Obj.cells (icells x q qc).toArray 83)).cell? ⟨ga,2,none⟩=some v:=(GS.out.blk.old _).cell 2
  have ld:=load_item GS.out.goodx.ok GS.out.item.drew
  have bd:=fun w=>build_item w (q:=q) (c:=qc) GS.out.goodx.ok
  have hll:=HLL.out
  obtain⟨i0,hi0,hz0,hz1,hz2⟩:=info_parts item_all3
  have HI0:=Lib.hid hi0
  have HZ0:=Lib.hid hz0
  have HZ1:=Lib.hid hz1
  have HZ2:=Lib.hid hz2
  clear hi0 hz0 hz1 hz2
  have HZS:=Lib.hid (show(Value.agg (icells ⟨0,[],Fld.zero32⟩ none 0).toArray).cells.size=34 by show(icells ⟨0,[],Fld.zero32⟩ none 0).toArray.size=34;rw[List.size_toArray,icells_length item0_ok'])
  go_region_law ((refine step_append_lies _ (by rfl) _ _ _ (by rfl) w0.heap.size 83 i0 _ 34 64 Tryz.underlying81 HI0.out HZ0.out HZ1.out HZ2.out HZS.out (by omega) v l.length _ (by rfl) ((GS.out.own.alloc _).drew) ⟨w2.heap.size,0,none⟩ 1 1 (icells x q qc) (by rfl) (by rw[icells_length GS.out.goodx.ok]) (World.news_of_block (cs:=(icells x q qc).toArray) (t:=83) (fr:=(0,0)) (heap_alloc_new w2 _)) (icells_one x q qc) (by omega) (by unfold maxLen;omega) (by omega) (by have:=GS.out.size;simp;omega) (w2.heap.size+1) (by simp) ?_;intro g5 cap5 w5 hown5 hgrow5 hat5 hlt5;obtain⟨ra5,it5,k5,i5⟩:=GS.out.done HI.out.base (Obj.cells (icells x q qc).toArray 83) ⟨hgrow5.os,hgrow5.tape,hgrow5.output,hgrow5.size,hgrow5.block⟩ hown5 hk1 hll;have s0:w5.cell? ⟨ga,2,none⟩=some v:=k5.cell 2;have s1:w5.frozen? ⟨ga,2,none⟩=false:=k5.free 2;have s2:w5.cell? ⟨gx,0,none⟩=some (.int .i64 x.N):=(i5.cell 0).trans (icells_0 _ _ _);have RA5:=Lib.hid ra5;have IT5:=Lib.hid it5;clear hown5 hgrow5 hat5 ra5 it5 k5 i5))
  all_goals
   go_wp2_with fail
   go_ret2
   exact⟨by rw[HG.out];show Ending.returned (.tuple #[.int .i64 x.N,.int .i64 0])=_;rw[HXN.out],by rw[HG.out];exact RA5.out,IT5.out⟩
 ·have h0':(r.1 == 0)=false:=by simpa using h0
  have HG:=Lib.hid (getS_o_err (bs:=bs) (at_:=at_) (acc:=l) (by rw[HI.out.len];exact hat) hr h0)
  have HAT:=Lib.hid (show at_+r.2.2<=n/\l.length<=at_+r.2.2 from by have h1:=rdTop_at (bs.drop at_) at_ (by rw[<-hr];exact h0);rw[<-hr,List.length_drop,HI.out.len]at h1;have h2:=HS.out.few;simp only at h2;split at h1<;>omega)
  clear h0 hr
  go_enter Tryz.func113,Tryz.ntmps113
  go_wp2_with (first
   | (refine wpList_alloc_arr rfl 83 rfl _ item_info ?_;have hkA:=HS.out.blk.old (Obj.cells (icells ⟨0,[],Fld.zero32⟩ none 0).toArray 83);have hiA:=Blk.new w (icells ⟨0,[],Fld.zero32⟩ none 0).toArray 83;have hoA:=only_alloc (only_refl w ga) (Obj.cells (icells ⟨0,[],Fld.zero32⟩ none 0).toArray 83);rw[List.toList_toArray]at hiA;have hBA:=below_only HS.out.below hoA HI.out.base HS.out.below.size;have hgx:w.heap.size<=w.heap.size:=Nat.le_refl _;have hlt:ga < w.heap.size:=HS.out.blk.lt;have hgne:w.heap.size≠ga:=(by omega);generalize w.alloc (Obj.cells (icells ⟨0,[],Fld.zero32⟩ none 0).toArray 83)=wA at *;generalize hgxe:w.heap.size=gx at *;have HGX:=Lib.hid hgxe.symm;clear hgxe;have HKA:=Lib.hid hkA;have HIA:=Lib.hid hiA;have HOA:=Lib.hid hoA;have HBA:=Lib.hid hBA;clear hkA hiA hoA hBA hgx)
   | (go_at_call 145;refine(count_any w0 ga bs p n c HI.out v at_ wA HBA.out hat HKA.out).mono ?_;rw[<-HR.out];rintro e w1 ⟨rfl,hk1,ho1⟩;have hi1:=HIA.out.grow ho1 (fun e=>hgne (Option.some.inj e).symm);have d0:w1.cell? ⟨gx,0,none⟩=some (.int .i64 0):=(hi1.cell 0).trans (icells_0 _ _ _);have d1:w1.frozen? ⟨gx,0,none⟩=false:=hi1.free 0;have HK1:=Lib.hid hk1;have HO1:=Lib.hid (only_trans HOA.out ho1);have HI1:=Lib.hid hi1;clear hk1 ho1 hi1))
  go_ret2
  have ho2:=only_setNew HO1.out (Nat.le_of_eq HGX.out.symm) 0 (.int .i64 r.2.1)
  have hk2:=HK1.out.setOther (⟨gx,0,none⟩:Addr) (.int .i64 r.2.1) (Ne.symm hgne)
  exact⟨by rw[HG.out];rfl,by rw[HG.out];exact HS.out.err HI.out.base ho2 hk2 HAT.out.1 HAT.out.2,iters_of (others_only ho2 5) ⟨_,_,HS.out.blk⟩⟩
end
section
open Go.RowKit Sha
open Fld (Itm)
theorem icells_splice {x:Itm}(hx:x.ok) {D':List Int}(hl:D'.length=32) {q:Option Addr} {c:Nat}:splice (icells x q c) 2 (D'.map v8)=icells ⟨x.N,x.B,D'⟩ q c:=by
 have h:(icells x q c).length=34:=icells_length hx q c
 have e:∀(y:Itm),icells y q c= [.int .i64 y.N,.slice q y.B.length c]++y.D.map v8:=fun y=>by unfold icells;rfl
 unfold splice
 rw[List.length_map,hl,List.drop_eq_nil_of_le (by omega),List.append_nil,e x,e ⟨x.N,x.B,D'⟩]
 rfl
attribute [local go_sem ↓] execOp_loadItem execOp_buildItems
theorem get_d (w0:World)(ga:Nat)(bs:List Int)(p:Option Addr)(n c:Nat)(hin:RIn w0 ga bs p n c)(hn:n<=1000000)(at_:Nat)(l:List Itm)(w:World)(h:RAt w0 ga bs p n c (at_,l) w):
 Calls Tryz.prog 113 #[.pointer (some ⟨ga,0,none⟩),.int .i32 100] w (GDone w0 ga bs p n c 100 (at_,l) w):=by
 obtain⟨v,ys,hs⟩:=h
 have HI:=Lib.hid hin
 have HS:=Lib.hid hs
 have hat:at_<=n:=hs.at_
 clear hin hs
 by_cases hsh:n - at_ < 32
 ·have HG:=Lib.hid (show Fld.getS bs 100 (at_,l)=((n,l),0,4) by unfold Fld.getS;rw[if_neg (by omega),if_pos rfl,HI.out.len,if_pos hsh])
  go_enter Tryz.func113,Tryz.ntmps113
  go_wp2_with (first
   | (refine wpList_alloc_arr rfl 83 rfl _ item_info ?_;have hkA:=HS.out.blk.old (Obj.cells (icells ⟨0,[],Fld.zero32⟩ none 0).toArray 83);have hiA:=Blk.new w (icells ⟨0,[],Fld.zero32⟩ none 0).toArray 83;have hoA:=only_alloc (only_refl w ga) (Obj.cells (icells ⟨0,[],Fld.zero32⟩ none 0).toArray 83);rw[List.toList_toArray]at hiA;have hBA:=below_only HS.out.below hoA HI.out.base HS.out.below.size;have hgx:w.heap.size<=w.heap.size:=Nat.le_refl _;have hlt:ga < w.heap.size:=HS.out.blk.lt;have hgne:w.heap.size≠ga:=(by omega);generalize w.alloc (Obj.cells (icells ⟨0,[],Fld.zero32⟩ none 0).toArray 83)=wA at *;generalize hgxe:w.heap.size=gx at *;have HGX:=Lib.hid hgxe.symm;clear hgxe;have HKA:=Lib.hid hkA;have HIA:=Lib.hid hiA;have HOA:=Lib.hid hoA;have HBA:=Lib.hid hBA;clear hkA hiA hoA hBA hgx)
   | (go_at_call 144;refine(fill_any w0 ga gx 2 32 32 bs p n c HI.out v at_ wA HBA.out hat HKA.out _ 83 HIA.out hlt (by omega) (by rw[icells_length item0_ok'];omega)).mono ?_;rintro e w1 hf;unfold FDone at hf;rw[if_pos hsh]at hf;obtain⟨rfl,hk1,hi1,ho1⟩:=hf;have HK1:=Lib.hid hk1;have HO1:=Lib.hid (only_trans HOA.out ho1);clear hk1 ho1 hi1))
  go_ret2
  exact⟨by rw[HG.out];rfl,by rw[HG.out];exact HS.out.err HI.out.base HO1.out HK1.out (Nat.le_refl _) (by have h2:=HS.out.few;simp only at h2;show l.length<=n;omega),iters_of (others_only HO1.out 5) ⟨_,_,HS.out.blk⟩⟩
 ·have HG:=Lib.hid (show Fld.getS bs 100 (at_,l)=((at_+32,l++[⟨0,[],(bs.drop at_).take 32⟩]),0,0) by unfold Fld.getS;rw[if_neg (by omega),if_pos rfl,HI.out.len,if_neg hsh])
  have hk1:at_+32<=n:=by omega
  have HDL:=Lib.hid (show((bs.drop at_).take 32).length=32 by rw[List.length_take,List.length_drop,HI.out.len];omega)
  have HOKX:=Lib.hid (show Itm.ok ⟨0,[],(bs.drop at_).take 32⟩from⟨by simp,by simp,by simp,fun x hx=>HI.out.bd x (List.mem_of_mem_drop (List.mem_of_mem_take hx)),HDL.out⟩)
  go_enter Tryz.func113,Tryz.ntmps113
  go_wp2_with (first
   | (refine wpList_alloc_arr rfl 83 rfl _ item_info ?_;have hkA:=HS.out.blk.old (Obj.cells (icells ⟨0,[],Fld.zero32⟩ none 0).toArray 83);have hiA:=Blk.new w (icells ⟨0,[],Fld.zero32⟩ none 0).toArray 83;have hoA:=only_alloc (only_refl w ga) (Obj.cells (icells ⟨0,[],Fld.zero32⟩ none 0).toArray 83);rw[List.toList_toArray]at hiA;have hBA:=below_only HS.out.below hoA HI.out.base HS.out.below.size;have hgx:w.heap.size<=w.heap.size:=Nat.le_refl _;have hlt:ga < w.heap.size:=HS.out.blk.lt;have hgne:w.heap.size≠ga:=(by omega);generalize w.alloc (Obj.cells (icells ⟨0,[],Fld.zero32⟩ none 0).toArray 83)=wA at *;generalize hgxe:w.heap.size=gx at *;have HGX:=Lib.hid hgxe.symm;clear hgxe;have HKA:=Lib.hid hkA;have HIA:=Lib.hid hiA;have HOA:=Lib.hid hoA;have HBA:=Lib.hid hBA;clear hkA hiA hoA hBA hgx)
   | (go_at_call 144;refine(fill_any w0 ga gx 2 32 32 bs p n c HI.out v at_ wA HBA.out hat HKA.out _ 83 HIA.out hlt (by omega) (by rw[icells_length item0_ok'];omega)).mono ?_;rintro e w1 hf;unfold FDone at hf;rw[if_neg hsh]at hf;obtain⟨rfl,hk1',hi1,w3,hb3,ho3⟩:=hf;have HK1:=Lib.hid hk1';have HO1:=Lib.hid (only_fill HOA.out (Nat.le_of_eq HGX.out.symm) hb3 ho3);rw[icells_splice item0_ok' HDL.out]at hi1;have HI1:=Lib.hid hi1;clear hk1' hb3 ho3 hi1))
  have hgs:=HS.out.step HI.out.base HO1.out HK1.out HI1.out ⟨HOKX.out,rfl,by simp,Or.inl ⟨rfl,rfl⟩⟩ (Nat.le_of_eq HGX.out.symm)
  have HLL:=Lib.hid (show l.length+1<=at_+32 by have h2:=HS.out.few;simp only at h2;omega)
  obtain⟨x,hxx⟩:∃x:Itm,x=⟨0,[],(bs.drop at_).take 32⟩:=⟨_,rfl⟩
  have HXN:=Lib.hid (show x.N=0 by rw[hxx])
  have GS:=Lib.hid hgs
  clear hgs HK1 HI1 HO1
  generalize w1=w2 at *
  obtain⟨at2,hat2⟩:∃a,a=at_+32:=⟨_,rfl⟩
  rw[<-hat2]at GS HG HLL hk1
  clear hat2 HDL hsh
  rw[<-hxx]at GS HG
  clear hxx HOKX
  obtain⟨q,hq⟩:∃q:Option Addr,q=none:=⟨_,rfl⟩
  obtain⟨qc,hqc⟩:∃qc:Nat,qc=0:=⟨_,rfl⟩
  rw[<-hq,<-hqc]at GS
  clear hq hqc
  have c2:w2.cell? ⟨ga,2,none⟩=some v:=GS.out.blk.cell 2
  have g0:w2.cell? ⟨gx,0,none⟩=some (.int .i64 x.N):=(GS.out.item.cell 0).trans (icells_0 _ _ _)
  have c2':(w2.alloc (Obj.cells (icells x q qc).toArray 83)).cell? ⟨ga,2,none⟩=some v:=(GS.out.blk.old _).cell 2
  have ld:=load_item GS.out.goodx.ok GS.out.item.drew
  have bd:=fun w=>build_item w (q:=q) (c:=qc) GS.out.goodx.ok
  have hll:=HLL.out
  obtain⟨i0,hi0,hz0,hz1,hz2⟩:=info_parts item_all3
  have HI0:=Lib.hid hi0
  have HZ0:=Lib.hid hz0
  have HZ1:=Lib.hid hz1
  have HZ2:=Lib.hid hz2
  clear hi0 hz0 hz1 hz2
  have HZS:=Lib.hid (show(Value.agg (icells ⟨0,[],Fld.zero32⟩ none 0).toArray).cells.size=34 by show(icells ⟨0,[],Fld.zero32⟩ none 0).toArray.size=34;rw[List.size_toArray,icells_length item0_ok'])
  go_region_law ((refine step_append_lies _ (by rfl) _ _ _ (by rfl) w0.heap.size 83 i0 _ 34 64 Tryz.underlying81 HI0.out HZ0.out HZ1.out HZ2.out HZS.out (by omega) v l.length _ (by rfl) ((GS.out.own.alloc _).drew) ⟨w2.heap.size,0,none⟩ 1 1 (icells x q qc) (by rfl) (by rw[icells_length GS.out.goodx.ok]) (World.news_of_block (cs:=(icells x q qc).toArray) (t:=83) (fr:=(0,0)) (heap_alloc_new w2 _)) (icells_one x q qc) (by omega) (by unfold maxLen;omega) (by omega) (by have:=GS.out.size;simp;omega) (w2.heap.size+1) (by simp) ?_;intro g5 cap5 w5 hown5 hgrow5 hat5 hlt5;obtain⟨ra5,it5,k5,i5⟩:=GS.out.done HI.out.base (Obj.cells (icells x q qc).toArray 83) ⟨hgrow5.os,hgrow5.tape,hgrow5.output,hgrow5.size,hgrow5.block⟩ hown5 hk1 hll;have s0:w5.cell? ⟨ga,2,none⟩=some v:=k5.cell 2;have s1:w5.frozen? ⟨ga,2,none⟩=false:=k5.free 2;have s2:w5.cell? ⟨gx,0,none⟩=some (.int .i64 x.N):=(i5.cell 0).trans (icells_0 _ _ _);have RA5:=Lib.hid ra5;have IT5:=Lib.hid it5;clear hown5 hgrow5 hat5 ra5 it5 k5 i5))
  all_goals
   go_wp2_with fail
   go_ret2
   exact⟨by rw[HG.out];show Ending.returned (.tuple #[.int .i64 x.N,.int .i64 0])=_;rw[HXN.out],by rw[HG.out];exact RA5.out,IT5.out⟩
end
section
open Go.RowKit Sha
open Fld (Itm)
attribute [local go_sem ↓] execOp_loadItem execOp_buildItems
theorem get_b (w0:World)(ga:Nat)(bs:List Int)(p:Option Addr)(n c:Nat)(hin:RIn w0 ga bs p n c)(hn:n<=1000000)(at_:Nat)(l:List Itm)(w:World)(h:RAt w0 ga bs p n c (at_,l) w):
 Calls Tryz.prog 113 #[.pointer (some ⟨ga,0,none⟩),.int .i32 98] w (GDone w0 ga bs p n c 98 (at_,l) w):=by
 obtain⟨v,ys,hs⟩:=h
 have HI:=Lib.hid hin
 have HS:=Lib.hid hs
 have hat:at_<=n:=hs.at_
 clear hin hs
 go_enter Tryz.func113,Tryz.ntmps113
 go_wp2_with ((refine wpList_alloc_arr rfl 83 rfl _ item_info ?_;have hkA:=HS.out.blk.old (Obj.cells (icells ⟨0,[],Fld.zero32⟩ none 0).toArray 83);have hiA:=Blk.new w (icells ⟨0,[],Fld.zero32⟩ none 0).toArray 83;have hoA:=only_alloc (only_refl w ga) (Obj.cells (icells ⟨0,[],Fld.zero32⟩ none 0).toArray 83);rw[List.toList_toArray]at hiA;have hBA:=below_only HS.out.below hoA HI.out.base HS.out.below.size;have hgx:w.heap.size<=w.heap.size:=Nat.le_refl _;have hlt:ga < w.heap.size:=HS.out.blk.lt;have hgne:w.heap.size≠ga:=(by omega);generalize w.alloc (Obj.cells (icells ⟨0,[],Fld.zero32⟩ none 0).toArray 83)=wA at *;generalize hgxe:w.heap.size=gx at *;have HGX:=Lib.hid hgxe.symm;clear hgxe;have HKA:=Lib.hid hkA;have HIA:=Lib.hid hiA;have HOA:=Lib.hid hoA;have HBA:=Lib.hid hBA;clear hkA hiA hoA hBA hgx))
 refine(bytes_any w0 ga bs p n c HI.out v at_ wA HBA.out hat HKA.out).mono ?_
 rintro e w1 ⟨qq,mm,cc,er,at2,rfl,hk1,ho1,hor⟩
 have hi1:=HIA.out.grow ho1 (fun e=>hgne (Option.some.inj e).symm)
 have d0:w1.cell? ⟨gx,1,none⟩=some (.slice none 0 0):=(hi1.cell 1).trans (icells_1 _ _ _)
 have d1:w1.frozen? ⟨gx,1,none⟩=false:=hi1.free 1
 have d2:w1.cell? ⟨gx,0,none⟩=some (.int .i64 0):=(hi1.cell 0).trans (icells_0 _ _ _)
 have HK1:=Lib.hid hk1
 have HO1:=Lib.hid (only_trans HOA.out ho1)
 have HAS:=Lib.hid (show gx < wA.heap.size from HIA.out.lt)
 have HI1:=Lib.hid hi1
 clear hk1 ho1 hi1
 have ho2:=only_setNew HO1.out (Nat.le_of_eq HGX.out.symm) 1 (.slice qq mm cc)
 have hk3:=HK1.out.setOther (⟨gx,1,none⟩:Addr) (.slice qq mm cc) (Ne.symm hgne)
 have HO2:=Lib.hid ho2
 have HK3:=Lib.hid hk3
 clear ho2 hk3
 rcases hor with⟨he,h1,h2,h3⟩ | ⟨rfl,m,k,g,h1,h2,h3,h4,h5,rfl,rfl,rfl,h6,h7⟩
 ·have he':(er == 0)=false:=by simpa using he
  have HG:=Lib.hid (h3 l)
  have HF:=Lib.hid (show l.length<=at2 by have h4:=HS.out.few;simp only at h4;omega)
  clear he h3
  go_wp2_with fail
  go_ret2
  exact⟨by rw[HG.out];rfl,by rw[HG.out];exact HS.out.err HI.out.base HO2.out HK3.out h2 HF.out,iters_of (others_only HO2.out 5) ⟨_,_,HS.out.blk⟩⟩
 ·have HG:=Lib.hid (h1 l)
  have HLEN:=Lib.hid h2
  have HB1:=Lib.hid h6
  have HGG:=Lib.hid h7
  have hk1:at2<=n:=h5
  have HLL:=Lib.hid (show l.length+1<=at2 by have h8:=HS.out.few;simp only at h8;omega)
  have HMX:=Lib.hid h3
  clear h1 h2 h3 h4 h5 h6 h7
  go_wp2_with fail
  obtain⟨x,hxx⟩:∃x:Itm,x=⟨0,(bs.drop (at_+k)).take cc,Fld.zero32⟩:=⟨_,rfl⟩
  have HXN:=Lib.hid (show x.N=0 by rw[hxx])
  have hi2:Blk (w1.setCell ⟨gx,1,none⟩ (.slice (some ⟨g,0,none⟩) cc cc)) gx (icells x (some ⟨g,0,none⟩) cc) 83:=by
   have h8:=HI1.out.set 1 (.slice (some ⟨g,0,none⟩) cc cc)
   have h9:=icells_set1 ⟨0,[],Fld.zero32⟩ none 0 ((bs.drop (at_+k)).take cc) (some ⟨g,0,none⟩) cc
   rw[<-HLEN.out]at h9
   rw[h9]at h8
   rw[hxx];exact h8
  have hgx:GoodR (w1.setCell ⟨gx,1,none⟩ (.slice (some ⟨g,0,none⟩) cc cc)) x (some ⟨g,0,none⟩) cc:=by
   rw[hxx]
   refine⟨⟨by simp,by simp,fun y hy=>HI.out.bd y (List.mem_of_mem_drop (List.mem_of_mem_take hy)),item0_ok'.D,Fld.zero32_length⟩,HLEN.out,HMX.out,Or.inr ⟨g,rfl,HB1.out.setOther _ _ ?_⟩⟩
   have h8:=HAS.out
   have h9:=HGG.out
   show g≠gx
   omega
  have GS:=Lib.hid (HS.out.step HI.out.base HO2.out HK3.out hi2 hgx (Nat.le_of_eq HGX.out.symm))
  rw[<-hxx]at HG
  clear hxx hi2 hgx HK1 HO1 HI1 HO2 HK3 d0 d1 d2 HLEN HB1 HGG HMX
  generalize w1.setCell ⟨gx,1,none⟩ (.slice (some ⟨g,0,none⟩) cc cc)=w2 at *
  obtain⟨q,hq⟩:∃q:Option Addr,q=some ⟨g,0,none⟩:=⟨_,rfl⟩
  obtain⟨qc,hqc⟩:∃qc:Nat,qc=cc:=⟨_,rfl⟩
  rw[<-hq,<-hqc]at GS
  clear hq hqc
  have c2:w2.cell? ⟨ga,2,none⟩=some v:=GS.out.blk.cell 2
  have g0:w2.cell? ⟨gx,0,none⟩=some (.int .i64 x.N):=(GS.out.item.cell 0).trans (icells_0 _ _ _)
  have c2':(w2.alloc (Obj.cells (icells x q qc).toArray 83)).cell? ⟨ga,2,none⟩=some v:=(GS.out.blk.old _).cell 2
  have ld:=load_item GS.out.goodx.ok GS.out.item.drew
  have bd:=fun w=>build_item w (q:=q) (c:=qc) GS.out.goodx.ok
  have hll:=HLL.out
  obtain⟨i0,hi0,hz0,hz1,hz2⟩:=info_parts item_all3
  have HI0:=Lib.hid hi0
  have HZ0:=Lib.hid hz0
  have HZ1:=Lib.hid hz1
  have HZ2:=Lib.hid hz2
  clear hi0 hz0 hz1 hz2
  have HZS:=Lib.hid (show(Value.agg (icells ⟨0,[],Fld.zero32⟩ none 0).toArray).cells.size=34 by show(icells ⟨0,[],Fld.zero32⟩ none 0).toArray.size=34;rw[List.size_toArray,icells_length item0_ok'])
  go_region_law ((refine step_append_lies _ (by rfl) _ _ _ (by rfl) w0.heap.size 83 i0 _ 34 64 Tryz.underlying81 HI0.out HZ0.out HZ1.out HZ2.out HZS.out (by omega) v l.length _ (by rfl) ((GS.out.own.alloc _).drew) ⟨w2.heap.size,0,none⟩ 1 1 (icells x q qc) (by rfl) (by rw[icells_length GS.out.goodx.ok]) (World.news_of_block (cs:=(icells x q qc).toArray) (t:=83) (fr:=(0,0)) (heap_alloc_new w2 _)) (icells_one x q qc) (by omega) (by unfold maxLen;omega) (by omega) (by have:=GS.out.size;simp;omega) (w2.heap.size+1) (by simp) ?_;intro g5 cap5 w5 hown5 hgrow5 hat5 hlt5;obtain⟨ra5,it5,k5,i5⟩:=GS.out.done HI.out.base (Obj.cells (icells x q qc).toArray 83) ⟨hgrow5.os,hgrow5.tape,hgrow5.output,hgrow5.size,hgrow5.block⟩ hown5 hk1 hll;have s0:w5.cell? ⟨ga,2,none⟩=some v:=k5.cell 2;have s1:w5.frozen? ⟨ga,2,none⟩=false:=k5.free 2;have s2:w5.cell? ⟨gx,0,none⟩=some (.int .i64 x.N):=(i5.cell 0).trans (icells_0 _ _ _);have RA5:=Lib.hid ra5;have IT5:=Lib.hid it5;clear hown5 hgrow5 hat5 ra5 it5 k5 i5))
  all_goals
   go_wp2_with fail
   go_ret2
   exact⟨by rw[HG.out];show Ending.returned (.tuple #[.int .i64 x.N,.int .i64 0])=_;rw[HXN.out],by rw[HG.out];exact RA5.out,IT5.out⟩
end
section
open Go.RowKit Sha
theorem repeat_r {σ:Type} {ga B:Nat} {f:Int->σ->σ×Int×Int} {R:σ->World->Prop}(D:Doer Tryz.prog 113 ga B f R)(g:ByteArray)(gl:List Int)(hgl:gl=nums g)(hg:∀c∈gl,Fld.isC c)(times:Int)(ht:times<=9223372036854775807)(st:σ)(w:World)(hR:R st w)(hs:g.size<=40):
 Calls Tryz.prog 116 #[.string g,.int .i64 times,.func (.func 113) #[.pointer (some ⟨ga,0,none⟩)] #[]] w (RDone R (Fld.rep f gl times.toNat st) w):=by
 have HR:=Lib.hid hR
 have HD:=Lib.hid D
 have HG:=Lib.hid hg
 have HL:=Lib.hid hgl
 have H128:=Lib.hid (show∀c∈nums g,c < 128 from fun c hc=>isC_lt (hg c (by rw[hgl];exact hc)))
 clear hR D hg hgl
 obtain⟨T,hT⟩:∃T,T=times.toNat:=⟨_,rfl⟩
 rw[<-hT]
 have hT1:T=times.toNat:=hT
 have HT:=Lib.hid hT
 clear hT hT1
 go_enter Tryz.func116,Tryz.ntmps116
 go_wp2_with fail
 go_loopg [12] T (fun gh i wr=>∃(k:Nat) (sk:σ),i= .int .i64 k/\gh=T - k/\k<=T/\Hid (Fld.rep f gl T st=Fld.rep f gl (T - k) sk)/\Hid (R sk wr)/\Hid (ItersKept w wr))
 case atStart=>exact⟨0,st,rfl,rfl,by omega,rfl,HR,ItersKept.refl _⟩
 case round=>
  obtain⟨k,sk,rfl,rfl,hk,HE,HK,HO⟩:=hrel
  clear HR
  by_cases hlt:(k:Int) < times
  ·have hkT:k+1<=T:=by have:=HT.out;omega
   have HE1:=Lib.hid (show Fld.rep f gl T st=Fld.rep f gl ((T - (k+1))+1) sk by rw[show T - (k+1)+1=T - k by omega];exact HE.out)
   clear HE
   go_wp2_with fail
   have HI0:=Lib.hid (World.iter_heap wr g 0)
   have HK0:=Lib.hid (HD.out.keepA _ _ (.stringIter g 0) HK.out)
   have HO0:=Lib.hid (ItersBut.new HO.out (.stringIter g 0))
   have HS:=Lib.hid (show(wr.iter g 0)=wr.alloc (.stringIter g 0)from rfl)
   rw[<-HS.out]at HK0 HO0
   clear HS
   have hgb:=HD.out.base _ _ HK.out
   generalize wr.iter g 0=wz at *
   generalize wr.heap.size=gi at *
   go_loopg [8] g.size (fun gh2 c wi=>∃(j:Nat) (sj:σ),j<=g.size/\gh2=g.size - j/\Hid (wi.heap[gi]? = some (.stringIter g j))/\Hid (Fld.once f gl sk=Fld.once f ((nums g).drop j) sj)/\Hid (R sj wi)/\Hid (ItersBut gi w wi))
   case atStart=>exact⟨0,sk,by omega,rfl,HI0,Lib.hid (by rw[List.drop_zero,HL.out]),HK0,HO0⟩
   case round=>
    obtain⟨j,sj,hj,rfl,HI,HF,HJ,HP⟩:=hrel
    clear HI0 HK0 HO0 HK HO
    by_cases hp:j < g.size
    ·obtain⟨c,hn,hd⟩:=next_isL Tryz.prog g j hp H128.out
     have hnx:=fun ty=>hn.run wr gi ty HI.out
     have HC:=Lib.hid (HG.out c (by rw[HL.out];exact List.mem_of_mem_drop (by rw[hd];exact List.mem_cons_self ..)))
     have HI2:=Lib.hid (Lib.iterAt_heap _ _ _ _ (j+1) HI.out)
     have HJ2:=Lib.hid (HD.out.keepI _ _ _ _ _ (j+1) HJ.out hgb HI.out)
     have HP2:=Lib.hid (HP.out.move g (j+1))
     have HF2:=Lib.hid (HF.out.trans (congrArg (fun l=>Fld.once f l sj) hd))
     clear hd hn
     by_cases h0:(f c sj).2.2=0
     ·have h0':((f c sj).2.2 == 0)=true:=by simpa using h0
      have HN:=Lib.hid (HF2.out.trans (once_ok h0))
      have H0:=Lib.hid h0
      clear h0
      go_wp2_with fail
      refine(HD.out.step c sj _ HC.out HJ2.out).mono ?_
      rintro e w2 ⟨rfl,hr2,hi2⟩
      have HR2:=Lib.hid hr2
      have HI3:=Lib.hid (hi2 _ _ _ HI2.out)
      have HP3:=Lib.hid (HP2.out.on hi2)
      clear hr2 hi2
      go_wp2_with fail
      go_roundg (g.size - (j+1))
      case measure=>omega
      case rel=>exact⟨j+1,_,by omega,rfl,HI3,HN,HR2,HP3⟩
     ·have h0':((f c sj).2.2 == 0)=false:=by simpa using h0
      have HN:=Lib.hid (HE1.out.trans (rep_err (HF2.out.trans (once_err h0)) h0))
      clear h0
      go_wp2_with fail
      refine(HD.out.step c sj _ HC.out HJ2.out).mono ?_
      rintro e w2 ⟨rfl,hr2,hi2⟩
      have HR2:=Lib.hid hr2
      have HP3:=Lib.hid (HP2.out.on hi2)
      clear hr2 hi2
      go_wp2_with fail
      try rw[Exit.noGoto_ret]
      go_ret
      exact⟨by rw[HN.out];rfl,by rw[HN.out];exact HR2.out,HP3.out.kept⟩
    ·obtain rfl:j=g.size:=by omega
     have hnx:=fun ty=>Lib.run_next_end_at (P:=Tryz.prog) wr gi g g.size ty HI.out (by omega)
     have HN:=Lib.hid (HE1.out.trans (rep_ok (HF.out.trans (by rw[<-nums_length,List.drop_length];rfl))))
     go_wp2_with fail
     go_roundg (T - (k+1))
     case measure=>omega
     case rel=>exact⟨k+1,sj,by go_num,rfl,by omega,HN,HJ,HP.out.kept⟩
  ·have HZ:=Lib.hid (show Fld.rep f gl T st=(sk,0) by rw[HE.out,show T - k=0 by have:=HT.out;omega];rfl)
   go_wp2_with fail
   go_ret
   exact⟨by rw[HZ.out];rfl,by rw[HZ.out];exact HK.out,HO.out⟩
theorem walk_r {σ:Type} {ga B:Nat} {f:Int->σ->σ×Int×Int} {R:σ->World->Prop}(D:Doer Tryz.prog 113 ga B f R)(s:ByteArray)(hs:s.size<=40)(hc:Fld.chkL (nums s) false false=true)(st:σ)(w:World)(hR:R st w):
 Calls Tryz.prog 83 #[.string s,.func (.func 113) #[.pointer (some ⟨ga,0,none⟩)] #[]] w (RDone R (Fld.walkL f none 0 (nums s) st) w):=by
 have H128:=Lib.hid (chkL_lt _ _ _ hc)
 have HW0:=Lib.hid (show WRel f (nums s) st 0 0 0 none false st from⟨Or.inl ⟨rfl,rfl⟩,by simp,by rw[List.drop_zero];exact hc,by rw[List.drop_zero]⟩)
 have HD:=Lib.hid D
 have HR:=Lib.hid hR
 clear hc D hR
 obtain⟨l,hl⟩:∃l,l=nums s:=⟨_,rfl⟩
 rw[<-hl]at HW0 H128 ⊢
 have HL:=Lib.hid hl
 have HS:=Lib.hid (show l.length=s.size by rw[hl,nums_length])
 clear hl
 go_enter Tryz.func83,Tryz.ntmps83
 go_wp2_with fail
 go_step3
 go_wp2_with fail
 go_step3
 go_wp2_with fail
 have HI0:=Lib.hid (World.iter_heap w s 0)
 have HK0:=Lib.hid (HD.out.keepA _ _ (.stringIter s 0) HR.out)
 have HO0:=Lib.hid (ItersBut.new (ItersKept.refl w) (.stringIter s 0))
 have HZ:=Lib.hid (show(w.iter s 0)=w.alloc (.stringIter s 0)from rfl)
 rw[<-HZ.out]at HK0 HO0
 have hgb:=HD.out.base _ _ HR.out
 clear HZ HR
 generalize w.iter s 0=wz at *
 obtain⟨gi,hgi⟩:∃gi,gi=w.heap.size:=⟨_,rfl⟩
 rw[<-hgi]at HI0 HO0 hgb ⊢
 clear hgi
 go_loopg [5,6] s.size (fun gh b t wr=>∃(k bg:Nat) (tt:Int) (gO:Option (List Int)) (kk:Bool) (sk:σ),k<=s.size/\gh=s.size - k/\b= .int .i64 bg/\t= .int .i64 tt/\tt<=9223372036854775807/\Hid (wr.heap[gi]? = some (.stringIter s k))/\Hid (WRel f l st k bg tt gO kk sk)/\Hid (R sk wr)/\Hid (ItersBut gi w wr))
 case atStart=>exact⟨0,0,0,none,false,st,by omega,rfl,rfl,rfl,by omega,HI0,HW0,HK0,HO0⟩
 case round=>
  obtain⟨k,bg,tt,gO,kk,sk,hk,rfl,rfl,rfl,htt,HI,HW,HJ,HP⟩:=hrel
  clear HI0 HK0 HO0 HW0
  by_cases hp:k < s.size
  ·obtain⟨c,hn,hd⟩:=next_isL Tryz.prog s k hp (by rw[<-HL.out];exact H128.out)
   rw[<-HL.out]at hd
   have hnx:=fun ty=>hn.run wr gi ty HI.out
   have HI2:=Lib.hid (Lib.iterAt_heap _ _ _ _ (k+1) HI.out)
   have HJ2:=Lib.hid (HD.out.keepI _ _ _ _ _ (k+1) HJ.out hgb HI.out)
   have HP2:=Lib.hid (HP.out.move s (k+1))
   have HDR:=Lib.hid hd
   clear hd hn
   cases gO with
   | none=>
      have hbg:bg=0:=by
       rcases HW.out.grp with h | ⟨cs,h,_⟩
       ·exact h.2
       ·cases h
      subst hbg
      have hck:=HW.out.chk
      rw[HDR.out]at hck
      by_cases h0:(f c sk).2.2=0
      ·have h0':((f c sk).2.2 == 0)=true:=by simpa using h0
       have hlim:=(HD.out.lim c sk _ HJ.out).1
       rcases chkL_none hck with⟨hC,h40,_⟩ | ⟨h40,_⟩
       ·have HN:=Lib.hid (HW.out.one HDR.out h40 h0)
        have HC:=Lib.hid hC
        have t40:(c == 40)=false:=by simpa using h40
        have t41:(c == 41)=false:=by rw[beq_eq_false_iff_ne];unfold Fld.isC at hC;omega
        clear h0 hck h40 hC
        go_wp2_with fail
        refine(HD.out.step c sk _ HC.out HJ2.out).mono ?_
        rintro e w2 ⟨rfl,hr2,hi2⟩
        have HR2:=Lib.hid hr2
        have HI3:=Lib.hid (hi2 _ _ _ HI2.out)
        have HP3:=Lib.hid (HP2.out.on hi2)
        clear hr2 hi2
        go_wp2_with fail
        go_roundg (s.size - (k+1))
        case measure=>omega
        case rel=>exact⟨k+1,0,_,none,true,_,by omega,rfl,rfl,rfl,hlim,HI3,HN,HR2,HP3⟩
       ·subst h40
        have HN:=Lib.hid (HW.out.open_ HDR.out rfl h0)
        have HC:=Lib.hid (show Fld.isC 40 from Or.inr (Or.inr (Or.inr rfl)))
        clear h0 hck
        go_wp2_with fail
        refine(HD.out.step 40 sk _ HC.out HJ2.out).mono ?_
        rintro e w2 ⟨rfl,hr2,hi2⟩
        have HR2:=Lib.hid hr2
        have HI3:=Lib.hid (hi2 _ _ _ HI2.out)
        have HP3:=Lib.hid (HP2.out.on hi2)
        clear hr2 hi2
        go_wp2_with fail
        go_roundg (s.size - (k+1))
        case measure=>omega
        case rel=>exact⟨k+1,k+1,_,some [],false,_,by omega,rfl,by go_num,rfl,hlim,HI3,HN,HR2,HP3⟩
      ·have h0':((f c sk).2.2 == 0)=false:=by simpa using h0
       have HN:=Lib.hid (HW.out.walk.trans ((congrArg (fun x=>Fld.walkL f none tt x sk) HDR.out).trans (walk_err h0)))
       rcases chkL_none hck with⟨hC,h40,_⟩ | ⟨h40,_⟩
       ·have HC:=Lib.hid hC
        have t40:(c == 40)=false:=by simpa using h40
        have t41:(c == 41)=false:=by rw[beq_eq_false_iff_ne];unfold Fld.isC at hC;omega
        clear h0 hck h40 hC
        go_wp2_with fail
        refine(HD.out.step c sk _ HC.out HJ2.out).mono ?_
        rintro e w2 ⟨rfl,hr2,hi2⟩
        have HR2:=Lib.hid hr2
        have HP3:=Lib.hid (HP2.out.on hi2)
        clear hr2 hi2
        go_wp2_with fail
        try rw[Exit.noGoto_ret]
        go_ret
        exact⟨by rw[HN.out];rfl,by rw[HN.out];exact HR2.out,HP3.out.kept⟩
       ·subst h40
        have HC:=Lib.hid (show Fld.isC 40 from Or.inr (Or.inr (Or.inr rfl)))
        clear h0 hck
        go_wp2_with fail
        refine(HD.out.step 40 sk _ HC.out HJ2.out).mono ?_
        rintro e w2 ⟨rfl,hr2,hi2⟩
        have HR2:=Lib.hid hr2
        have HP3:=Lib.hid (HP2.out.on hi2)
        clear hr2 hi2
        go_wp2_with fail
        try rw[Exit.noGoto_ret]
        go_ret
        exact⟨by rw[HN.out];rfl,by rw[HN.out];exact HR2.out,HP3.out.kept⟩
   | some cs=>
      obtain⟨hb0,hbk,hcs⟩:0 < bg/\bg<=k/\cs=(l.take k).drop bg:=by
       rcases HW.out.grp with h | ⟨cs',h,h1,h2,h3⟩
       ·cases h.1
       ·cases h;exact⟨h1,h2,h3⟩
      by_cases h41:c=41
      ·subst h41
       have HX:=Lib.hid (show cs=nums (s.extract bg k) by rw[nums_extract,<-HL.out];exact hcs)
       have HXL:=Lib.hid (show(s.extract bg k).size<=40 by rw[ByteArray.size_extract];omega)
       clear hcs
       obtain⟨r,hr⟩:∃r,r=Fld.rep f cs tt.toNat sk:=⟨_,rfl⟩
       obtain⟨sk',er⟩:=r
       have HRP:=Lib.hid hr
       clear hr
       by_cases h0:er=0
       ·have HN:=Lib.hid (HW.out.shut HDR.out (by rw[<-HRP.out,h0]))
        have h0':(er == 0)=true:=by simpa using h0
        clear h0
        go_wp2_with fail
        refine(repeat_r HD.out _ cs HX.out (HW.out.ok cs rfl) tt htt sk _ HJ2.out HXL.out).mono ?_
        rw[<-HRP.out]
        rintro e w2 ⟨rfl,hr2,hi2⟩
        have HR2:=Lib.hid hr2
        have HI3:=Lib.hid (hi2 _ _ _ HI2.out)
        have HP3:=Lib.hid (HP2.out.on hi2)
        clear hr2 hi2
        go_wp2_with fail
        try rw[Exit.noGoto_ret]
        go_roundg (s.size - (k+1))
        case measure=>omega
        case rel=>exact⟨k+1,0,tt,none,kk,sk',by omega,rfl,rfl,rfl,htt,HI3,HN,HR2,HP3⟩
       ·have HN:=Lib.hid (HW.out.walk.trans ((congrArg (fun x=>Fld.walkL f (some cs) tt x sk) HDR.out).trans (walk_bad HRP.out.symm h0)))
        have h0':(er == 0)=false:=by simpa using h0
        clear h0
        go_wp2_with fail
        refine(repeat_r HD.out _ cs HX.out (HW.out.ok cs rfl) tt htt sk _ HJ2.out HXL.out).mono ?_
        rw[<-HRP.out]
        rintro e w2 ⟨rfl,hr2,hi2⟩
        have HR2:=Lib.hid hr2
        have HP3:=Lib.hid (HP2.out.on hi2)
        clear hr2 hi2
        go_wp2_with fail
        try rw[Exit.noGoto_ret]
        go_ret
        exact⟨by rw[HN.out];rfl,by rw[HN.out];exact HR2.out,HP3.out.kept⟩
      ·have HN:=Lib.hid (HW.out.in_ HDR.out h41)
       have t41:(c == 41)=false:=by simpa using h41
       clear h41 hcs
       go_wp2_with fail
       try rw[Exit.noGoto_ret]
       go_roundg (s.size - (k+1))
       case measure=>omega
       case rel=>exact⟨k+1,bg,tt,_,true,sk,by omega,rfl,rfl,rfl,htt,HI2,HN,HJ2,HP2⟩
  ·obtain rfl:k=s.size:=by omega
   have hnx:=fun ty=>Lib.run_next_end_at (P:=Tryz.prog) wr gi s s.size ty HI.out (by omega)
   have HN:=Lib.hid (HW.out.walk.trans ((congrArg (fun x=>Fld.walkL f gO tt x sk) (show l.drop s.size= [] by rw[<-HS.out,List.drop_length])).trans walk_end))
   go_wp2_with fail
   go_ret
   exact⟨by rw[HN.out];rfl,by rw[HN.out];exact HJ.out,HP.out.kept⟩
end
end Go.Proofs.YtokpabkcaofahaaGreat
