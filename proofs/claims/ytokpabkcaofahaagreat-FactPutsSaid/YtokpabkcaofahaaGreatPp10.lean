/-
  What stands under factPuts_holds: part 10.
-/
import Derived.Test.YtokpabkcaofahaaGreatPp9
import Derived.Test.YtokpabkcaofahaaGreatPp1
import Derived.Test.YtokpabkcaofahaaGreatPp6
namespace Go.Proofs.YtokpabkcaofahaaGreat
set_option linter.unusedSimpArgs false
set_option linter.unusedVariables false
set_option maxRecDepth 100000
set_option maxHeartbeats 20000000
section
open Go.RowKit Sha
theorem filled_any (zs:List Int)(len:Nat)(p:Option Addr)(cap:Nat)(w:World)(hn:zs.length=len)(hl:len<=100000)(hA:At w p (zs.map v8))(hc:len<=cap)(hp:p=none->cap=0):
 Calls Tryz.prog 125 #[.slice p len cap] w
  fun e w'=>∃v,e= .returned v/\w'.ownsRow w.heap.size 5 1 v (filled zs).length ((filled zs).map v8)/\Below w.heap.size w w':=by
 have Hlen:=Lib.hid hn
 have HA:=Lib.hid hA
 have hown0:=World.ownsRow_made (base:=w.heap.size) (size:=1) (e:=5) w #[] 0 (Nat.le_refl _) (by decide) rfl
 have HO0:=Lib.hid hown0
 clear hn hA hown0
 go_enter Tryz.func125,Tryz.ntmps125
 go_wp2_with (first
  | (at_builtin;refine wpList_app rfl (.tmp 6) (.tmp 7) 26 rfl w.heap.size 5 Tryz.underlying26 byte_info rfl _ 0 [] rfl HO0.out p len cap (zs.map v8) rfl (HA.out.alloc _) (by simp[Hlen.out]) hp hc (one8l _) (by omega) (by unfold maxLen;omega) (by simp) ?_;intro v2 w2 hown2 _ hb2 hs2 _;simp only[Nat.zero_add,List.nil_append]at hown2)
  | (at_builtin;refine wpList_app rfl (.tmp 9) (.tmp 10) 26 rfl w.heap.size 5 Tryz.underlying26 byte_info rfl _ _ _ rfl (hown2.alloc _) _ 1 1 [v8 128] rfl (at_one _ _ _) rfl (by simp) (Nat.le_refl _) (one8l [128]) (by omega) (by unfold maxLen;omega) (by simp;omega) ?_;intro v3 w3 hown3 _ hb3 hs3 _))
 have hb4:Below w.heap.size w w3:=((((Below.refl w.heap.size w).alloc (Nat.le_refl _) _).trans hb2).alloc hs2 _).trans hb3
 have hown4:w3.ownsRow w.heap.size 5 1 v3 (len+1) ((zs++[128]).map v8):=by simpa using hown3
 clear hown2 hb2 hs2 hown3 hb3
 go_loopw [3] (fun v wr=>∃k:Nat,k<=noughts (len % 64)/\wr.ownsRow w.heap.size 5 1 v (len+1+k) ((zs++[128]++List.replicate k 0).map v8)/\Below w.heap.size w wr/\w.heap.size<=wr.heap.size) (fun v _=>200000 - lenOf v)
 case atStart=>exact⟨0,by omega,by simpa using hown4,hb4,hs3⟩
 case round=>
  clear hown4 hb4 hs3
  obtain⟨k,hk,hown,hb,hs⟩:=hrel
  obtain⟨g,c,rfl,hg,hmc,hcm,hgs⟩:=own_form hown (by omega)
  have HK:=Lib.hid hk
  have hle:=noughts_bd len
  have n1:=noughts_mod len k
  have n2:=noughts_end len
  obtain⟨m,hm⟩:∃m,m=len+1+k:=⟨_,rfl⟩
  rw[<-hm]at hown hmc n1 ⊢
  have hmle:m<=100121:=by omega
  have hm1:1<=m:=by omega
  have HM:=Lib.hid hm
  by_cases hlt:k < noughts (len % 64)
  ·have t1:(((m:Int) % 64) != 56)=true:=by rw[bne_iff_ne];have:=n1 hlt;omega
   have t2:(((m:Int) % 64) == 56)=false:=by rw[beq_eq_false_iff_ne];have:=n1 hlt;omega
   have HO:=Lib.hid hown
   clear hown hm n1 n2 hk hle
   go_wp2_with (at_builtin;refine wpList_app rfl (.tmp 16) (.tmp 17) 26 rfl w.heap.size 5 Tryz.underlying26 byte_info rfl _ _ _ rfl (HO.out.alloc _) _ 1 1 [v8 0] rfl (at_one _ _ _) rfl (by simp) (Nat.le_refl _) (one8l [0]) (by omega) (by unfold maxLen;omega) (by simp;omega) ?_;intro v3 w3 hown3 _ hb3 hs3 _)
   have hown5:w3.ownsRow w.heap.size 5 1 v3 (len+1+(k+1)) ((zs++[128]++List.replicate (k+1) 0).map v8):=by
    rw[HM.out]at hown3
    rw[List.replicate_succ',show len+1+(k+1)=len+1+k+1 by omega];simpa using hown3
   go_roundw
   case rel=>exact⟨k+1,by omega,hown5,(hb.alloc hs _).trans hb3,hs3⟩
   case measure=>
    obtain⟨g',c',rfl,_⟩:=own_form hown5 (by omega)
    have:=HM.out
    simp[lenOf];omega
  ·have hkn:k=noughts (len % 64):=by omega
   have t1:(((m:Int) % 64) != 56)=false:=by rw[bne_eq_false_iff_eq];rw[hkn]at hm;omega
   have t2:(((m:Int) % 64) == 56)=true:=by rw[beq_iff_eq];rw[hkn]at hm;omega
   have HO:Hid (wr.ownsRow w.heap.size 5 1 (.slice (some ⟨g,0,none⟩) m c) m ((zs++[128]++List.replicate (noughts (len % 64)) 0).map v8)):=by rw[<-hkn];exact hown
   clear hown hm n1 n2 hk hle hkn HK HM
   go_wp2_with fail
   obtain⟨base,hbase⟩:∃l,l=zs++[128]++List.replicate (noughts (len % 64)) 0:=⟨_,rfl⟩
   rw[<-hbase]at HO
   have HB:=Lib.hid hbase
   clear hbase
   go_loopw [3,5] (fun v i wr=>∃k:Nat,k<=8/\i= .int .i64 (7 - (k:Int))/\wr.ownsRow w.heap.size 5 1 v (m+k) ((base++lenUpto len k).map v8)/\Below w.heap.size w wr/\w.heap.size<=wr.heap.size) (fun _ i _=>(intOf i+1).toNat)
   case atStart=>exact⟨0,by omega,rfl,by rw[lenUpto_zero,List.append_nil];exact HO.out,hb,hs⟩
   case round=>
    clear HO hb hs hg hgs hmc
    obtain⟨k,hk,rfl,hown,hb,hs⟩:=hrel
    obtain⟨g,c,rfl,hg,hmc,hcm,hgs⟩:=own_form hown (by omega)
    have HO:=Lib.hid hown
    clear hown
    by_cases hlt:k < 8
    ·obtain⟨j,hj⟩:∃j,j+k=7:=⟨7 - k,by omega⟩
     have e1:(7:Int) - (k:Int)=(j:Int):=by omega
     rw[e1]
     have HJ:=Lib.hid hj
     have j7:j<=7:=by omega
     clear e1 hj
     go_wp2_with (at_builtin;refine wpList_app rfl (.tmp 27) (.tmp 34) 26 rfl w.heap.size 5 Tryz.underlying26 byte_info rfl _ _ _ rfl (HO.out.alloc _) _ 1 1 [_] rfl (at_one _ _ _) rfl (by simp) (Nat.le_refl _) (by simp[Value.oneCell']) (by omega) (by unfold maxLen;omega) (by simp;omega) ?_;intro v3 w3 hown3 _ hb3 hs3 _)
     have hown5:w3.ownsRow w.heap.size 5 1 v3 (m+(k+1)) ((base++lenUpto len (k+1)).map v8):=by
      rw[lenUpto_succ]
      have h56:56 - 8*k=8*j:=by have:=HJ.out;omega
      have hlb:lenByte len k=(len:Int)*8 / 2 ^ (8*j) % 256:=by
       unfold lenByte
       rw[h56,show IntKind.u64.wrap ((len:Int)*8)=(len:Int)*8 by rw[IntKind.wrap_u64];omega]
      rw[hlb]
      simpa[Nat.add_assoc]using hown3
     go_roundw
     case rel=>exact⟨k+1,by omega,by rw[show(7:Int) - ((k+1:Nat):Int)=(j:Int) - 1 by have:=HJ.out;omega],hown5,(hb.alloc hs _).trans hb3,hs3⟩
     case measure=>simp[intOf];try omega
    ·obtain rfl:k=8:=by omega
     have HL:Hid (m+8=(filled zs).length/\base++lenUpto len 8=filled zs):=by
      have e:base++lenUpto len 8=filled zs:=by rw[HB.out,filled_eq,Hlen.out]
      refine⟨?_,e⟩
      have:=HO.out.1
      rw[e]at this;simpa using this.symm
     go_wp2_with fail
     go_ret
     refine⟨_,rfl,?_,hb⟩
     rw[<-HL.out.1,<-HL.out.2]
     exact HO.out
end
section
open Go.RowKit Sha
theorem At.setFar {w:World} {g:Nat} {cs:List Value} {a:Addr} {v:Value}(h:At w (some ⟨g,0,none⟩) cs)(hn:a.block≠g):At (w.setCell a v) (some ⟨g,0,none⟩) cs:=by
 rcases h with h | ⟨b,off,ha,hc⟩
 ·exact Or.inl h
 ·cases ha
  exact Or.inr ⟨g,0,rfl,fun i u hi=>by rw[World.cell?_setCell_other _ _ _ _ (fun e=>hn (by rw[e]))];exact hc i u hi⟩
theorem rdsum_any (zs:List Int)(len:Nat)(p:Option Addr)(cap:Nat)(w:World)(hn:zs.length=len)(hl:len<=100000)(hz:∀n∈zs,0<=n/\n<=255)(hA:At w p (zs.map v8))(hc:len<=cap)(hp:p=none->cap=0):
 Calls Tryz.prog 91 #[.slice p len cap] w fun e w'=>e= .returned (.agg ((Sha.sum zs).map v8).toArray)/\Below w.heap.size w w':=by
 have Hlen:=Lib.hid hn
 have HA:=Lib.hid hA
 clear hn hA
 go_enter Tryz.func91,Tryz.ntmps91
 go_wp2_with (refine wpList_alloc_arr rfl 25 rfl _ info26 ?_)
 have F0:=Lib.hid (Blk.new w (zero32.map v8).toArray 25)
 have HB0:=Lib.hid ((Below.refl w.heap.size w).alloc (Nat.le_refl _) (Obj.cells (zero32.map v8).toArray 25))
 have HA0:=Lib.hid (HA.out.alloc (Obj.cells (zero32.map v8).toArray 25))
 generalize w.alloc (Obj.cells (zero32.map v8).toArray 25)=w0 at *
 refine(rfirst_any w0).mono ?_
 rintro e w1 ⟨gs,rfl,hs1,hb1⟩
 have F1:=Lib.hid (F0.out.below hb1 F0.out.lt)
 have HB1:=Lib.hid (HB0.out.trans (hb1.mono HB0.out.size))
 have HA1:=Lib.hid (HA0.out.below hb1)
 have HS1:=Lib.hid hs1
 clear hs1 hb1 F0 HB0 HA0
 go_wp2_with fail
 refine(rconst_any w1).mono ?_
 rintro e w2 ⟨gk,rfl,hk2,hb2⟩
 have F2:=Lib.hid (F1.out.below hb2 F1.out.lt)
 have HB2:=Lib.hid (HB1.out.trans (hb2.mono HB1.out.size))
 have HA2:=Lib.hid (HA1.out.below hb2)
 have HS2:=Lib.hid (HS1.out.below hb2)
 have HK2:=Lib.hid hk2
 clear hk2 hb2 F1 HB1 HA1 HS1
 go_wp2_with fail
 refine(filled_any zs len p cap w2 Hlen.out hl HA2.out hc hp).mono ?_
 rintro e w3 ⟨v,rfl,hown,hb3⟩
 obtain⟨N,hN⟩:∃N,N=(filled zs).length / 64:=⟨_,rfl⟩
 have hfl:=filled_length zs
 have hM:(filled zs).length=N*64:=by omega
 have hN1:1<=N:=by
  rw[filled_eq]at hfl hM
  simp only[List.length_append,List.length_singleton]at hM
  omega
 have hN2:N<=1600:=by rw[Hlen.out]at hfl;omega
 rw[hM]at hown
 obtain⟨gm,cm,rfl,hgm,hmc,hmm,hgm3⟩:=own_form hown (by omega)
 unfold maxLen at hmm
 have HM:=Lib.hid (own_at_g32 hown)
 have HSUM:=Lib.hid (sum_filled zs)
 rw[<-hN]at HSUM
 have HFB:=Lib.hid (filled_bd zs hz)
 have HFL:=Lib.hid hM
 obtain⟨F,hF⟩:∃F,F=filled zs:=⟨_,rfl⟩
 rw[<-hF]at HM HSUM HFB HFL
 have F3:=Lib.hid (F2.out.below hb3 F2.out.lt)
 have HB3:=Lib.hid (HB2.out.trans (hb3.mono HB2.out.size))
 have HS3:=Lib.hid (HS2.out.below hb3)
 have HK3:=Lib.hid (HK2.out.below hb3)
 clear hown hb3 F2 HB2 HA2 HS2 HK2 hN hfl hM hF
 go_wp2_with fail
 go_loopw [3,6] (fun v i wr=>∃(k g c:Nat),k<=N/\i= .int .i64 ((k:Int)*64)/\v= .slice (some ⟨g,0,none⟩) 8 c/\8<=c/\At wr (some ⟨g,0,none⟩) ((thru first8 kList F k).map v32)/\Below w3.heap.size w3 wr) (fun _ i _=>200000 - (intOf i).toNat)
 case atStart=>exact⟨0,gs,8,by omega,rfl,rfl,by omega,by rw[thru_zero];exact HS3.out,Below.refl _ _⟩
 case round=>
  obtain⟨k,g,c,hk,rfl,rfl,hc8,hAt,hb⟩:=hrel
  have HAt:=Lib.hid hAt
  have HB:=Lib.hid hb
  clear hAt hb
  by_cases hlt:k < N
  ·have HCUT:Hid (∀w,(Instr.sliceAt 26 (.slice (some ⟨gm,0,none⟩) (N*64) cm) (some (.int .i64 ((k:Int)*64))) (some (.int .i64 ((k:Int)*64+64))) none).run Tryz.prog w= .ok (cutV (some ⟨gm,0,none⟩) (k*64) ((k+1)*64) cm) w):=fun w=>by
    have:=run_cut_lh (P:=Tryz.prog) 26 5 (some ⟨gm,0,none⟩) (N*64) cm Tryz.underlying26 slice1 .i64 .i64 ((k:Int)*64) ((k:Int)*64+64) (by omega) (by omega) (by omega) w
    rwa [show((k:Int)*64).toNat=k*64 by omega,show((k:Int)*64+64).toNat=(k+1)*64 by omega]at this
   have hml:(F.map v8).length<=cm:=by rw[List.length_map,HFL.out];omega
   have HPL:=Lib.hid (part_length F k (by rw[HFL.out];omega))
   have HPB:=Lib.hid (part_mem F k _ HFB.out)
   go_wp2_with (refine wpList_cut rfl 26 _ _ _ rfl (some ⟨gm,0,none⟩) (k*64) ((k+1)*64) cm HCUT.out (F.map v8) (HM.out.below HB.out) hml (fun p' hA'=>?_);rw[part_map]at hA';have HP:=Lib.hid hA';clear hA';rw[show(k+1)*64 - k*64=64 by omega])
   refine(rblock_any (thru first8 kList F k) (Sha.part F k) g c gk p' _ wr (by rw[thru_length,first8_length]) HPL.out HPB.out HAt.out (HK3.out.below HB.out) HP.out hc8).mono ?_
   rintro e w4 ⟨g4,c4,rfl,hc4,hA4,hb4⟩
   go_wp2_with fail
   go_roundw
   case rel=>exact⟨k+1,g4,c4,by omega,by rw[show((k+1:Nat):Int)*64=(k:Int)*64+64 by omega],rfl,hc4,by rw[thru_succ];exact hA4,HB.out.trans (hb4.mono HB.out.size)⟩
   case measure=>simp[intOf];omega
  ·obtain rfl:k=N:=by omega
   obtain⟨st,hst⟩:∃st,st=thru first8 kList F k:=⟨_,rfl⟩
   rw[<-hst]at HAt HSUM
   have hstl:st.length=8:=by rw[hst,thru_length,first8_length]
   have HL:=Lib.hid hstl
   have HGA:=HAt
   have F4:=Lib.hid (F3.out.below HB.out F3.out.lt)
   have HB4:=Lib.hid (HB3.out.trans (HB.out.mono HB3.out.size))
   clear hst hstl
   go_wp2_with (refine wpList_alloc_arr rfl 25 rfl _ info26 ?_)
   have z4:=HB4.out.size
   have z5:w.heap.size < wr.heap.size:=F4.out.lt
   obtain⟨G,hG⟩:∃G,G=wr.heap.size:=⟨_,rfl⟩
   have F5:=Lib.hid (F4.out.old (Obj.cells (zero32.map v8).toArray 25))
   have FO:=Lib.hid (Blk.new wr (zero32.map v8).toArray 25)
   have HS5:=Lib.hid (HAt.out.alloc (Obj.cells (zero32.map v8).toArray 25))
   have HB5:=Lib.hid (HB4.out.alloc z4 (Obj.cells (zero32.map v8).toArray 25))
   have z6:(wr.alloc (Obj.cells (zero32.map v8).toArray 25)).heap.size=wr.heap.size+1:=by simp
   rw[<-hG]at FO z4 z5 z6 ⊢
   generalize wr.alloc (Obj.cells (zero32.map v8).toArray 25)=w5 at *
   have HG:=Lib.hid hG
   clear hG F4 HB4 HAt
   go_loopw [8] (fun i wq=>∃j:Nat,j<=32/\i= .int .i64 j/\Below w.heap.size w wq/\Blk wq w.heap.size (zero32.map v8) 25/\At wq (some ⟨g,0,none⟩) (st.map v32)/\g < G/\Blk wq G ((tellUpto st j).map v8) 25) (fun i _=>32 - (intOf i).toNat)
   case atStart=>
    refine⟨0,by omega,rfl,HB5.out,F5.out,HS5.out,?_,by rw[tellUpto_zero];exact FO.out⟩
    have:=World.block_lt_of_cell? wr _ (at_cell32 HGA.out 0 (by rw[HL.out];omega))
    rw[HG.out];exact this
   case round=>
    obtain⟨j,hj,rfl,hb,h0,hS,hgG,h2⟩:=hrel
    have H0:=Lib.hid h0
    have H2:=Lib.hid h2
    have HS:=Lib.hid hS
    clear h0 h2 hS
    by_cases hlt:j < 32
    ·obtain⟨x,hx⟩:∃x,x=st.getD (j / 4) 0:=⟨_,rfl⟩
     have c0:=at_cell32 HS.out (j / 4) (by rw[HL.out];omega)
     rw[<-hx]at c0
     have c2:wr.cell? ⟨G,j,none⟩=some (v8 ((tellUpto st j).getD j 0)):=by
      rw[H2.out.cell,List.getElem?_map,List.getElem?_eq_getElem (by rw[tellUpto_length];omega)];simp[tellUpto_length,hlt]
     have cf:wr.frozen? ⟨G,j,none⟩=false:=H2.out.free _
     have HX:=Lib.hid hx
     clear hx
     have y0:(0:Int)<=24 - 8*((j:Int) % 4):=by omega
     have y1:24 - 8*((j:Int) % 4)<=(32:Int):=by omega
     have y2:8*((j:Int) % 4)<=(24:Int):=by omega
     go_wp2_with fail
     go_roundw
     case rel=>
      refine⟨j+1,by omega,by go_num,hb.setCell (by simp;omega) _,H0.out.setOther _ _ (by simp;omega),?_,hgG,?_⟩
      ·exact HS.out.setFar (by simp;omega)
      ·rw[tellUpto_succ st j (U x / 2 ^ (24 - 8*(j % 4)) % 256) (by rw[HX.out];rfl)]
       exact H2.out.set _ _
     case measure=>simp[intOf];omega
    ·obtain rfl:j=32:=by omega
     have hsz2:(Tryz.prog.info? 25).map (fun i=>i.size)=some ((tellUpto st 32).map v8).toArray.size:=by rw[size26];simp[tellUpto_length]
     go_wp2_with (first
      | (refine wpList_load_row rfl 25 _ rfl _ rfl _ _ _ _ H2.out (Tryz.underlying25) rfl hsz2 ?_)
      | (refine wpList_store_row rfl 25 _ _ rfl _ _ rfl rfl _ _ H0.out hsz2 (by simp[zero32_length,tellUpto_length]) (one8 _) ?_))
     refine bodyPost_ret (v:=.agg ((tellUpto st 32).map v8).toArray) ?_ rfl ⟨by rw[HSUM.out],Below.setRow hb (Nat.le_refl _) _⟩
     exact results_cell_row rfl _ _ _ _ _ _ _ rfl (H0.out.row _) (Tryz.underlying25) rfl hsz2
end
end Go.Proofs.YtokpabkcaofahaaGreat
