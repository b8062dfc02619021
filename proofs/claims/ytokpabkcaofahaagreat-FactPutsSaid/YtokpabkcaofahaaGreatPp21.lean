/-
  What stands under factPuts_holds: part 21.
-/
import Derived.Test.YtokpabkcaofahaaGreatPp2
import Derived.Test.YtokpabkcaofahaaGreatPp4
import Derived.Test.YtokpabkcaofahaaGreatPp3
import Derived.Deep.RegionLaw
import Derived.Test.YtokpabkcaofahaaGreatPp7
import Derived.Test.YtokpabkcaofahaaGreatPp19
import Derived.Test.YtokpabkcaofahaaGreatPp20
namespace Go.Proofs.YtokpabkcaofahaaGreat
set_option linter.unusedSimpArgs false
set_option linter.unusedVariables false
set_option maxRecDepth 100000
set_option maxHeartbeats 20000000
section
open Go.RowKit Sha Fct
theorem info_B:(Tryz.prog.info? 93).map (fun i=>(i.zero,i.size,i.bytes))=some (some (.agg (bcells (Fld.zero32,[]) none 0).toArray),33,56):=by unfold bcells;kernel_rfl
theorem isize_B:(Tryz.prog.info? 93).map (fun i=>i.size)=some 33:=by
 have h:=info_B
 cases hq:Tryz.prog.info? 93 with
 | none=>rw[hq]at h;cases h
 | some i=>rw[hq]at h;simp at h;simp[h.2.1]
theorem zlen_B:(bcells (Fld.zero32,[]) none 0).length=33:=by unfold bcells;simp[Fld.zero32]
theorem zsize_B:(Value.agg (bcells (Fld.zero32,[]) none 0).toArray).cells.size=33:=by simp only[Value.cells,List.size_toArray];exact zlen_B
theorem execOp_sliceB (ρ:Operand->Value)(dst:Option Tmp)(x:Operand)(lo hi:Option Operand)(ty:TypeId)(pos:String)(after:Array Edge)(guard:Option (Nat×Bool)):
 execOp ρ {dst:=dst,op:=.slice 41 x lo hi none,type:=ty,pos:=pos,after:=after,guard:=guard}= sliceOp 41 (ρ x) (lo.map ρ) (hi.map ρ):=by unfold sliceOp;rfl
def InsB (w:World)(B:Nat)(v:Value)(n:Nat)(xs:List Value)(e:Ending)(w':World):Prop:=
 ∃v',e= .returned v'/\w'.ownsRow B 93 33 v' n xs/\w.grownBy w' v.ownBlock/\(∀g,v'.ownBlock=some g->v.ownBlock=some g\/w.heap.size<=g)
attribute [local go_sem ↓] execOp_sliceB
theorem cut_lB (p:Option Addr)(len cap k:Nat)(hk:k<=len)(hc:len<=cap)(w:World):(sliceOp 41 (.slice p len cap) (some (.int .i64 k)) none).run Tryz.prog w= .ok (.value (.slice (if cap=k then p else p.map (·.add (k*33))) (len - k) (cap - k))) w:=
 run_sliceOp (run_cutS_l Tryz.underlying41 isize_B p len cap k hk hc w)
theorem cut_hB (p:Option Addr)(len cap k:Nat)(hk:k<=cap)(w:World):(sliceOp 41 (.slice p len cap) none (some (.int .i64 k))).run Tryz.prog w= .ok (.value (.slice p k cap)) w:=
 run_sliceOp (run_cutS_h Tryz.underlying41 isize_B p len cap k hk w)
theorem insEnd_B (w:World)(B:Nat)(v:Value)(n:Nat)(xs:List Value)(ho:w.ownsRow B 93 33 v n xs)(pb:Nat)(c:List Value)(hc:c.length=33)(h1:∀u∈c,u.oneCell'=true)(hb:Blk w pb c 93)(hn:n<=1000000000)(hB:B<=w.heap.size):
 Calls Tryz.prog 150 #[v,.int .i64 n,.slice (some ⟨pb,0,none⟩) 1 1] w (InsB w B v (n+1) (xs++c)):=by
 obtain⟨p,cap,rfl,hle,hmx,hA,hB2,hnil⟩:=own_at_s ho
 have k1:=cut_lB p n cap n (Nat.le_refl _) hle w
 generalize(if cap=n then p else p.map (·.add (n*33)))=p1 at *
 have HO:=Lib.hid ho
 have hA1:=Lib.hid (show At w (some ⟨pb,0,none⟩) c from At.ofBlk (rest:=[]) (by simpa using hb))
 have HC:=Lib.hid hc
 have H1:=Lib.hid h1
 clear ho hc h1 hb hA hB2 hnil
 unfold maxLen at hmx
 go_enter Tryz.func150,Tryz.ntmps150
 go_wp2_with (at_builtin;refine wpList_app_s rfl (.tmp 23) (.tmp 24) 41 rfl B 93 (size:=33) (by omega) Tryz.underlying41 info_B zsize_B _ n xs rfl HO.out (some ⟨pb,0,none⟩) 1 1 c rfl hA1.out (by rw[HC.out]) (fun h=>by cases h) (Nat.le_refl _) H1.out (by omega) (by unfold maxLen;omega) hB ?_;intro v7 w7 hown7 hg7 hat7;have O7:=Lib.hid hown7;have G7:=Lib.hid hg7;have A7:=Lib.hid hat7;clear hown7 hg7 hat7)
 go_ret
 exact⟨v7,rfl,O7.out,G7.out,A7.out⟩
theorem over_B (w:World)(pb g o lb cb:Nat) {c cs:List Value} {tp tg:TypeId}(hp:Blk w pb c tp)(hg:Blk w g cs tg)(hne:pb≠g)(hcs:cs≠[]):
 (callFunc 171 #[.slice (some ⟨pb,0,none⟩) 1 1,.slice (some ⟨g,o,none⟩) lb cb]).run Tryz.prog w= .ok (.value (.bool false)) w:=by
 have hsz:=isize_B
 rw[run_callFunc_extern Tryz.func171 (by kernel_rfl) (by kernel_rfl) (by kernel_rfl) (e:=Extern.SlicesOverlaps.overlaps #[41,41] #[4]) (by kernel_rfl),
  Lib.run_overlaps_apart w 41 4 93 Tryz.underlying41 33 (size_ofS isize_B) ⟨pb,0,none⟩ ⟨g,o,none⟩ 1 1 lb cb hne tp tg c.length cs.length (by unfold World.shape?;rw[hp];rfl) (by unfold World.shape?;rw[hg];rfl) (by simpa using hcs) (hp.free 0) (hp.free _)]
 rfl
theorem insIn_B (w:World)(B g n cap i:Nat)(A D R:List Value)(hA:A.length=i*33)(hD:D.length=(n - i)*33)(hR:R.length=(cap - n)*33)(hi:i < n)(hcap:n+1<=cap)(hm:cap<=maxLen)(hBg:B<=g)(hg:Blk w g (A++D++R) 93)
 (hAD1:∀u∈A++D,u.oneCell'=true) (pb:Nat) (c:List Value) (hc:c.length=33) (h1:∀u∈c,u.oneCell'=true) (hb:Blk w pb c 93) (hne:pb≠g):
 Calls Tryz.prog 150 #[.slice (some ⟨g,0,none⟩) n cap,.int .i64 i,.slice (some ⟨pb,0,none⟩) 1 1] w (InsB w B (.slice (some ⟨g,0,none⟩) n cap) (n+1) (A++c++D)):=by
 unfold maxLen at hm
 have hDR:(D++R).length=(cap - i)*33:=by rw[List.length_append,hD,hR,<-Nat.add_mul];congr 1;omega
 -- the room is parted
 have hL1:((D++R).take 33).length=33:=by rw[List.length_take,hDR];have:1*33<=(cap - i)*33:=Nat.mul_le_mul_right _ (by omega);omega
 have hL2:(((D++R).drop 33).take D.length).length=D.length:=by
  rw[List.length_take,List.length_drop,hDR,hD]
  have:(n - i)*33+1*33<=(cap - i)*33:=by rw[<-Nat.add_mul];exact Nat.mul_le_mul_right _ (by omega)
  omega
 have hparts:A++D++R=(A++(D++R).take 33)++((D++R).drop 33).take D.length++((D++R).drop 33).drop D.length:=by
  rw[List.append_assoc (A++_),List.take_append_drop,List.append_assoc A ((D++R).take _),List.take_append_drop,List.append_assoc]
 generalize(D++R).take 33=L1 at *
 generalize((D++R).drop 33).take D.length=L2 at *
 generalize((D++R).drop 33).drop D.length=L3 at *
 have hgd:Blk w.drew g (A++D++R) 93:=hg
 have hgp:=hgd
 rw[hparts]at hgp
 have hg2:Blk (w.drew.setCells g ((i+1)*33) D) g ((A++L1)++D++L3) 93:=Blk.setCells D _ _ _ _ _ hgp (by rw[List.length_append,hA,hL1,Nat.add_mul,Nat.one_mul]) hL2
 have hg2':Blk (w.drew.setCells g ((i+1)*33) D) g (A++L1++(D++L3)) 93:=by rw[<-List.append_assoc];exact hg2
 have hg3:Blk ((w.drew.setCells g ((i+1)*33) D).setCells g (i*33) c) g (A++c++(D++L3)) 93:=Blk.setCells c _ _ _ _ _ hg2' hA (by rw[hL1,hc])
 have hpb2:Blk (w.drew.setCells g ((i+1)*33) D) pb c 93:=by
  unfold Blk;rw[setCells_heap g D _ w.drew pb hne];exact hb
 have hlen2:((A++L1)++D++L3).length=(A++D++R).length:=by rw[hparts];simp[hL2]
 have hlenW:(A++D++R).length=cap*33:=by
  rw[List.append_assoc,List.length_append,hA,hDR,<-Nat.add_mul];congr 1;omega
 have cp1:=run_copyS (P:=Tryz.prog) w.drew Tryz.underlying41 isize_B g ((i+1)*33) (n+1 - (i+1)) (cap - (i+1)) ⟨g,i*33,none⟩ (n+1 - i) (cap - i) (n - i) D (by simp only[Nat.min_def];split<;>omega) hD (cells_in hgd hA)
  (hgd.there _ _ (by rw[hlenW,hD,<-Nat.add_mul];exact Nat.mul_le_mul_right _ (by omega))) (fun u hu=>hAD1 u (List.mem_append_right _ hu))
 have cp2:=run_copyS (P:=Tryz.prog) (w.drew.setCells g ((i+1)*33) D) Tryz.underlying41 isize_B g (i*33) (n+1 - i) (cap - i) ⟨pb,0,none⟩ 1 1 1 c (by simp only[Nat.min_def];split<;>omega) (by rw[hc,Nat.one_mul]) (cells_in (pre:=[]) (post:=[]) (by simpa using hpb2) rfl)
  (hg2.there _ _ (by rw[hlen2,hlenW,hc,<-Nat.succ_mul];exact Nat.mul_le_mul_right _ (by omega))) h1
 have k0:=cut_lB (some ⟨g,0,none⟩) n cap i (by omega) (by omega) w
 have k1:∀W,(sliceOp 41 (.slice (some ⟨g,0,none⟩) n cap) none (some (.int .i64 ((n:Int)+1)))).run Tryz.prog W= .ok (.value (.slice (some ⟨g,0,none⟩) (n+1) cap)) W:=fun W=>cut_hB (some ⟨g,0,none⟩) n cap (n+1) hcap W
 have k2:∀W,(sliceOp 41 (.slice (some ⟨g,0,none⟩) (n+1) cap) (some (.int .i64 ((i:Int)+1))) none).run Tryz.prog W= .ok (.value (.slice (some ⟨g,(i+1)*33,none⟩) (n+1 - (i+1)) (cap - (i+1)))) W:=fun W=>by
  have h:=cut_lB (some ⟨g,0,none⟩) (n+1) cap (i+1) (by omega) hcap W
  rw[if_neg (by omega)]at h
  simpa[Addr.add_mid]using h
 have k3:∀W,(sliceOp 41 (.slice (some ⟨g,0,none⟩) (n+1) cap) (some (.int .i64 (i:Int))) none).run Tryz.prog W= .ok (.value (.slice (some ⟨g,i*33,none⟩) (n+1 - i) (cap - i))) W:=fun W=>by
  have h:=cut_lB (some ⟨g,0,none⟩) (n+1) cap i (by omega) hcap W
  rw[if_neg (by omega)]at h
  simpa[Addr.add_mid]using h
 have hov:=over_B w pb g ((i+1)*33) (n+1 - (i+1)) (cap - (i+1)) hb hg hne (by
  intro h0;rw[h0]at hlenW
  have:1*33<=cap*33:=Nat.mul_le_mul_right _ (by omega)
  simp at hlenW;omega)
 generalize(if cap=i then(some (⟨g,0,none⟩:Addr))else(some (⟨g,0,none⟩:Addr)).map (·.add (i*33)))=p0 at *
 have hwr1:IntKind.i64.wrap ((i:Int)+1)=(i:Int)+1:=by rw[IntKind.wrap_i64];omega
 have hni:((i:Int) == (n:Int))=false:=by rw[beq_eq_false_iff_ne];omega
 have hroom:decide ((cap:Int) < (n:Int)+1)=false:=by rw[decide_eq_false_iff_not];omega
 have hgr:w.grownBy ((w.drew.setCells g ((i+1)*33) D).setCells g (i*33) c) (some g):=by
  have h2:=setCells_below (a:=w.drew) (B:=g) (Nat.le_refl _) D ((i+1)*33) w.drew (Below.refl _ _)
  have h3:=setCells_below (a:=w.drew) (B:=g) (Nat.le_refl _) c (i*33) _ h2
  exact⟨h3.os,h3.tape,h3.output,h3.size,fun k hk hn=>by
   have hkg:k≠g:=fun e=>hn (by rw[e])
   rw[setCells_heap g c _ _ k hkg,setCells_heap g D _ _ k hkg];rfl⟩
 have hown:=own_ofBlk (B:=B) (n:=n+1) (s:=33) (cap:=cap) (xs:=A++c++D) (rest:=L3) hBg (by rw[List.append_assoc (A++c)];exact hg3) hcap (by unfold maxLen;exact hm)
  (by rw[List.length_append,List.length_append,hA,hc,hD,<-Nat.succ_mul,<-Nat.add_mul];congr 1;omega)
  (by rw[<-hlenW,<-hlen2];simp[hL1,hc]<;>omega)
 have HG:=Lib.hid hgr
 have HO:=Lib.hid hown
 clear hgr hown hg3 hg2 hg2' hgp hgd hg hpb2 hb hparts hlen2 hlenW hL1 hL2 hDR hR hD hA hAD1 h1 hc hne
 generalize w.drew.setCells g ((i+1)*33) D=w1 at *
 generalize w1.setCells g (i*33) c=w2 at *
 generalize n+1 - (i+1)=l2 at *
 generalize cap - (i+1)=c2 at *
 generalize n+1 - i=l3 at *
 generalize cap - i=c3 at *
 go_enter Tryz.func150,Tryz.ntmps150
 go_wp2_with (simp only[hov])
 go_region_law (refine copy_step rfl (.tmp 73) (.tmp 76) 41 41 rfl _ _ (by simp[Act.eval,Act.put]) (by simp[Act.eval,Act.put]) (cp1 _) ?_)
 all_goals
  go_wp2_with (at_builtin;refine copy_law _ rfl (.tmp 80) (.tmp 81) 41 41 rfl _ _ rfl rfl (cp2 _) ?_)
  go_ret
  exact⟨_,rfl,HO.out,HG.out,fun k hk=>Or.inl hk⟩
theorem insGrow_B (w:World)(B g n cap i:Nat)(A D R:List Value)(hA:A.length=i*33)(hD:D.length=(n - i)*33)(hi:i < n)(hn:n<=1000000000)(hle:n<=cap)(hcap:cap < n+1)(hg:Blk w g (A++D++R) 93)
 (hAD1:∀u∈A++D,u.oneCell'=true) (pb:Nat) (c:List Value) (hc:c.length=33) (h1:∀u∈c,u.oneCell'=true) (hb:Blk w pb c 93) (hB:B<=w.heap.size):
 Calls Tryz.prog 150 #[.slice (some ⟨g,0,none⟩) n cap,.int .i64 i,.slice (some ⟨pb,0,none⟩) 1 1] w (InsB w B (.slice (some ⟨g,0,none⟩) n cap) (n+1) (A++c++D)):=by
 obtain⟨i0,hi0,hz0,hz1,hz2⟩:=info_parts info_B
 obtain⟨G,hG⟩:∃G,G=grownCap w (n+1) cap 93:=⟨_,rfl⟩
 obtain⟨N,hN⟩:∃N,N=w.heap.size:=⟨_,rfl⟩
 obtain⟨zz,hzz⟩:∃zz:Value,zz= .agg (bcells (Fld.zero32,[]) none 0).toArray:=⟨_,rfl⟩
 rw[<-hzz]at hz0
 have hzs:zz.cells.size=33:=by rw[hzz];exact zsize_B
 have hGn:n+1<=G:=by rw[hG];exact grownCap_ge w _ _ _
 have hGm:G<=maxLen:=by rw[hG];exact grownCap_le_maxLen w (n+1) cap 93 (by unfold maxLen;omega)
 have hap:∀ty,(Builtin.append_ #[41,3] ty #[.slice (some ⟨g,0,none⟩) i cap,.int .i64 ((n:Int)+1 - (i:Int))]).run Tryz.prog w =
  .ok (.slice (some ⟨N,0,none⟩) (n+1) G) (w.drew.alloc (.cells (A.toArray++Builtin.zeroCells zz.cells (n+1 - i)++Builtin.zeroCells zz.cells (G - (n+1))) 93)):=fun ty=>by
  have h:=Lib.run_append_grow_zeros (P:=Tryz.prog) w 41 3 ty 93 i0 zz .i64 .i64 Tryz.underlying41 Tryz.underlying3 hi0 hz0 (some ⟨g,0,none⟩) i cap A
   (by rw[hz1];exact run_firstCells_some w.drew 33 i ⟨g,0,none⟩ i cap A hA (cells_in (w:=w.drew) (pre:=[]) (post:=D++R) (by have h9:Blk w.drew g (A++D++R) 93:=hg;simpa using h9) rfl))
   (n+1 - i) (by omega) (by rw[hz1];omega) (by omega) (by omega) (by rw[hz2];omega) (by rw[hz2];exact growslice_fits (by omega) (by omega))
  rw[show i+(n+1 - i)=n+1 by omega]at h
  rw[show(n:Int)+1 - (i:Int)=((n+1 - i:Nat):Int) by omega,hG,hN]
  exact h
 obtain⟨Z1,hZ1⟩:∃Z1,Z1=(Builtin.zeroCells zz.cells (n+1 - i)).toList:=⟨_,rfl⟩
 obtain⟨Z2,hZ2⟩:∃Z2,Z2=(Builtin.zeroCells zz.cells (G - (n+1))).toList:=⟨_,rfl⟩
 have lZ1:Z1.length=(n+1 - i)*33:=by rw[hZ1,Array.length_toList,size_zeroCells,hzs]
 have lZ2:Z2.length=(G - (n+1))*33:=by rw[hZ2,Array.length_toList,size_zeroCells,hzs]
 have hrow:A.toArray++Builtin.zeroCells zz.cells (n+1 - i)++Builtin.zeroCells zz.cells (G - (n+1))=(A++Z1++Z2).toArray:=by
  rw[hZ1,hZ2];simp
 rw[hrow]at hap
 have b1:Blk (w.drew.alloc (.cells (A++Z1++Z2).toArray 93)) N (A++Z1++Z2) 93:=by rw[hN];exact Blk.new w.drew _ 93
 have g1:Blk (w.drew.alloc (.cells (A++Z1++Z2).toArray 93)) g (A++D++R) 93:=Blk.old (w:=w.drew) hg _
 have p1:Blk (w.drew.alloc (.cells (A++Z1++Z2).toArray 93)) pb c 93:=Blk.old (w:=w.drew) hb _
 have hgN:g≠N:=by have:=hg.lt;omega
 have hpN:pb≠N:=by have:=hb.lt;omega
 have hbw1:Below w.heap.size w (w.drew.alloc (.cells (A++Z1++Z2).toArray 93)):=(Below.refl _ w).drew.alloc (Nat.le_refl _) _
 generalize w.drew.alloc (.cells (A++Z1++Z2).toArray 93)=w1 at *
 have l1:(Z1.take 33).length=33:=by rw[List.length_take,lZ1];have:1*33<=(n+1 - i)*33:=Nat.mul_le_mul_right _ (by omega);omega
 have l2:(Z1.drop 33).length=D.length:=by
  rw[List.length_drop,lZ1,hD,show n+1 - i=(n - i)+1 by omega,Nat.succ_mul,Nat.add_sub_cancel]
 have b1':Blk w1 N (A++Z1.take 33++(Z1.drop 33++Z2)) 93:=by
  rw[List.append_assoc A,<-List.append_assoc (Z1.take _),List.take_append_drop,<-List.append_assoc];exact b1
 have b2:Blk (w1.setCells N (i*33) c) N (A++c++(Z1.drop 33++Z2)) 93:=Blk.setCells c _ _ _ _ _ b1' hA (by rw[l1,hc])
 have g2:Blk (w1.setCells N (i*33) c) g (A++D++R) 93:=by unfold Blk;rw[setCells_heap N c _ w1 g hgN];exact g1
 have lN:(A++Z1++Z2).length=G*33:=by
  rw[List.length_append,List.length_append,hA,lZ1,lZ2,<-Nat.add_mul,<-Nat.add_mul];congr 1;omega
 have lN2:(A++c++(Z1.drop 33++Z2)).length=G*33:=by
  rw[List.length_append,List.length_append,List.length_append,hA,hc,l2,hD,lZ2,<-Nat.succ_mul,<-Nat.add_mul,<-Nat.add_mul];congr 1;omega
 have cp1:=run_copyS (P:=Tryz.prog) w1 Tryz.underlying41 isize_B N (i*33) (n+1 - i) (G - i) ⟨pb,0,none⟩ 1 1 1 c (by simp only[Nat.min_def];split<;>omega) (by rw[hc,Nat.one_mul]) (cells_in (pre:=[]) (post:=[]) (by simpa using p1) rfl)
  (b1.there _ _ (by rw[lN,hc,<-Nat.succ_mul];exact Nat.mul_le_mul_right _ (by omega))) h1
 have b2d:Blk (w1.setCells N (i*33) c).drew N (A++c++(Z1.drop 33++Z2)) 93:=b2
 have g2d:Blk (w1.setCells N (i*33) c).drew g (A++D++R) 93:=g2
 have cp2:=run_copyS (P:=Tryz.prog) (w1.setCells N (i*33) c).drew Tryz.underlying41 isize_B N ((i+1)*33) (n+1 - (i+1)) (G - (i+1)) ⟨g,i*33,none⟩ (n - i) (cap - i) (n - i) D (by simp only[Nat.min_def];split<;>omega) hD (cells_in g2d hA)
  (b2d.there _ _ (by rw[lN2,hD,<-Nat.add_mul];exact Nat.mul_le_mul_right _ (by omega))) (fun u hu=>hAD1 u (List.mem_append_right _ hu))
 have b3:Blk ((w1.setCells N (i*33) c).drew.setCells N ((i+1)*33) D) N ((A++c)++D++Z2) 93:=
  Blk.setCells D _ _ _ _ _ (by rw[<-List.append_assoc]at b2d;exact b2d) (by rw[List.length_append,hA,hc,Nat.succ_mul]) l2
 have hown:=own_ofBlk (B:=B) (n:=n+1) (s:=33) (cap:=G) (xs:=A++c++D) (rest:=Z2) (by omega) b3 hGn hGm
  (by rw[List.length_append,List.length_append,hA,hc,hD,<-Nat.succ_mul,<-Nat.add_mul];congr 1;omega)
  (by rw[List.length_append,List.length_append,List.length_append,hA,hc,hD,lZ2,<-Nat.succ_mul,<-Nat.add_mul,<-Nat.add_mul];congr 1;omega)
 have hgr:w.grownBy ((w1.setCells N (i*33) c).drew.setCells N ((i+1)*33) D) (some g):=by
  have h2:=setCells_below (a:=w) (B:=w.heap.size) (b:=N) (by omega) c (i*33) w1 hbw1
  have h3:=setCells_below (a:=w) (B:=w.heap.size) (b:=N) (by omega) D ((i+1)*33) _ h2.drew
  exact⟨h3.os,h3.tape,h3.output,h3.size,fun k hk _=>h3.block k hk⟩
 have k0:=cut_lB (some ⟨g,0,none⟩) n cap i (by omega) (by omega)
 have hci:¬(cap=i):=by omega
 simp only[if_neg hci,Option.map_some,Addr.add_mid,Nat.zero_add]at k0
 have k1:=cut_hB (some ⟨g,0,none⟩) n cap i (by omega)
 have k2:=cut_lB (some ⟨N,0,none⟩) (n+1) G i (by omega) hGn
 simp only[if_neg (show¬(G=i) by omega),Option.map_some,Addr.add_mid,Nat.zero_add]at k2
 have k3:∀W,(sliceOp 41 (.slice (some ⟨N,0,none⟩) (n+1) G) (some (.int .i64 ((i:Int)+1))) none).run Tryz.prog W= .ok (.value (.slice (some ⟨N,(i+1)*33,none⟩) (n+1 - (i+1)) (G - (i+1)))) W:=fun W=>by
  have h:=cut_lB (some ⟨N,0,none⟩) (n+1) G (i+1) (by omega) hGn W
  rw[if_neg (by omega)]at h
  simpa[Addr.add_mid]using h
 have hwr1:IntKind.i64.wrap ((i:Int)+1)=(i:Int)+1:=by rw[IntKind.wrap_i64];omega
 have hni:((i:Int) == (n:Int))=false:=by rw[beq_eq_false_iff_ne];omega
 have hroom:decide ((cap:Int) < (n:Int)+1)=true:=by rw[decide_eq_true_iff];omega
 have HG:=Lib.hid hgr
 have HO:=Lib.hid hown
 have HNW:=Lib.hid hN
 have HNS:=Lib.hid (show w.heap.size<=N by omega)
 clear hgr hown b3 b2 b2d g2 g2d b1 b1' g1 p1 l1 l2 lZ1 lZ2 lN lN2 hgN hpN hrow hZ1 hZ2 hN hG hGm hzz hz0 hz1 hz2 hzs hi0 hbw1 hg hb hA hD hAD1 hc h1
 generalize w1.setCells N (i*33) c=w2 at *
 generalize w2.drew.setCells N ((i+1)*33) D=w3 at *
 generalize n+1 - (i+1)=l2 at *
 generalize G - (i+1)=c2 at *
 generalize n+1 - i=l3 at *
 generalize G - i=c3 at *
 generalize n - i=l4 at *
 generalize cap - i=c4 at *
 go_enter Tryz.func150,Tryz.ntmps150
 go_wp2_with (first | (at_builtin;refine Lib.wpList_append_run _ rfl (.tmp 34) (.tmp 39) _ _ rfl _ _ rfl rfl _ _ (hap _) ?_) | (refine copy_law _ rfl (.tmp 43) (.tmp 44) 41 41 rfl _ _ rfl rfl (cp1 _) ?_))
 go_region_law (refine copy_step rfl (.tmp 50) (.tmp 53) 41 41 rfl _ _ (by simp[Act.eval,Act.put]) (by simp[Act.eval,Act.put]) (cp2 _) ?_)
 all_goals
  go_wp2_with fail
  go_ret
  exact⟨_,rfl,HO.out,HG.out,fun k hk=>Or.inr (by cases hk;exact HNS.out)⟩
theorem ins_B (w:World)(B:Nat)(v:Value)(n:Nat)(xs:List Value)(ho:w.ownsRow B 93 33 v n xs)(hx1:∀u∈xs,u.oneCell'=true)(i:Nat)(hi:i<=n)(pb:Nat)(c:List Value)(hc:c.length=33)(h1:∀u∈c,u.oneCell'=true)(hb:Blk w pb c 93)(hne:v.ownBlock≠some pb)(hn:n<=1000000000)(hB:B<=w.heap.size):
 Calls Tryz.prog 150 #[v,.int .i64 i,.slice (some ⟨pb,0,none⟩) 1 1] w (InsB w B v (n+1) (xs.take (i*33)++c++xs.drop (i*33))):=by
 by_cases he:i=n
 ·subst he
  have hxl:=ho.1
  rw[List.take_of_length_le (by omega),List.drop_eq_nil_of_le (by omega),List.append_nil]
  exact insEnd_B w B v i xs ho pb c hc h1 hb hn hB
 ·obtain⟨g,cap,rest,rfl,hg,hle,hm,hk,hl,hl2⟩:=own_whole ho (by omega)
  have hpg:pb≠g:=fun e=>hne (by rw[e];rfl)
  have hA:(xs.take (i*33)).length=i*33:=by rw[List.length_take,hl];have:i*33<=n*33:=Nat.mul_le_mul_right _ hi;omega
  have hD:(xs.drop (i*33)).length=(n - i)*33:=by rw[List.length_drop,hl,<-Nat.sub_mul]
  have hR:rest.length=(cap - n)*33:=by rw[List.length_append,hl]at hl2;rw[Nat.sub_mul];omega
  have hk':Blk w g (xs.take (i*33)++xs.drop (i*33)++rest) 93:=by rw[List.take_append_drop];exact hk
  have h1':∀u∈xs.take (i*33)++xs.drop (i*33),u.oneCell'=true:=by rw[List.take_append_drop];exact hx1
  by_cases hc2:n+1<=cap
  ·exact insIn_B w B g n cap i _ _ rest hA hD hR (by omega) hc2 hm hg hk' h1' pb c hc h1 hb hpg
  ·exact insGrow_B w B g n cap i _ _ rest hA hD (by omega) hn hle (by omega) hk' h1' pb c hc h1 hb hB
end
section
open Go.RowKit Sha Fct
theorem ordc_B (x y:Fct.Id×List Int)(q r:Option Addr)(c d:Nat)(w:World)(hx:sB.ok x)(hy:sB.ok y):
 Calls Tryz.prog 129 #[.agg (bcells x q c).toArray,.agg (bcells y r d).toArray] w fun e w'=>e= .returned (.int .i64 (ordB x y))/\Below w.heap.size w w':=blobs_any x y q r c d w hx.1 hy.1
theorem ordn_B (x y:Fct.Id×List Int):ordB x y < 0↔Sha.less (bkey x) (bkey y)=true:=idC_neg x.1 y.1
theorem ordz_B (x y:Fct.Id×List Int):ordB x y=0↔bkey x=bkey y:=idC_zero x.1 y.1
theorem execOp_loadOB (ρ:Operand->Value)(dst:Option Tmp)(x:Operand)(ty:TypeId)(pos:String)(after:Array Edge)(guard:Option (Nat×Bool)):
 execOp ρ {dst:=dst,op:=.load 93 x,type:=ty,pos:=pos,after:=after,guard:=guard}= loadOp 93 (ρ x):=by unfold loadOp;rfl
theorem load_OB {w:World} {g o:Nat} {x:Fct.Id×List Int}(hx:sB.ok x) {q:Option Addr} {c:Nat}(h:w.rangeAt g o (bcells x q c)):(loadOp 93 (.pointer (some ⟨g,o,none⟩))).run Tryz.prog w= .ok (.value (.agg (bcells x q c).toArray)) w:=
 run_loadOp (run_loadAt_mid w g o 93 _ _ h Tryz.underlying93 rfl (by rw[isize_B];exact congrArg some (sB.len q c hx).symm))
attribute [local go_sem ↓] execOp_loadOB execOp_boxOB
theorem bs_B (l:List (Fct.Id×List Int))(p:Option Addr)(n c:Nat)(w:World)(h:sB.Told w p n c l)(hup:Rise.Up bkey Sha.less l)(x:Fct.Id×List Int)(q:Option Addr)(d:Nat)(hx:sB.ok x)(hn:n<=1000000000):
 Calls Tryz.prog 149 #[.slice p n c,.agg (bcells x q d).toArray,.func (.func 129) #[] #[]] w fun e w'=>
  e= .returned (.tuple #[.int .i64 (Rise.place bkey Sha.less (bkey x) l:Nat),.bool (Rise.found bkey Sha.less (bkey x) l)])/\Below w.heap.size w w':=by
 have bx:=run_boxOp (P:=Tryz.prog) (t:=93) (cs:=(bcells x q d).toArray) w
 have hb1:=(Below.refl w.heap.size w).alloc (Nat.le_refl _) (.cells (bcells x q d).toArray 93)
 have hk1:Blk (w.alloc (.cells (bcells x q d).toArray 93)) w.heap.size (bcells x q d) 93:=Blk.new w _ 93
 obtain⟨w1,hw1⟩:∃v,v=w.alloc (.cells (bcells x q d).toArray 93):=⟨_,rfl⟩
 rw[<-hw1]at bx hb1 hk1
 obtain⟨g0,hg0⟩:∃g,g=w.heap.size:=⟨_,rfl⟩
 rw[<-hg0]at bx hk1
 obtain⟨pl,hpl⟩:∃k,k=Rise.place bkey Sha.less (bkey x) l:=⟨_,rfl⟩
 have hple:pl<=n:=by rw[hpl,h.len];exact Rise.place_le _ _
 have HPL:=Lib.hid hpl
 have HB1:=Lib.hid hb1
 have HK:=Lib.hid hk1
 have HT:=Lib.hid (h.below hb1)
 have HX:=Lib.hid hx
 have HUP:=Lib.hid hup
 have HN:=Lib.hid (show n=l.length from h.len)
 rw[<-hpl]
 obtain⟨fd,hfd⟩:∃f,f=Rise.found bkey Sha.less (bkey x) l:=⟨_,rfl⟩
 have HFD:=Lib.hid hfd
 rw[<-hfd]
 clear hfd hw1 hg0 hpl hb1 hk1 h hup hx
 go_enter Tryz.func149,Tryz.ntmps149
 go_wp2_with fail
 go_loopw [9,10] (fun i j wr=>∃a b:Nat,i= .int .i64 a/\j= .int .i64 b/\a<=pl/\pl<=b/\b<=n/\Hid (Below w1.heap.size w1 wr)) (fun i j _=>(intOf j).toNat - (intOf i).toNat)
 case atStart=>exact⟨0,n,rfl,rfl,by omega,hple,by omega,Lib.hid (Below.refl _ _)⟩
 case round=>
  obtain⟨a,b,rfl,rfl,ha,hb,hbn,HBR⟩:=hrel
  by_cases hab:a < b
  ·obtain⟨m,hm⟩:∃m,m=(a+b) / 2:=⟨_,rfl⟩
   have hma:a<=m/\m < b:=by omega
   have hm2:((a:Int)+(b:Int)) / 2=(m:Int):=by omega
   have hml:m < l.length:=by rw[<-HN.out];omega
   obtain⟨b0,off,q2,c2,hp,hr,hgd⟩:=(HT.out.below HBR.out).rows.get m hml
   obtain⟨y,hy⟩:∃y,y=l[m]:=⟨_,rfl⟩
   have hlo:=fun h=>Rise.place_lt (key:=bkey) (lt:=Sha.less) (bkey x) l m hml (by rw[<-HPL.out];exact h)
   have hhi:=fun h=>Rise.place_ge id_ord (bkey x) l HUP.out m hml (by rw[<-HPL.out];exact h)
   rw[<-hy]at hr hgd hlo hhi
   subst hp
   have hr2:wr.rangeAt b0 (off+m*33) (bcells y q2 c2):=hr
   obtain⟨I,W,hC⟩:=cls_of wr
   have hne:Nonempty I:=hC.ne
   have lM:=fun n=>load_OB hgd.ok (range_below hr2 (hC.back n))
   have lX:=fun n=>load_OB HX.out ((HK.out.below HBR.out HK.out.lt).below (hC.back n) (HK.out.below HBR.out HK.out.lt).lt).range
   have QS:=Lib.hid (hC.call (P:=Tryz.prog) (f:=129) (args:=#[.agg (bcells y q2 c2).toArray,.agg (bcells x q d).toArray]) (v:=.int .i64 (ordB y x)) (fun w' hb=>ordc_B y x q2 q c2 d w' hgd.ok HX.out))
   have hjn:(0:Int)<=(m:Int)/\(m:Int) < (n:Int):=by omega
   have HC:=Lib.hid hC
   have HDN:=Lib.hid (ordn_B y x)
   generalize hod:ordB y x=od at *
   clear hod hr hr2 hgd hy hml hm hC
   by_cases hpm:m < pl
   ·have t1:decide (od < 0)=true:=by rw[decide_eq_true_iff];exact HDN.out.2 (hlo hpm)
    clear hlo hhi HDN
    go_wp2_with fail
    refine wp_region_cls W (by kernel_rfl) (by kernel_rfl) HC.out.one ?_
    repeat go_big_quiet_step ((go_at_call 129;exact QS.out _))
    refine wpQuiet_nil ?_
    rintro _ ⟨nq,rfl⟩
    have HB2:=Lib.hid (HBR.out.trans ((HC.out.back nq).mono HBR.out.size))
    clear lM lX QS hm2
    go_wp2_with fail
    go_roundw
    case rel=>exact⟨m+1,b,by go_num,rfl,by omega,hb,hbn,HB2⟩
    case measure=>simp[intOf];omega
   ·have t1:decide (od < 0)=false:=by
     rw[decide_eq_false_iff_not]
     intro h
     have h2:=HDN.out.1 h
     rw[hhi (by omega)]at h2;cases h2
    clear hlo hhi HDN
    go_wp2_with fail
    refine wp_region_cls W (by kernel_rfl) (by kernel_rfl) HC.out.one ?_
    repeat go_big_quiet_step ((go_at_call 129;exact QS.out _))
    refine wpQuiet_nil ?_
    rintro _ ⟨nq,rfl⟩
    have HB2:=Lib.hid (HBR.out.trans ((HC.out.back nq).mono HBR.out.size))
    clear lM lX QS hm2
    go_wp2_with fail
    go_roundw
    case rel=>exact⟨a,m,rfl,rfl,ha,by omega,by omega,HB2⟩
    case measure=>simp[intOf];omega
  ·obtain rfl:a=pl:=by omega
   obtain rfl:b=a:=by omega
   by_cases hbl:b < n
   ·have hml:b < l.length:=by rw[<-HN.out];omega
    obtain⟨b0,off,q2,c2,hp,hr,hgd⟩:=(HT.out.below HBR.out).rows.get b hml
    have hfi:fd=true↔bkey l[b] = bkey x:=by
     have h2:=Rise.found_iff (key:=bkey) (lt:=Sha.less) (bkey x) l
     rw[<-HFD.out]at h2
     rw[h2]
     have h3:=HPL.out
     constructor
     ·rintro⟨_,h⟩;simpa only[<-h3]using h
     ·intro h;exact⟨by rw[<-h3];exact hml,by simpa only[<-h3]using h⟩
    obtain⟨y,hy⟩:∃y,y=l[b]:=⟨_,rfl⟩
    rw[<-hy]at hr hgd hfi
    subst hp
    have hr2:wr.rangeAt b0 (off+b*33) (bcells y q2 c2):=hr
    obtain⟨I,W,hC⟩:=cls_of wr
    have hne:Nonempty I:=hC.ne
    have lM:=fun n=>load_OB hgd.ok (range_below hr2 (hC.back n))
    have lX:=fun n=>load_OB HX.out ((HK.out.below HBR.out HK.out.lt).below (hC.back n) (HK.out.below HBR.out HK.out.lt).lt).range
    have QS:=Lib.hid (hC.call (P:=Tryz.prog) (f:=129) (args:=#[.agg (bcells y q2 c2).toArray,.agg (bcells x q d).toArray]) (v:=.int .i64 (ordB y x)) (fun w' hb=>ordc_B y x q2 q c2 d w' hgd.ok HX.out))
    have hjn:(0:Int)<=(b:Int)/\(b:Int) < (n:Int):=by omega
    have HC:=Lib.hid hC
    have hdz:=ordz_B y x
    have t1:(ordB y x == 0)=fd:=by
     rw[Bool.eq_iff_iff,beq_iff_eq,hdz];exact hfi.symm
    have tg:decide ((b:Int) < (n:Int))=true:=by simpa using hbl
    generalize ordB y x=od at *
    clear hdz hr hr2 hgd hy hml hC hfi
    go_wp2_with fail
    refine wp_region_cls W (by kernel_rfl) (by kernel_rfl) HC.out.one ?_
    repeat go_big_quiet_step ((go_at_call 129;exact QS.out _))
    refine wpQuiet_nil ?_
    rintro _ ⟨nq,rfl⟩
    have HB2:=Lib.hid (HB1.out.trans ((HBR.out.trans ((HC.out.back nq).mono HBR.out.size)).mono HB1.out.size))
    clear lM lX QS
    go_wp2_with fail
    go_ret2
    exact⟨rfl,HB2.out⟩
   ·have hf2:fd=false:=by
     rw[Bool.eq_false_iff]
     intro h
     rw[HFD.out,Rise.found_iff]at h
     obtain⟨h2,_⟩:=h
     rw[<-HPL.out,<-HN.out]at h2
     exact hbl h2
    subst hf2
    have tg:decide ((b:Int) < (n:Int))=false:=by simpa using hbl
    obtain⟨I,W,hC⟩:=cls_of wr
    have hne:Nonempty I:=hC.ne
    have HC:=Lib.hid hC
    clear hC
    go_wp2_with fail
    refine wp_region_cls W (by kernel_rfl) (by kernel_rfl) HC.out.one ?_
    repeat go_big_quiet_step (fail)
    refine wpQuiet_nil ?_
    rintro _ ⟨nq,rfl⟩
    have HB2:=Lib.hid (HB1.out.trans ((HBR.out.trans ((HC.out.back nq).mono HBR.out.size)).mono HB1.out.size))
    go_wp2_with fail
    go_ret2
    exact⟨rfl,HB2.out⟩
end
section
open Go.RowKit Sha Fct
structure PrdB (mb:Nat)(cap:Value)(Pr:Fct.Id×List Int->Bool)(ys:List (Hd (Fct.Id×List Int)))(I:World->Nat->Prop):Prop where
 call:∀w k (hk:k < ys.length),I w k->Calls Tryz.prog 179 #[.agg (bcells ys[k].1 ys[k].2.1 ys[k].2.2).toArray,cap] w fun e w'=>e= .returned (.bool (Pr ys[k].1))/\I w' (k+1)/\w.grownBy w' (some mb)
 stays:∀w w' k row,I w k->w.grownBy w' row->RowTy w row 93->I w' k
 map:∀w k,I w k->IsMapB w mb
attribute [local go_sem ↓] execOp_loadOB
def ixB (Pr:Fct.Id×List Int->Bool)(ys:List (Hd (Fct.Id×List Int))):Nat:=ys.findIdx fun y=>Pr y.1
def IxdB (mb:Nat)(Pr:Fct.Id×List Int->Bool)(ys:List (Hd (Fct.Id×List Int)))(I:World->Nat->Prop)(w:World)(e:Ending)(w':World):Prop:=
 ∃r:Int,e= .returned (.int .i64 r)/\((r= -1/\ixB Pr ys=ys.length/\I w' ys.length)\/(r=(ixB Pr ys:Nat)/\ixB Pr ys < ys.length/\I w' (ixB Pr ys+1)))/\w.grownBy w' (some mb)
theorem idx_B (mb:Nat)(cap:Value)(Pr:Fct.Id×List Int->Bool)(ys:List (Hd (Fct.Id×List Int)))(I:World->Nat->Prop)(HP:PrdB mb cap Pr ys I)(w:World)(B:Nat)(v:Value)(h:Rws sB 93 w B v ys)(hI:I w 0)(hn:ys.length<=1000000000):
 Calls Tryz.prog 192 #[v,.func (.func 179) #[] #[cap]] w (IxdB mb Pr ys I w):=by
 obtain⟨p,c,rfl,_⟩:=h.told
 obtain⟨n,hnl⟩:∃n,n=ys.length:=⟨_,rfl⟩
 obtain⟨ix,hix⟩:∃i,i=ixB Pr ys:=⟨_,rfl⟩
 have hle:ix<=n:=by rw[hix,hnl];exact List.findIdx_le_length
 have H1:=Lib.hid (show∀a (ha:a < ys.length),a < ix->Pr ys[a].1=false from fun a ha h=>by
  have:=List.not_of_lt_findIdx (p:=fun y:Hd (Fct.Id×List Int)=>Pr y.1) (xs:=ys) (i:=a) (by rw[hix]at h;exact h)
  simpa using this)
 have H2:=Lib.hid (show∀(ha:ix < ys.length),Pr ys[ix].1=true from fun ha=>by
  subst hix
  exact List.findIdx_getElem (p:=fun y:Hd (Fct.Id×List Int)=>Pr y.1) (xs:=ys) (w:=ha))
 have HR:=Lib.hid h
 have HNL:=Lib.hid hnl
 have HIX:=Lib.hid hix
 have HI:=Lib.hid hI
 rw[<-hnl]at hn ⊢
 clear hnl hix h hI
 go_enter Tryz.func192,Tryz.ntmps192
 go_wp2_with fail
 go_loopw [8] (fun i wr=>∃a:Nat,i= .int .i64 a/\a<=ix/\Hid (I wr a)/\Hid (w.grownBy wr (some mb))) (fun i _=>n - (intOf i).toNat)
 case atStart=>exact⟨0,rfl,by omega,HI,Lib.hid (grown_refl _ _)⟩
 case round=>
  obtain⟨a,rfl,ha,HA,HG⟩:=hrel
  by_cases han:a < n
  ·have hay:a < ys.length:=by rw[<-HNL.out];exact han
   have HR2:=Lib.hid (HR.out.map_ HG.out (HP.map _ _ HI.out))
   obtain⟨g,c2,hv,hr⟩:=HR2.out.el a hay
   have hv2:p=some ⟨g,0,none⟩:=by injection hv
   subst hv2
   have hr2:wr.rangeAt g (a*33) (bcells ys[a].1 ys[a].2.1 ys[a].2.2):=hr
   have l1:=load_OB (HR2.out.ok _ (List.getElem_mem hay)) hr2
   have HC:=Lib.hid (HP.call wr a hay HA.out)
   have h1:=H1.out a hay
   have h2:∀(e:a=ix),Pr ys[a].1=true:=fun e=>by subst e;exact H2.out hay
   generalize ys[a].1=x at *
   generalize ys[a].2.1=xq at *
   generalize ys[a].2.2=xc at *
   clear hr hr2 hv
   go_wp2_with fail
   refine HC.out.mono ?_
   rintro e w2 ⟨rfl,hI2,hg2⟩
   have HA2:=Lib.hid hI2
   have HG2:=Lib.hid (grown_trans HG.out hg2)
   clear hI2 hg2 l1
   by_cases hai:a=ix
   ·have hp:Pr x=true:=h2 hai
    rw[hp]
    clear h1 h2 hp HC
    go_wp2_with fail
    go_ret
    subst hai
    exact⟨_,rfl,Or.inr ⟨by rw[HIX.out],by rw[<-HIX.out];exact hay,by rw[<-HIX.out];exact HA2.out⟩,HG2.out⟩
   ·have hp:Pr x=false:=h1 (by omega)
    rw[hp]
    clear h1 h2 hp HC
    go_wp2_with fail
    go_roundw
    case rel=>exact⟨a+1,by go_num,by omega,HA2,HG2⟩
    case measure=>simp[intOf];omega
  ·obtain rfl:a=n:=by omega
   obtain rfl:ix=a:=by omega
   go_wp2_with fail
   go_ret
   exact⟨_,rfl,Or.inl ⟨rfl,by rw[<-HIX.out,HNL.out],by rw[<-HNL.out];exact HA.out⟩,HG.out⟩
end
section
open Go.RowKit Sha Fct
theorem zero1_B:(Tryz.prog.info? 93).map (fun i=>i.zero)=some (some (.agg (bcells (Fld.zero32,[]) none 0).toArray)):=by
 have h:=info_B
 cases hq:Tryz.prog.info? 93 with
 | none=>rw[hq]at h;cases h
 | some i=>rw[hq]at h;simp at h;simp[h.1]
theorem zeroV_B (w:World):(zeroValue 93).run Tryz.prog w= .ok (.agg (bcells (Fld.zero32,[]) none 0).toArray) w:=by
 have h:=zero1_B
 cases hq:Tryz.prog.info? 93 with
 | none=>rw[hq]at h;cases h
 | some i=>rw[hq]at h;simp at h;simp[zeroValue,typeInfo,hq,h]
theorem execOp_allocOB (ρ:Operand->Value)(dst:Option Tmp)(ty:TypeId)(pos:String)(after:Array Edge)(guard:Option (Nat×Bool)):
 execOp ρ {dst:=dst,op:=.alloc 93,type:=ty,pos:=pos,after:=after,guard:=guard}= allocOp 93:=by unfold allocOp;rfl
theorem execOp_storeOB (ρ:Operand->Value)(dst:Option Tmp)(x y:Operand)(ty:TypeId)(pos:String)(after:Array Edge)(guard:Option (Nat×Bool)):
 execOp ρ {dst:=dst,op:=.store 93 x y,type:=ty,pos:=pos,after:=after,guard:=guard}= storeOp 93 (ρ x) (ρ y):=by unfold storeOp;rfl
theorem alloc_OB (w:World):(allocOp 93).run Tryz.prog w= .ok (.value (.pointer (some ⟨w.heap.size,0,none⟩))) (w.alloc (.cells (bcells (Fld.zero32,[]) none 0).toArray 93)):=run_allocOp w zero1_B
theorem storeN_OB (w:World) {x:Fct.Id×List Int}(hx:sB.ok x)(q:Option Addr)(c:Nat):(storeOp 93 (.pointer (some ⟨w.heap.size,0,none⟩)) (.agg (bcells x q c).toArray)).run Tryz.prog (w.alloc (.cells (bcells (Fld.zero32,[]) none 0).toArray 93))= .ok .skip (w.alloc (.cells (bcells x q c).toArray 93)):=by
 have hl:(bcells x q c).length=33:=sB.len q c hx
 refine run_storeNew w (by rw[isize_B];simp[hl]) (by rw[List.size_toArray,List.size_toArray,hl];exact zlen_B) ?_
 have h1:=sB.one x q c
 simp only[List.all_toArray,List.all_eq_true]
 exact h1
def DltB (mb:Nat)(Pr:Fct.Id×List Int->Bool)(ys:List (Hd (Fct.Id×List Int)))(I:World->Nat->Prop)(w:World)(B:Nat)(v:Value)(e:Ending)(w':World):Prop:=
 ∃v',e= .returned v'/\Rws sB 93 w' B v' (ys.filter fun y=>!Pr y.1)/\I w' ys.length/\Chg (fun k=>v.ownBlock=some k\/k=mb) w w'
attribute [local go_sem ↓] execOp_loadOB execOp_allocOB execOp_storeOB execOp_sliceB
theorem del_B (mb:Nat)(cap:Value)(Pr:Fct.Id×List Int->Bool)(ys:List (Hd (Fct.Id×List Int)))(I:World->Nat->Prop)(HP:PrdB mb cap Pr ys I)(w:World)(B:Nat)(v:Value)(h:Rws sB 93 w B v ys)(hI:I w 0)(hn:ys.length<=1000000000):
 Calls Tryz.prog 178 #[v,.func (.func 179) #[] #[cap]] w (DltB mb Pr ys I w B v):=by
 have HIX:=Lib.hid (idx_B mb cap Pr ys I HP w B v h hI hn)
 by_cases h0:ixB Pr ys=ys.length
 ·obtain⟨p,c,rfl,_⟩:=h.told
  have HR:=Lib.hid h
  have HF:=Lib.hid (show(ys.filter fun y=>!Pr y.1)=ys from List.filter_eq_self.2 fun y hy=>by
   obtain⟨i,hi,rfl⟩:=List.getElem_of_mem hy
   have:=List.not_of_lt_findIdx (p:=fun y:Hd (Fct.Id×List Int)=>Pr y.1) (xs:=ys) (i:=i) (by unfold ixB at h0;rw[h0];exact hi)
   simpa using this)
  have HM:=Lib.hid (HP.map _ _ hI)
  clear h hI
  go_enter Tryz.func178,Tryz.ntmps178
  go_wp2_with fail
  refine HIX.out.mono ?_
  rintro e w2 ⟨r,rfl,hr,hg2⟩
  rcases hr with⟨hr,_,hI2⟩ | ⟨_,hr,_⟩
  rotate_left
  ·omega
  subst hr
  have HG2:=Lib.hid hg2
  have HI2:=Lib.hid hI2
  clear hg2 hI2
  go_wp2_with fail
  go_ret
  refine⟨_,rfl,?_,HI2.out,(Chg.refl _ w).grown HG2.out fun k hk _=>Or.inr (by cases hk;rfl)⟩
  rw[HF.out];exact HR.out.map_ HG2.out HM.out
 ·have hlt:ixB Pr ys < ys.length:=by
   have:ixB Pr ys<=ys.length:=List.findIdx_le_length
   omega
  obtain⟨g,cp,rest,rfl,hBg,hcp,hmx,hk,hl,hl2⟩:=own_whole h.own (by omega)
  obtain⟨n,hnl⟩:∃n,n=ys.length:=⟨_,rfl⟩
  obtain⟨ix,hix⟩:∃i,i=ixB Pr ys:=⟨_,rfl⟩
  rw[<-hix]at hlt
  have hrest:rest.length=(cp - n)*33:=by
   rw[List.length_append,hl,<-hnl]at hl2
   have e:sB.n=33:=rfl
   rw[e]at hl2
   rw[Nat.sub_mul];omega
  -- behind the first one
  have h1:Pr ys[ix].1=true:=by
   subst hix
   exact List.findIdx_getElem (p:=fun y:Hd (Fct.Id×List Int)=>Pr y.1) (xs:=ys) (w:=hlt)
  have hF0:(ys.take ix).filter (fun y=>!Pr y.1)=ys.take ix:=List.filter_eq_self.2 fun y hy=>by
   obtain⟨i,hi,rfl⟩:=List.getElem_of_mem hy
   rw[List.length_take]at hi
   have:=List.not_of_lt_findIdx (p:=fun y:Hd (Fct.Id×List Int)=>Pr y.1) (xs:=ys) (i:=i) (by rw[hix]at hi;unfold ixB at hi;omega)
   simpa using this
  have hF1:(ys.take (ix+1)).filter (fun y=>!Pr y.1)=ys.take ix:=by
   rw[filter_upto _ _ _ hlt,hF0];simp[h1]
  have hM:MidB sB w g 93 (ys.take ix) (sB.row ys[ix]) (ys.drop (ix+1)) rest:=by
   unfold MidB
   rw[<-flat_el h.ok ix hlt];exact hk
  have hG0:(sB.row ys[ix]).length=(ix+1 - ix)*33:=by
   rw[Nat.add_sub_cancel_left,Nat.one_mul];exact sB.len _ _ (h.ok _ (List.getElem_mem hlt))
  have hFl:(ys.take ix).length=ix:=by rw[List.length_take];omega
  rw[<-hF1]at hM hFl
  have HM:=Lib.hid hM
  have HR:=Lib.hid h
  have HK:=Lib.hid hk
  have HMB:=Lib.hid (HP.map _ _ hI)
  have HNL:=Lib.hid hnl
  have HX:=Lib.hid hix
  have HG0:=Lib.hid hG0
  have HFL:=Lib.hid hFl
  have HRE:=Lib.hid hrest
  rw[<-hnl]at hcp hlt ⊢
  generalize sB.row ys[ix] = G0 at *
  clear hnl hix hM h hI hk hl hl2 h1 hF0 hF1 hG0 hFl hrest
  go_enter Tryz.func178,Tryz.ntmps178
  go_wp2_with fail
  rw[HNL.out]
  refine HIX.out.mono ?_
  rintro e w2 ⟨r,rfl,hr,hg2⟩
  rcases hr with⟨_,hr,_⟩ | ⟨hr,_,hI2⟩
  ·omega
  rw[<-HX.out]at hr hI2
  subst hr
  rw[<-HNL.out]
  have HM2:=Lib.hid (HM.out.kept hg2 fun e=>isMap_ne HMB.out HK.out (by cases e;rfl))
  have HI2:=Lib.hid hI2
  have HC2:=Lib.hid ((Chg.refl (fun k=>k=g\/k=mb) w).grown hg2 fun k hk _=>Or.inr (by cases hk;rfl))
  clear hg2 hI2
  have hm1:((ix:Int) == -1)=false:=by rw[beq_eq_false_iff_ne];omega
  go_wp2_with fail
  go_loopw [5,6] (fun vi vj wr=>∃(i j:Nat) (G:List Value),vi= .int .i64 i/\vj= .int .i64 j/\i < j/\j<=n/\Hid (((ys.take j).filter fun y=>!Pr y.1).length=i)/\Hid (G.length=(j - i)*33)/\Hid (MidB sB wr g 93 ((ys.take j).filter fun y=>!Pr y.1) G (ys.drop j) rest)/\Hid (I wr j)/\Hid (Chg (fun k=>k=g\/k=mb) w wr)) (fun _ j _=>n - (intOf j).toNat)
  case atStart=>exact⟨ix,ix+1,G0,rfl,by go_num,by omega,by omega,HFL,HG0,HM2,HI2,HC2⟩
  case round=>
   obtain⟨i,j,G,rfl,rfl,hij,hjn,HF,HG,HB,HI,HC⟩:=hrel
   have HFO:=Lib.hid (show∀y∈(ys.take j).filter (fun y=>!Pr y.1),sB.ok y.1 from fun y hy=>HR.out.ok y (List.mem_of_mem_take (List.mem_filter.1 hy).1))
   by_cases hjl:j < n
   ·have hjy:j < ys.length:=by rw[<-HNL.out];exact hjl
    have hdr:ys.drop j=ys[j]::ys.drop (j+1):=List.drop_eq_getElem_cons hjy
    have hfu:=filter_upto (fun y:Hd (Fct.Id×List Int)=>!Pr y.1) ys j hjy
    have hb1:=HB.out
    rw[hdr]at hb1
    have hoky:=HR.out.ok _ (List.getElem_mem hjy)
    have hca:=fun w h=>HP.call w j hjy h
    obtain⟨y,hy⟩:∃y,y=ys[j]:=⟨_,rfl⟩
    rw[<-hy]at hfu hb1 hoky hca
    have HFU:=Lib.hid hfu
    have HOK:=Lib.hid hoky
    have HCA:=Lib.hid hca
    have hr2:wr.rangeAt g (j*33) (bcells y.1 y.2.1 y.2.2):=hb1.range HFO.out HF.out HG.out (by omega)
    have l1:=load_OB hoky hr2
    have al:=alloc_OB wr
    have sN:=storeN_OB wr hoky y.2.1 y.2.2
    have hbk:Blk (wr.alloc (.cells (bcells y.1 y.2.1 y.2.2).toArray 93)) wr.heap.size (bcells y.1 y.2.1 y.2.2) 93:=Blk.new wr _ 93
    have hg2:=alloc_grown wr (.cells (bcells y.1 y.2.1 y.2.2).toArray 93) none
    have HI2:=Lib.hid (HP.stays _ _ _ none HI.out hg2 (fun k hk=>by cases hk))
    have HB2:=Lib.hid (hb1.kept hg2 (by simp))
    have HC2:=Lib.hid (HC.out.grown hg2 (by intro k hk;cases hk))
    obtain⟨b0,hb0⟩:∃b,b=wr.heap.size:=⟨_,rfl⟩
    rw[<-hb0]at al sN hbk
    have HBK:=Lib.hid hbk
    have l2:=load_OB hoky hbk.range
    obtain⟨F,hF⟩:∃F,F=(ys.take j).filter (fun y:Hd (Fct.Id×List Int)=>!Pr y.1):=⟨_,rfl⟩
    rw[<-hF]at HF HFO HFU HB2
    clear hF hb0 hy hfu hb1 hoky hca hdr hr2 hg2 hbk HB HI HC
    generalize wr.alloc (.cells (bcells (Fld.zero32,[]) none 0).toArray 93)=w1 at *
    generalize wr.alloc (.cells (bcells y.1 y.2.1 y.2.2).toArray 93)=w2 at *
    have hjn2:(0:Int)<=(j:Int)/\(j:Int) < (n:Int):=by omega
    have hin2:(0:Int)<=(i:Int)/\(i:Int) < (n:Int):=by omega
    go_wp2_with fail
    refine(HCA.out _ HI2.out).mono ?_
    rintro e w3 ⟨rfl,hI3,hg3⟩
    have HM2:=Lib.hid (HP.map _ _ HI2.out)
    have HB3:=Lib.hid (HB2.out.kept hg3 (fun e=>isMap_ne HM2.out (show Blk w2 g _ _ from HB2.out) (by cases e;rfl)))
    have HK3:=Lib.hid (blk_grown HBK.out hg3 (fun e=>isMap_ne HM2.out HBK.out (by cases e;rfl)))
    have HI3:=Lib.hid hI3
    have HC3:=Lib.hid (HC2.out.grown hg3 fun k hk _=>Or.inr (by cases hk;rfl))
    clear hI3 hg3 l1 l2 al sN
    cases hp:Pr y.1 with
    | true=>
       have HFU2:=Lib.hid (show(ys.take (j+1)).filter (fun y:Hd (Fct.Id×List Int)=>!Pr y.1)=F by rw[HFU.out,hp];simp)
       clear hp
       go_wp2_with fail
       go_roundw
       case rel=>
        refine⟨i,j+1,G++sB.row y,rfl,by go_num,by omega,by omega,?_,?_,?_,HI3,HC3⟩
        ·rw[HFU2.out];exact HF
        ·refine Lib.hid ?_
         rw[List.length_append,HG.out,show(sB.row y).length=33 from sB.len _ _ HOK.out,show j+1 - i=(j - i)+1 by omega,Nat.succ_mul]
        ·rw[HFU2.out];exact Lib.hid HB3.out.skip
       case measure=>simp[intOf];omega
    | false=>
       have HFU2:=Lib.hid (show(ys.take (j+1)).filter (fun y:Hd (Fct.Id×List Int)=>!Pr y.1)=F++[y] by rw[HFU.out,hp];simp)
       clear hp
       obtain⟨k1,k2,k3⟩:=HB3.out.keep HFO.out HOK.out HF.out HG.out hij
       have st:(storeOp 93 (.pointer (some ⟨g,i*33,none⟩)) (.agg (bcells y.1 y.2.1 y.2.2).toArray)).run Tryz.prog w3= .ok .skip (w3.setCells g (i*33) (sB.row y)):=k3 isize_B
       have hg4:=setCells_grown w3 g (i*33) (sB.row y)
       have l3:=load_OB HOK.out HK3.out.range
       have HI4:=Lib.hid (HP.stays _ _ _ (some g) HI3.out hg4 (fun k hk=>by cases hk;exact⟨_,_,HB3.out⟩))
       have HC4:=Lib.hid (HC3.out.grown hg4 fun k hk _=>Or.inl (by cases hk;rfl))
       have HB4:=Lib.hid k1
       have HG4:=Lib.hid k2
       clear k1 k2 k3 hg4
       have e1:sB.n=33:=rfl
       rw[e1]at HB4
       generalize w3.setCells g (i*33) (sB.row y)=w4 at *
       clear e1
       go_wp2_with fail
       go_roundw
       case rel=>
        refine⟨i+1,j+1,_,by go_num,by go_num,by omega,by omega,?_,HG4,?_,HI4,HC4⟩
        ·rw[HFU2.out];refine Lib.hid ?_;rw[List.length_append,HF.out];rfl
        ·rw[HFU2.out];exact HB4
       case measure=>simp[intOf];omega
   ·obtain rfl:j=n:=by omega
    have hdr:ys.drop j= []:=List.drop_eq_nil_of_le (by rw[HNL.out];omega)
    have htk:ys.take j=ys:=List.take_of_length_le (by rw[HNL.out];omega)
    rw[hdr]at HB
    rw[htk]at HB HF HFO
    have hz:=zsize_B
    obtain⟨zz,hzz⟩:∃zz:Value,zz= .agg (bcells (Fld.zero32,[]) none 0).toArray:=⟨_,rfl⟩
    have hzv:=zeroV_B
    rw[<-hzz]at hz hzv
    have hz1:∀v∈zz.cells.toList,v.oneCell'=true:=by rw[hzz];exact sB.one _ _ _
    have hZl:(Builtin.zeroCells zz.cells (j - i)).toList.length=(j - i)*33:=by rw[Array.length_toList,size_zeroCells,hz]
    obtain⟨hown,hth⟩:=HB.out.clear HFO.out HF.out HG.out hZl (by omega) hBg hcp hmx HRE.out
    have cl:=run_clearS (P:=Tryz.prog) wr Tryz.underlying41 hzv (by omega) hz1 g (i*33) (j - i) (cp - i) (by omega) (by rw[hz];exact hth)
    have hg4:=setCells_grown wr g (i*33) (Builtin.zeroCells zz.cells (j - i)).toList
    have HI4:=Lib.hid (HP.stays _ _ _ (some g) HI.out hg4 (fun k hk=>by cases hk;exact⟨_,_,HB.out⟩))
    have HC4:=Lib.hid (HC.out.grown hg4 fun k hk _=>Or.inl (by cases hk;rfl))
    have HO4:=Lib.hid hown
    have k0:=cut_lB (some ⟨g,0,none⟩) j cp i (by omega) hcp
    simp only[if_neg (show¬(cp=i) by omega),Option.map_some,Addr.add_mid,Nat.zero_add]at k0
    have k1:=cut_hB (some ⟨g,0,none⟩) j cp i (by omega)
    clear hown hth hg4 hz hzv hz1 hZl hzz hdr htk
    have e1:sB.n=33:=rfl
    rw[e1]at HO4
    clear e1
    generalize wr.setCells g (i*33) (Builtin.zeroCells zz.cells (j - i)).toList=w4 at *
    have hfl:=HF.out
    generalize j - i=dl at *
    generalize cp - i=dc at *
    go_wp2_with (at_builtin;refine clear_law _ rfl (.tmp 38) 41 rfl _ rfl (cl _) ?_)
    go_ret
    have hold:∀y∈ys,sB.Good w4 y.1 y.2.1 y.2.2/\U8 w4 y.2.1 (sB.byt y.1):=fun y hy=>by
     have hk:=u8_keeps HC4.out fun k cs hb=>by
      rintro(e | e)
      ·subst e;exact absurd (blk_ty hb HK.out) (by decide)
      ·exact isMap_ne HMB.out hb e.symm
     exact⟨good_blk (HR.out.good y hy).1 (HR.out.good y hy).2 hk,(HR.out.good y hy).2.on hk⟩
    refine⟨_,rfl,⟨?_,fun y hy=>hold y (List.mem_filter.1 hy).1⟩,by rw[<-HNL.out];exact HI4.out,HC4.out.mono fun k _ hk=>hk.imp (fun e=>by rw[e];rfl) id⟩
    rw[hfl];exact HO4.out
end
section
open Go.RowKit Sha Fct
attribute [local go_sem ↓] execOp_boxId execOp_loadId execOp_boxOB execOp_boxOK execOp_boxOH
def more1 (S:List Fct.Id)(d:Fct.Id):List Fct.Id:=if d∈S then S else S++[d]
def tk1 (f:Fac)(s:Int)(d:Fct.Id)(S:List Fct.Id):List Fct.Id:=if s=f.S then more1 S d else S
theorem mem_more1 {S:List Fct.Id} {d x:Fct.Id}:x∈more1 S d↔x∈S\/x=d:=by
 unfold more1
 split
 ·rename_i h
  constructor
  ·exact Or.inl
  ·rintro(h2 | rfl)
   ·exact h2
   ·exact h
 ·simp
theorem take_any (f:Fac)(q:Option Addr)(c:Nat)(s:Int)(d:Fct.Id)(gf gm mb:Nat)(S:List Fct.Id)(w:World)(hd:idOk d)(hF:Blk w gf (fcells f q c) 28)(hM:Blk w gm [.map (some mb)] 215)(hT:Takn w mb S):
 Calls Tryz.prog 163 #[.int .i64 s,.agg (d.map v8).toArray,.pointer (some ⟨gf,0,none⟩),.pointer (some ⟨gm,0,none⟩)] w fun e w'=>
  e= .returned (.bool (decide (s=f.S)))/\Takn w' mb (tk1 f s d S)/\w.grownBy w' (some mb):=by
 have bx:=run_boxOp (P:=Tryz.prog) (t:=25) (cs:=(d.map v8).toArray) w
 have hb1:=(Below.refl w.heap.size w).alloc (Nat.le_refl _) (.cells (d.map v8).toArray 25)
 have hk1:Blk (w.alloc (.cells (d.map v8).toArray 25)) w.heap.size (d.map v8) 25:=Blk.new w _ 25
 obtain⟨g0,hg0⟩:∃g,g=w.heap.size:=⟨_,rfl⟩
 rw[<-hg0]at bx hk1
 generalize w.alloc (.cells (d.map v8).toArray 25)=w1 at *
 have c1:w1.cell? ⟨gf,1,none⟩=some (i64c f.S):=((hF.below hb1 hF.lt).cell 1).trans (fcells_S f q c)
 have c2:w1.cell? ⟨gm,0,none⟩=some (.map (some mb)):=(hM.below hb1 hM.lt).cell 0
 have l1:=load_idr (g:=g0) (o:=0) hd.1 hk1.range
 have hT1:=hT.below hb1
 have HG1:=Lib.hid (below_grown hb1 (some mb))
 have HT1:=Lib.hid hT1
 obtain⟨w2,pu,hT2,hg2⟩:=hT1.put hd
 have HT2:=Lib.hid hT2
 have HG2:=Lib.hid hg2
 clear hT1 hT2 hg2 hb1 hk1 hF hM hT hg0
 by_cases hs:s=f.S
 ·have h1:(s != f.S)=false:=by simp[hs]
  have HS:=Lib.hid hs
  clear hs
  go_enter Tryz.func163,Tryz.ntmps163
  go_wp2_with fail
  go_ret
  exact⟨by rw[decide_eq_true HS.out];rfl,by unfold tk1;rw[if_pos HS.out];exact HT2.out,grown_trans HG1.out HG2.out⟩
 ·have h1:(s != f.S)=true:=by simpa using hs
  have HS:=Lib.hid hs
  clear hs
  go_enter Tryz.func163,Tryz.ntmps163
  go_wp2_with fail
  go_ret
  exact⟨by rw[decide_eq_false HS.out];rfl,by unfold tk1;rw[if_neg HS.out];exact HT1.out,HG1.out⟩
theorem kcells_id (x:Int×Fct.Id)(q:Option Addr)(c:Nat):kcells x q c= [i64c x.1]++x.2.map v8++[]:=by unfold kcells;simp
theorem hcells_id (x:Int×Int×Fct.Id)(q:Option Addr)(c:Nat):hcells x q c= [i64c x.1,i64c x.2.1]++x.2.2.map v8++[]:=by unfold hcells;simp
theorem bcells_id (x:Fct.Id×List Int)(q:Option Addr)(c:Nat):bcells x q c= []++x.1.map v8++[.slice q x.2.length c]:=by unfold bcells;simp
theorem range_mid {w:World} {g o:Nat} {pre cs post:List Value} {t:TypeId}(h:Blk w g (pre++cs++post) t)(ho:pre.length=o):w.rangeAt g o cs:=fun j u hj=>by
 have:=cells_in (o:=o) h ho j u hj
 rw[Addr.add_mid]at this;exact this
structure TkB (w:World)(f:Fac)(q:Option Addr)(c:Nat)(gt gf gm mb:Nat):Prop where
 t:Blk w gt [.func (.func 163) #[] #[.pointer (some ⟨gf,0,none⟩),.pointer (some ⟨gm,0,none⟩)]] 221
 f:Blk w gf (fcells f q c) 28
 m:Blk w gm [.map (some mb)] 215
theorem TkB.grown {w w':World} {f:Fac} {q:Option Addr} {c gt gf gm mb:Nat} {row:Option Nat}(h:TkB w f q c gt gf gm mb)(hg:w.grownBy w' row)(hr:∀k cs t,row=some k->Blk w k cs t->t≠221/\t≠28/\t≠215):TkB w' f q c gt gf gm mb:=
 ⟨blk_grown h.t hg fun e=>(hr _ _ _ e h.t).1 rfl,blk_grown h.f hg fun e=>(hr _ _ _ e h.f).2.1 rfl,blk_grown h.m hg fun e=>(hr _ _ _ e h.m).2.2 rfl⟩
theorem tk2_any (x:Int×Fct.Id)(xq:Option Addr)(xc:Nat)(hx:sK.ok x)(f:Fac)(q:Option Addr)(c gt gf gm mb:Nat)(S:List Fct.Id)(w:World)(hB:TkB w f q c gt gf gm mb)(hT:Takn w mb S):
 Calls Tryz.prog 165 #[.agg (kcells x xq xc).toArray,.pointer (some ⟨gt,0,none⟩)] w fun e w'=>
  e= .returned (.bool (decide (x.1=f.S)))/\Takn w' mb (tk1 f x.1 x.2 S)/\w.grownBy w' (some mb):=by
 have bx:=run_boxOp (P:=Tryz.prog) (t:=95) (cs:=(kcells x xq xc).toArray) w
 have hb1:=(Below.refl w.heap.size w).alloc (Nat.le_refl _) (.cells (kcells x xq xc).toArray 95)
 have hk1:Blk (w.alloc (.cells (kcells x xq xc).toArray 95)) w.heap.size (kcells x xq xc) 95:=Blk.new w _ 95
 obtain⟨g0,hg0⟩:∃g,g=w.heap.size:=⟨_,rfl⟩
 rw[<-hg0]at bx hk1
 generalize w.alloc (.cells (kcells x xq xc).toArray 95)=w1 at *
 have c1:w1.cell? ⟨gt,0,none⟩=some (.func (.func 163) #[] #[.pointer (some ⟨gf,0,none⟩),.pointer (some ⟨gm,0,none⟩)]):=(hB.t.below hb1 hB.t.lt).cell 0
 have c2:w1.cell? ⟨g0,0,none⟩=some (i64c x.1):=hk1.cell 0
 rw[kcells_id]at hk1
 have l1:=load_idr (g:=g0) (o:=1) hx.2.1 (range_mid hk1 rfl)
 have HT:=Lib.hid (take_any f q c x.1 x.2 gf gm mb S w1 hx.2 (hB.f.below hb1 hB.f.lt) (hB.m.below hb1 hB.m.lt) (hT.below hb1))
 have HG1:=Lib.hid (below_grown hb1 (some mb))
 clear hb1 hk1 hB hT hg0
 go_enter Tryz.func165,Tryz.ntmps165
 go_wp2_with fail
 refine HT.out.mono ?_
 rintro e w2 ⟨rfl,hT2,hg2⟩
 have HT2:=Lib.hid hT2
 have HG2:=Lib.hid (grown_trans HG1.out hg2)
 clear hT2 hg2
 go_wp2_with fail
 go_ret
 exact⟨rfl,HT2.out,HG2.out⟩
theorem tk3_any (x:Int×Int×Fct.Id)(xq:Option Addr)(xc:Nat)(hx:sH.ok x)(f:Fac)(q:Option Addr)(c gt gf gm mb:Nat)(S:List Fct.Id)(w:World)(hB:TkB w f q c gt gf gm mb)(hT:Takn w mb S):
 Calls Tryz.prog 167 #[.agg (hcells x xq xc).toArray,.pointer (some ⟨gt,0,none⟩)] w fun e w'=>
  e= .returned (.bool (decide (x.2.1=f.S)))/\Takn w' mb (tk1 f x.2.1 x.2.2 S)/\w.grownBy w' (some mb):=by
 have bx:=run_boxOp (P:=Tryz.prog) (t:=97) (cs:=(hcells x xq xc).toArray) w
 have hb1:=(Below.refl w.heap.size w).alloc (Nat.le_refl _) (.cells (hcells x xq xc).toArray 97)
 have hk1:Blk (w.alloc (.cells (hcells x xq xc).toArray 97)) w.heap.size (hcells x xq xc) 97:=Blk.new w _ 97
 obtain⟨g0,hg0⟩:∃g,g=w.heap.size:=⟨_,rfl⟩
 rw[<-hg0]at bx hk1
 generalize w.alloc (.cells (hcells x xq xc).toArray 97)=w1 at *
 have c1:w1.cell? ⟨gt,0,none⟩=some (.func (.func 163) #[] #[.pointer (some ⟨gf,0,none⟩),.pointer (some ⟨gm,0,none⟩)]):=(hB.t.below hb1 hB.t.lt).cell 0
 have c2:w1.cell? ⟨g0,1,none⟩=some (i64c x.2.1):=hk1.cell 1
 rw[hcells_id]at hk1
 have l1:=load_idr (g:=g0) (o:=2) hx.2.2.1 (range_mid hk1 rfl)
 have HT:=Lib.hid (take_any f q c x.2.1 x.2.2 gf gm mb S w1 hx.2.2 (hB.f.below hb1 hB.f.lt) (hB.m.below hb1 hB.m.lt) (hT.below hb1))
 have HG1:=Lib.hid (below_grown hb1 (some mb))
 clear hb1 hk1 hB hT hg0
 go_enter Tryz.func167,Tryz.ntmps167
 go_wp2_with fail
 refine HT.out.mono ?_
 rintro e w2 ⟨rfl,hT2,hg2⟩
 have HT2:=Lib.hid hT2
 have HG2:=Lib.hid (grown_trans HG1.out hg2)
 clear hT2 hg2
 go_wp2_with fail
 go_ret
 exact⟨rfl,HT2.out,HG2.out⟩
theorem rl1_any (x:Fct.Id×List Int)(xq:Option Addr)(xc:Nat)(hx:sB.ok x)(gb mb:Nat)(S:List Fct.Id)(w:World)(hB:Blk w gb [.map (some mb)] 215)(hT:Takn w mb S):
 Calls Tryz.prog 179 #[.agg (bcells x xq xc).toArray,.pointer (some ⟨gb,0,none⟩)] w fun e w'=>e= .returned (.bool (decide (x.1∈S)))/\Below w.heap.size w w':=by
 have bx:=run_boxOp (P:=Tryz.prog) (t:=93) (cs:=(bcells x xq xc).toArray) w
 have hb1:=(Below.refl w.heap.size w).alloc (Nat.le_refl _) (.cells (bcells x xq xc).toArray 93)
 have hk1:Blk (w.alloc (.cells (bcells x xq xc).toArray 93)) w.heap.size (bcells x xq xc) 93:=Blk.new w _ 93
 obtain⟨g0,hg0⟩:∃g,g=w.heap.size:=⟨_,rfl⟩
 rw[<-hg0]at bx hk1
 generalize w.alloc (.cells (bcells x xq xc).toArray 93)=w1 at *
 have c1:w1.cell? ⟨gb,0,none⟩=some (.map (some mb)):=(hB.below hb1 hB.lt).cell 0
 rw[bcells_id]at hk1
 have l1:=load_idr (g:=g0) (o:=0) hx.1.1 (range_mid hk1 rfl)
 have lk:=(hT.below hb1).look hx.1
 have HB1:=Lib.hid hb1
 clear hb1 hk1 hB hT hg0
 by_cases hs:x.1∈S
 ·rw[if_pos hs]at lk
  rw[decide_eq_true hs]
  clear hs
  go_enter Tryz.func179,Tryz.ntmps179
  go_wp2_with fail
  go_ret
  exact⟨rfl,HB1.out⟩
 ·rw[if_neg hs]at lk
  rw[decide_eq_false hs]
  clear hs
  go_enter Tryz.func179,Tryz.ntmps179
  go_wp2_with fail
  go_ret
  exact⟨rfl,HB1.out⟩
end
end Go.Proofs.YtokpabkcaofahaaGreat
