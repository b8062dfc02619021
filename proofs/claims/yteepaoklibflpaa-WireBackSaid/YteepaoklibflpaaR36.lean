/-
  The wire package's note, walked (written by mknwm15.py).
-/
import Derived.Test.YteepaoklibflpaaR35
namespace Go.Proofs.Yteepaoklibflpaa
section
set_option linter.unusedSimpArgs false
set_option linter.unusedVariables false
open Go.RowKit Sha Nte
open Fld (Itm)
theorem own_sI {w : World} {B n : Nat} {e : TypeId} {r : Option Addr} {d : Nat} {l : List (List Int)} (ho : w.ownsRow B e 32 (.slice r n d) n (l.flatMap (fun d => d.map v8))) (hn : n = l.length) (hl : ∀ d ∈ l, Frm.Bytes d ∧ d.length = 32) : sI.Told w r n d l := by
  obtain ⟨p, cap, he, h1, h2, hA, _, h3⟩ := nown_at ho
  cases he
  refine ⟨hn, h1, by unfold maxLen at h2; omega, h3, ⟨l.map fun d => (d, none, 0), by rw [List.map_map]; exact List.map_id' _, ?_, ?_⟩⟩
  · rw [List.flatMap_map]; exact hA
  · intro y hy
    obtain ⟨d, hd, rfl⟩ := List.mem_map.1 hy
    exact ⟨hl d hd, At.nil _ _, Nat.zero_le _, Nat.zero_le _, fun _ => rfl⟩
theorem own_sW {w : World} {B n : Nat} {e : TypeId} {r : Option Addr} {d : Nat} {l : List Mb} (ho : w.ownsRow B e 3 (.slice r n d) n (l.flatMap nmc)) (hn : n = l.length) (hl : ∀ m ∈ l, m.ok) : sW.Told w r n d l := by
  obtain ⟨p, cap, he, h1, h2, hA, _, h3⟩ := nown_at ho
  cases he
  refine ⟨hn, h1, by unfold maxLen at h2; omega, h3, ⟨l.map fun m => (m, none, 0), by rw [List.map_map]; exact List.map_id' _, ?_, ?_⟩⟩
  · rw [List.flatMap_map]; exact hA
  · intro y hy
    obtain ⟨m, hm, rfl⟩ := List.mem_map.1 hy
    exact ⟨hl m hm, At.nil _ _, Nat.zero_le _, Nat.zero_le _, fun _ => rfl⟩
theorem note_good {w0 w : World} {x : Not} {h : NHd} (hx : x.ok) (hX : GoodI w0 (iB x.X) h.q h.c) (hI : w.ownsRow w0.heap.size 27 32 (.slice h.r x.I.length h.d) x.I.length (x.I.flatMap (fun d => d.map v8)))
    (hW : w.ownsRow w0.heap.size 67 3 (.slice h.s x.W.length h.e) x.W.length (x.W.flatMap nmc)) (hb : Below w0.heap.size w0 w) : NGood w x h :=
  ⟨hx, (show At w0 h.q (x.X.map v8) from hX.at_).below hb, hX.le, hX.max, hX.nil, own_sI hI rfl hx.I, own_sW hW rfl hx.W⟩
theorem bs_good {U : List Int → Option Addr → Nat → Prop} {w0 w : World} {gb : Nat} {ys : List Hdr} {wr : Bool} {x : Not} {h : NHd} (b : Bs U w0 gb ys wr x h w) : NGood w x h := note_good b.ok b.X b.I b.W b.rd.below
theorem Bs.row {U : List Int → Option Addr → Nat → Prop} {w0 w : World} {gb gr : Nat} {ys : List Hdr} {wr : Bool} {x : Not} {h : NHd} (b : Bs U w0 gb ys wr x h w) (hg : w0.heap.size ≤ gr) (hne : gr ≠ gb) {gf : Nat} (_ : gf ≠ gr) {cs : List Value} (hk : Blk w gr cs 32) (cs' : List Value) : Bs U w0 gb ys wr x h (w.setRow gr cs'.toArray) := by
  obtain ⟨⟨q, n, c, h1, h2⟩, h3, h4⟩ := b.rd
  have ho : Only gr w (w.setRow gr cs'.toArray) := ⟨Go.Proofs.Yteepaoklibflpaa.Below.setRow (Below.refl _ _) (Nat.zero_le _) _, fun k hk hne => by
    by_cases h : k < gr
    · exact (Go.Proofs.Yteepaoklibflpaa.Below.setRow (Below.refl gr w) (Nat.le_refl _) cs'.toArray).block k h
    · simp only [World.setRow]
      rw [Array.getElem?_modify, if_neg (fun e => hne e.symm)]⟩
  have hrow : ∀ {B n size : Nat} {e : TypeId} {v : Value} {xs : List Value}, w.ownsRow B e size v n xs → e ≠ 32 → (w.setRow gr cs'.toArray).ownsRow B e size v n xs := fun h he => row_carry h fun k c fz _ hh => ho.keep hh (fun e' => by
    subst e'
    unfold Blk at hk
    rw [hh] at hk
    have := Option.some.inj hk
    injection this with _ h2
    exact he h2)
  exact ⟨⟨⟨q, n, c, h1, h2.rowOther _ (Ne.symm hne)⟩, Go.Proofs.Yteepaoklibflpaa.Below.setRow h3 hg _, h4⟩, b.ok, hrow b.I (by decide), hrow b.W (by decide), b.X, b.U⟩
theorem hs_any {U : List Int → Option Addr → Nat → Prop} {w0 w : World} {gb gf : Nat} {ys : List Hdr} {q : Bool} {x : Not} {h : NHd} {t t1 t2 : ByteArray} (hx : x.D.length = 32) (b : Bs U w0 gb ys q x h w) (hf : Blk w gf (fcs t t1 t2) 51) :
    (loadOp 32 (.pointer (some ⟨gb, 2, none⟩))).run Try.prog w = .ok (.value (.agg (ncells x h).toArray)) w ∧ w.cell? ⟨gb, 1, none⟩ = some (.bool q) ∧ (loadOp 51 (.pointer (some ⟨gf, 0, none⟩))).run Try.prog w = .ok (.value (.agg #[.string t, .string t1, .string t2])) w :=
  ⟨load_part15 hx b.rd, b.rd.wrong.1, load_wform hf⟩
section
attribute [local go_sem ↓] execOp_boxForm15 execOp_loadForm15 execOp_allocNote execOp_storeNote execOp_loadNote execOp_makeRd15 execOp_makeBd15 execOp_allocBd15 execOp_storeBd15
set_option maxRecDepth 100000 in
set_option maxHeartbeats 4000000 in
theorem wnote_any (U : List Int → Option Addr → Nat → Prop) (z : Not) (v : Int) (p : Option Addr) (n c : Nat) (ys : List Hdr) (w : World) (hz : z.ok) (hfew : z.I.length ≤ 4000 ∧ z.W.length ≤ 4000) (hits : ys.map (·.1) = itemsR z v) (hl : LeftAt w p n c ys) (hu : ∀ y ∈ ys, U y.1.B y.2.1 y.2.2) (hu0 : U [] none 0) :
    Calls Try.prog 21 #[wform z.K, .slice p n c] w (NNote U w (noteR z v) (decide (mayR z v))) := by
  have hnm := kHas_nums z.K
  have HIS := Lib.hid (letters_isT z.K)
  have H128 := Lib.hid (letters_128 z.K)
  have HND := Lib.hid (letters_nodup z.K)
  have hmay := wrong_may z v
  have hnK := noteR_K z v
  have hnf := noteR_few hfew v
  have hno := noteR_ok hz v
  have hAG := fun h' w' g' => wagrees_any (noteR z v) h' w' g' ⟨hnf.1, hnf.2⟩
  rw [hnK] at hAG
  have HAG := Lib.hid (show ∀ h' w', NGood w' (noteR z v) h' → Calls Try.prog 39 #[.agg #[.string (kHas z.K), .string (kYes z.K), .string (kNo z.K)], .agg (ncells (noteR z v) h').toArray] w' fun e w'' => e = .returned (.bool (decide (agr (noteR z v)))) ∧ Below w'.heap.size w' w'' from hAG)
  have HFD := Lib.hid (show noteR z v = (letters z.K).foldl (setR z v) (base z.K z.F z.T) from rfl)
  unfold itemsR at hits
  obtain ⟨y1, ys1, rfl, i1, hits⟩ := hdc hits
  obtain ⟨y2, ys2, rfl, i2, hits⟩ := hdc hits
  obtain ⟨y3, rest, rfl, i3, hits⟩ := hdc hits
  have HIT := Lib.hid hits
  have HNO := Lib.hid hno
  have HZ := Lib.hid hz
  have HFEW := Lib.hid hfew
  show Calls Try.prog 21 #[.agg #[.string (kHas z.K), .string (kYes z.K), .string (kNo z.K)], .slice p n c] w _
  obtain ⟨b, hb⟩ : ∃ b, b = decide (mayR z v) := ⟨_, rfl⟩
  rw [← hb] at hmay ⊢
  have HMAY := Lib.hid hmay
  clear hnK hnf hno hAG hits hb hmay hz hfew
  generalize noteR z v = xr at *
  generalize kHas z.K = t at *
  generalize kYes z.K = t1 at *
  generalize kNo z.K = t2 at *
  generalize letters z.K = l at *
  have HL := Lib.hid (show l.length = t.size by rw [← hnm, nums_length])
  have HNM := Lib.hid hnm
  clear hnm
  -- the worlds ahead
  have bx1 := run_boxOp (P := Try.prog) (t := 51) (cs := #[.string t, .string t1, .string t2]) w
  have hb1 := (Below.refl w.heap.size w).alloc (Nat.le_refl _) (.cells #[.string t, .string t1, .string t2] 51)
  have hk1 : Blk (w.alloc (.cells #[.string t, .string t1, .string t2] 51)) w.heap.size (fcs t t1 t2) 51 := Blk.new w #[.string t, .string t1, .string t2] 51
  have hs1 : (w.alloc (.cells #[.string t, .string t1, .string t2] 51)).heap.size = w.heap.size + 1 := World.size_alloc ..
  obtain ⟨gf, hgf⟩ : ∃ gf, gf = w.heap.size := ⟨_, rfl⟩
  obtain ⟨w1, hw1⟩ : ∃ v, v = w.alloc (.cells #[.string t, .string t1, .string t2] 51) := ⟨_, rfl⟩
  rw [← hw1] at bx1 hb1 hk1 hs1
  rw [← hgf] at bx1 hk1
  have al1 := alloc_note w1
  have hb2 := hb1.alloc hb1.size (.cells (ncells none_ NHd.none_).toArray 32)
  have hk2 : Blk (w1.alloc (.cells (ncells none_ NHd.none_).toArray 32)) w1.heap.size (ncells none_ NHd.none_) 32 := Blk.new w1 (ncells none_ NHd.none_).toArray 32
  have hf2 := hk1.old (.cells (ncells none_ NHd.none_).toArray 32)
  have hs2 : (w1.alloc (.cells (ncells none_ NHd.none_).toArray 32)).heap.size = w1.heap.size + 1 := World.size_alloc ..
  obtain ⟨gr, hgr⟩ : ∃ gr, gr = w1.heap.size := ⟨_, rfl⟩
  obtain ⟨w2, hw2⟩ : ∃ v, v = w1.alloc (.cells (ncells none_ NHd.none_).toArray 32) := ⟨_, rfl⟩
  rw [← hw2] at al1 hb2 hk2 hf2 hs2
  rw [← hgr] at al1 hk2
  have mk1 := fun w => make_rd15 p n c w
  have mk2 := fun w => make_bd15 p n c w
  have al2 := alloc_bd15 w2
  have st2 := store_bd15 w2 p n c
  have hb3 := hb2.alloc hb2.size (.cells (bcells p n c).toArray 84)
  have hk3 : Blk (w2.alloc (.cells (bcells p n c).toArray 84)) w2.heap.size (bcells p n c) 84 := Blk.new w2 (bcells p n c).toArray 84
  have hf3 := hf2.old (.cells (bcells p n c).toArray 84)
  have hr3 := hk2.old (.cells (bcells p n c).toArray 84)
  obtain ⟨gb, hgb⟩ : ∃ gb, gb = w2.heap.size := ⟨_, rfl⟩
  obtain ⟨w3, hw3⟩ : ∃ v, v = w2.alloc (.cells (bcells p n c).toArray 84) := ⟨_, rfl⟩
  rw [← hw3] at st2 hb3 hk3 hf3 hr3
  rw [← hgb] at al2 st2 hk3
  have HG1 := Lib.hid (show gf ≠ gb ∧ gr ≠ gb ∧ gf ≠ gr ∧ w.heap.size ≤ gr ∧ w.heap.size ≤ gb by omega)
  have HF3 := Lib.hid hf3
  have HR3 := Lib.hid hr3
  have HB3 := Lib.hid hb3
  have RD3 := Lib.hid (show Rd w gb (y1 :: y2 :: y3 :: rest) false (ncells none_ NHd.none_) w3 from ⟨⟨p, n, c, hl, hk3⟩, hb3, HG1.out.2.2.2.2⟩)
  have HU := Lib.hid hu
  have HU0 := Lib.hid hu0
  have HCALL := Lib.hid (whead_any w gb y1 y2 y3 rest false none_ NHd.none_ w3 RD3)
  rw [iN_of i1, iN_of i2, iN_of i3] at HCALL
  clear hw1 hb1 hk1 hw2 hb2 hk2 hf2 hw3 hb3 hk3 hf3 hr3 hgf hgr hgb hl hs1 hs2 i1 i2 i3 hu hu0
  go_enter Try.func21, Try.ntmps21
  go_wp2_with fail
  refine HCALL.out.mono ?_
  rintro e w4 ⟨rfl, hr4, ho4⟩
  have F4 := Lib.hid (ho4.blk HF3.out HG1.out.1)
  have N4 := Lib.hid (ho4.blk HR3.out HG1.out.2.1)
  have B4 := Lib.hid (ho4.below HB3.out HG1.out.2.2.2.2 HB3.out.size)
  have BS4 := Lib.hid (show Bs U w gb rest (wrongR z v (l.take 0)) (base z.K z.F z.T) NHd.none_ w4 from ⟨by
    have e : (false || !decide (nodeOk z.F ∧ nodeOk z.T ∧ z.F ≠ z.T)) = wrongR z v (l.take 0) := by
      unfold wrongR headR
      rw [List.take_zero, Bool.false_or]
      congr 1
      exact decide_eq_decide.2 ⟨fun h => ⟨h, by simp⟩, fun h => h.1⟩
    rw [← e]; exact hr4, ⟨HZ.out.K, HZ.out.F, HZ.out.T, none_ok.C, none_ok.S, none_ok.H, none_ok.B, none_ok.O, none_ok.D, none_ok.len, none_ok.X, none_ok.Xl, none_ok.I, none_ok.Il, none_ok.W, none_ok.Wl⟩, World.ownsRow_nil _ _ _ _, World.ownsRow_nil _ _ _ _, ⟨iB_ok (fun n hn => by simp [base, none_] at hn), At.nil _ _, by simp [iB, base, none_], by simp [NHd.none_], fun _ => rfl⟩, HU0.out⟩)
  clear hr4 ho4 HCALL RD3 HF3 HR3 HB3 bx1 al1 al2 st2
  have c4 : w4.cell? ⟨gf, 0, none⟩ = some (.string t) := F4.out.cell 0
  go_wp2_with fail
  have HI5 := Lib.hid (World.iter_heap w4 t 0)
  have hal : (w4.iter t 0) = w4.alloc (.stringIter t 0) := rfl
  obtain ⟨gi, hgi⟩ : ∃ gi, gi = w4.heap.size := ⟨_, rfl⟩
  have HG := Lib.hid (show w.heap.size ≤ gi ∧ w4.heap.size ≤ gi by rw [hgi]; exact ⟨B4.out.size, Nat.le_refl _⟩)
  have O5 := Lib.hid (show Only gb w4 (w4.iter t 0) from by rw [hal]; exact (Only.refl gb w4).alloc _)
  have BL5 := Lib.hid (show BLoop U w gb z v l 0 (w4.iter t 0) (base z.K z.F z.T) NHd.none_ rest from ⟨by rw [hal]; exact BS4.out.alloc ((Below.refl _ _).alloc (Nat.le_refl _) _), HIT.out, fun y hy => HU.out y (by simp [hy]), fun _ => ⟨rfl, rfl, rfl⟩, fun _ => ⟨rfl, rfl, rfl⟩, rfl⟩)
  rw [← hgi] at HI5 ⊢
  clear hal hgi BS4 c4
  generalize w4.iter t 0 = w5 at *
  go_loopg [8] t.size (fun gh vv wr => ∃ (j : Nat) (u : Value) (x : Not) (h : NHd) (rs : List Hdr), u = vv ∧ j ≤ t.size ∧ gh = t.size - j ∧ Hid (BLoop U w gb z v l j wr x h rs) ∧ Hid (wr.heap[gi]? = some (.stringIter t j)) ∧ Hid (Only gb w4 wr))
  case atStart => exact ⟨0, _, base z.K z.F z.T, NHd.none_, rest, rfl, by omega, rfl, BL5, HI5, O5⟩
  case round =>
    obtain ⟨j, u, x, h, rs, rfl, hj, rfl, HBL, HI, HO⟩ := hrel
    clear BL5 HI5 O5
    by_cases hp : j < t.size
    · obtain ⟨ch, hn, hch⟩ := wire_next t l HNM.out j hp H128.out
      have hnx := fun ty => hn.run wr gi ty HI.out
      have hcm : ch ∈ l := List.mem_of_getElem? hch
      have HC := Lib.hid (HIS.out ch hcm)
      have hjl : j < l.length := by rw [HL.out]; exact hp
      have hle : l[j] = ch := by rw [List.getElem?_eq_getElem hjl] at hch; exact Option.some.inj hch
      have hdr : l.drop j = ch :: l.drop (j + 1) := by rw [List.drop_eq_getElem_cons hjl, hle]
      have htk : l.take (j + 1) = l.take j ++ [ch] := by rw [List.take_succ_eq_append_getElem hjl, hle]
      have hnot : ch ∉ l.drop (j + 1) := by
        have h1 : (l.drop j).Nodup := HND.out.sublist (List.drop_sublist _ _)
        rw [hdr] at h1
        exact (List.nodup_cons.1 h1).1
      have hit := HBL.out.its
      rw [hdr] at hit
      obtain ⟨hs, zs, rfl, hq1, hq2⟩ := split_hdrs hit
      have HB6 := Lib.hid (HBL.out.bs.iter HI.out HG.out.1 (j + 1))
      have HI6 := Lib.hid (Lib.iterAt_heap _ _ _ _ (j + 1) HI.out)
      have HO6 := Lib.hid (HO.out.iter HG.out.2 t (j + 1))
      have hgi2 : gi ≠ gb := by
        intro e
        obtain ⟨cs, hk⟩ := HBL.out.bs.rd.blk
        rw [← e] at hk
        unfold Blk at hk
        rw [HI.out] at hk; cases hk
      have HGI := Lib.hid hgi2
      obtain ⟨w6, hw6⟩ : ∃ w6, w6 = wr.iterAt gi t (j + 1) := ⟨_, rfl⟩
      rw [← hw6] at hnx HB6 HI6 HO6
      have HLI := Lib.hid (show LIn U w gb hs zs (wrongR z v (l.take j)) x h w6 z v ch from ⟨HB6.out, hq1, HZ.out, fun e => HBL.out.I0 (by rw [hdr, e]; exact List.mem_cons_self ..), fun e => HBL.out.W0 (by rw [hdr, e]; exact List.mem_cons_self ..), HFEW.out.1, HFEW.out.2, fun y hy => HBL.out.us y (List.mem_append_left _ hy)⟩)
      have HNX := Lib.hid (show ∀ (h' : NHd) (w' : World), Bs U w gb zs (wrongR z v (l.take j) || !decide (okR z v ch)) (setR z v x ch) h' w' → (ch ≠ 105 → h'.r = h.r ∧ h'.d = h.d) → (ch ≠ 119 → h'.s = h.s ∧ h'.e = h.e) → BLoop U w gb z v l (j + 1) w' (setR z v x ch) h' zs from fun h' w' hb' k1 k2 => by
        refine ⟨by rw [htk, wrong_next]; exact hb', hq2, fun y hy => HBL.out.us y (List.mem_append_right _ hy), fun hm => ?_, fun hm => ?_, ?_⟩
        · have hne : ch ≠ 105 := by rintro rfl; exact hnot hm
          obtain ⟨a1, a2, a3⟩ := HBL.out.I0 (by rw [hdr]; exact List.mem_cons_of_mem _ hm)
          rw [setR_I hne, (k1 hne).1, (k1 hne).2]; exact ⟨a1, a2, a3⟩
        · have hne : ch ≠ 119 := by rintro rfl; exact hnot hm
          obtain ⟨a1, a2, a3⟩ := HBL.out.W0 (by rw [hdr]; exact List.mem_cons_of_mem _ hm)
          rw [setR_W hne, (k2 hne).1, (k2 hne).2]; exact ⟨a1, a2, a3⟩
        · rw [htk, List.foldl_append, ← HBL.out.eq]; rfl)
      clear hn hch hcm hle hdr htk hnot hit hq1 hq2 HI HO hw6 HB6 hgi2 hjl HBL
      go_wp2_with fail
      refine (wlay_any U w gb hs zs (wrongR z v (l.take j)) x h w6 z v ch HC.out HLI.out).mono ?_
      rintro e w7 ⟨rfl, h7, hb7, k1, k2, ho7⟩
      have BL7 := Lib.hid (HNX.out h7 w7 hb7 k1 k2)
      have HI7 := Lib.hid (ho7.keep HI6.out HGI.out)
      have HO7 := Lib.hid (HO6.out.trans ho7)
      clear hb7 k1 k2 ho7 HNX HLI HI6 HO6
      go_wp2_with fail
      go_roundg (t.size - (j + 1))
      case measure => omega
      case rel => exact ⟨j + 1, _, _, h7, zs, rfl, by omega, rfl, BL7, HI7, HO7⟩
    · obtain rfl : j = t.size := by omega
      have hnx := fun ty => Lib.run_next_end_at (P := Try.prog) wr gi t t.size ty HI.out (by omega)
      have HTL := Lib.hid (show l.take t.size = l from List.take_of_length_le (by rw [HL.out]; exact Nat.le_refl _))
      have hxe : x = xr := by rw [HBL.out.eq, HTL.out, HFD.out]
      subst hxe
      have BS := Lib.hid (by have := HBL.out.bs; rw [HTL.out] at this; exact this)
      have F6 := Lib.hid (HO.out.blk F4.out HG1.out.1)
      have N6 := Lib.hid (HO.out.blk N4.out HG1.out.2.1)
      obtain ⟨q, hq⟩ : ∃ q, q = wrongR z v l := ⟨_, rfl⟩
      rw [← hq] at BS HMAY
      have HMY := Lib.hid (show b = (!q && decide (agr x)) from HMAY.out)
      clear HBL HI HO hq HMAY F4 N4
      go_wp2_with fail
      have HNG := Lib.hid (show ∀ w', Below wr.heap.size wr w' → NGood w' x h from fun w' hb' => by
        have b2 := BS.out.alloc hb'
        exact bs_good b2)
      have HNB := Lib.hid HG1.out.2.2.1
      cases q with
      | true =>
        have hb0 : b = false := HMY.out
        subst hb0
        have HS := Lib.hid (show ∀ w', Below wr.heap.size wr w' → _ from fun w' hb' => hs_any (q := true) HNO.out.len (BS.out.alloc hb') (F6.out.below hb' F6.out.lt))
        have HFW := Lib.hid (show ∀ w', Below wr.heap.size wr w' → Blk (w'.setRow gr (ncells x h).toArray) gf (fcs t t1 t2) 51 from fun w' hb' => (F6.out.below hb' F6.out.lt).rowOther _ HNB.out)
        refine wp_region_held_drew (S := (fun w' => (loadOp 32 (.pointer (some ⟨gb, 2, none⟩))).run Try.prog w' = .ok (.value (.agg (ncells x h).toArray)) w' ∧ w'.cell? ⟨gb, 1, none⟩ = some (.bool true) ∧ (loadOp 51 (.pointer (some ⟨gf, 0, none⟩))).run Try.prog w' = .ok (.value (.agg #[.string t, .string t1, .string t2])) w')) (by kernel_rfl) (HS.out _ (Below.refl wr.heap.size wr).drew) (fun hHeld => ?_)
        have BD := Lib.hid (Below.refl wr.heap.size wr).drew
        have ND := Lib.hid (N6.out.below BD.out N6.out.lt)
        have BSD := Lib.hid (BS.out.alloc BD.out)
        generalize wr.drew = wd at *
        refine take_at 0 (by kernel_rfl) (v := ?v1) (by kernel_rfl) (by kernel_rfl) (by kernel_rfl) (fun _ _ _ h => h) (by rfl) ?y1 (by assumption) ?r1
        case y1 => (intro w hSw; (try dsimp only at hSw); simp only [List.getElem_cons_succ, List.getElem_cons_zero]; go_simp; (try with_reducible rfl))
        try simp only [List.getElem_cons_succ, List.getElem_cons_zero, Act.put, List.setIfInBounds_toArray, List.set_cons_zero, List.set_cons_succ]
        refine take_at 1 (by kernel_rfl) (v := ?v2) (by kernel_rfl) (by kernel_rfl) (by kernel_rfl) (fun _ _ _ h => h) (by rfl) ?y2 (by assumption) ?r2
        case y2 => (intro w hSw; obtain ⟨h1, h2, h3⟩ := hSw; simp only [List.getElem_cons_succ, List.getElem_cons_zero]; go_simp; (try with_reducible rfl))
        try simp only [List.getElem_cons_succ, List.getElem_cons_zero, Act.put, List.setIfInBounds_toArray, List.set_cons_zero, List.set_cons_succ]
        refine take_at 2 (by kernel_rfl) (v := ?v3) (by kernel_rfl) (by kernel_rfl) (by kernel_rfl) (fun _ _ _ h => h) (by rfl) ?y3 (by assumption) ?r3
        case y3 => (intro w hSw; (try dsimp only at hSw); simp only [List.getElem_cons_succ, List.getElem_cons_zero]; go_simp; (try with_reducible rfl))
        try simp only [List.getElem_cons_succ, List.getElem_cons_zero, Act.put, List.setIfInBounds_toArray, List.set_cons_zero, List.set_cons_succ]
        refine take_at 3 (by kernel_rfl) (v := ?v4) (by kernel_rfl) (by kernel_rfl) (by kernel_rfl) (fun _ _ _ h => h) (by rfl) ?y4 (by assumption) ?r4
        case y4 => (intro w hSw; (try dsimp only at hSw); simp only [List.getElem_cons_succ, List.getElem_cons_zero]; go_simp; (try with_reducible rfl))
        try simp only [List.getElem_cons_succ, List.getElem_cons_zero, Act.put, List.setIfInBounds_toArray, List.set_cons_zero, List.set_cons_succ]
        refine take_at 4 (by kernel_rfl) (v := ?v5) (by kernel_rfl) (by kernel_rfl) (by kernel_rfl) (fun _ _ _ h => h) (by rfl) ?y5 (by assumption) ?r5
        case y5 => (intro w hSw; obtain ⟨h1, h2, h3⟩ := hSw; simp only [List.getElem_cons_succ, List.getElem_cons_zero]; go_simp; (try with_reducible rfl))
        try simp only [List.getElem_cons_succ, List.getElem_cons_zero, Act.put, List.setIfInBounds_toArray, List.set_cons_zero, List.set_cons_succ]
        refine take_at 5 (by kernel_rfl) (v := ?v6) (by kernel_rfl) (by kernel_rfl) (by kernel_rfl) (fun _ _ _ h => h) (by rfl) ?y6 (by assumption) ?r6
        case y6 => (intro w hSw; (try dsimp only at hSw); simp only [List.getElem_cons_succ, List.getElem_cons_zero]; go_simp; (try with_reducible rfl))
        try simp only [List.getElem_cons_succ, List.getElem_cons_zero, Act.put, List.setIfInBounds_toArray, List.set_cons_zero, List.set_cons_succ]
        refine take_at 6 (by kernel_rfl) (v := ?v7) (by kernel_rfl) (by kernel_rfl) (by kernel_rfl) (fun _ _ _ h => h) (by rfl) ?y7 (by assumption) ?r7
        case y7 => (intro w hSw; (try dsimp only at hSw); simp only [List.getElem_cons_succ, List.getElem_cons_zero]; go_simp; (try with_reducible rfl))
        try simp only [List.getElem_cons_succ, List.getElem_cons_zero, Act.put, List.setIfInBounds_toArray, List.set_cons_zero, List.set_cons_succ]
        refine pass_at 7 (by kernel_rfl) (by kernel_rfl) (by kernel_rfl) (by kernel_rfl) (fun _ _ _ h => h) (by rfl) (by assumption) ?_
        try simp only [List.getElem_cons_succ, List.getElem_cons_zero, Act.put, List.setIfInBounds_toArray, List.set_cons_zero, List.set_cons_succ]
        refine pass_at 8 (by kernel_rfl) (by kernel_rfl) (by kernel_rfl) (by kernel_rfl) (fun _ _ _ h => h) (by rfl) (by assumption) ?_
        try simp only [List.getElem_cons_succ, List.getElem_cons_zero, Act.put, List.setIfInBounds_toArray, List.set_cons_zero, List.set_cons_succ]
        refine pass_at 9 (by kernel_rfl) (by kernel_rfl) (by kernel_rfl) (by kernel_rfl) (fun _ _ _ h => h) (by rfl) (by assumption) ?_
        try simp only [List.getElem_cons_succ, List.getElem_cons_zero, Act.put, List.setIfInBounds_toArray, List.set_cons_zero, List.set_cons_succ]
        refine pass_at 10 (by kernel_rfl) (by kernel_rfl) (by kernel_rfl) (by kernel_rfl) (fun _ _ _ h => h) (by rfl) (by assumption) ?_
        try simp only [List.getElem_cons_succ, List.getElem_cons_zero, Act.put, List.setIfInBounds_toArray, List.set_cons_zero, List.set_cons_succ]
        refine take_at 11 (by kernel_rfl) (v := ?v8) (by kernel_rfl) (by kernel_rfl) (by kernel_rfl) (fun _ _ _ h => h) (by rfl) ?y8 (by assumption) ?r8
        case y8 => (intro w hSw; (try dsimp only at hSw); simp only [List.getElem_cons_succ, List.getElem_cons_zero]; go_simp; (try with_reducible rfl))
        try simp only [List.getElem_cons_succ, List.getElem_cons_zero, Act.put, List.setIfInBounds_toArray, List.set_cons_zero, List.set_cons_succ]
        have sn := store_note (x := x) (h := h) ND.out nz_len HNO.out.len
        have K9 := Lib.hid (show Blk (wd.setRow gr (ncells x h).toArray) gr (ncells x h) 32 from ND.out.row (ncells x h))
        have BS9 := Lib.hid (BSD.out.row HG1.out.2.2.2.1 HG1.out.2.1 HNB.out ND.out (ncells x h))
        refine ready_at 12 (by kernel_rfl) (by kernel_rfl) (fun K hK => ?_)
        simp only [List.getElem_cons_succ, List.getElem_cons_zero]
        go_simp
        refine hK.out _ _ ⟨load_part15 HNO.out.len BS9.out.rd, BS9.out.rd.wrong.1, load_wform (HFW.out _ BD.out)⟩ (fun hHeld => ?_)
        clear hK K
        try simp only [List.getElem_cons_succ, List.getElem_cons_zero, Act.put, List.setIfInBounds_toArray, List.set_cons_zero, List.set_cons_succ]
        refine take_at 13 (by kernel_rfl) (v := ?v9) (by kernel_rfl) (by kernel_rfl) (by kernel_rfl) (fun _ _ _ h => h) (by rfl) ?y9 (by assumption) ?r9
        case y9 => (intro w hSw; (try dsimp only at hSw); simp only [List.getElem_cons_succ, List.getElem_cons_zero]; go_simp; (try with_reducible rfl))
        try simp only [List.getElem_cons_succ, List.getElem_cons_zero, Act.put, List.setIfInBounds_toArray, List.set_cons_zero, List.set_cons_succ]
        refine wpAnyH_done (by kernel_rfl) ?_ _
        go_wp2_with fail
        refine bodyPost_ret (v := .tuple #[.agg (ncells x h).toArray, .bool false]) (results_note15 rfl _ _ _ _ _ _ _ _ rfl K9.out (Try.underlying32) rfl (note_sizeA HNO.out.len h) rfl) rfl ?_
        exact ⟨h, rfl, HNO.out, BS9.out.X, BS9.out.U, BS9.out.I, BS9.out.W, BS9.out.rd.below⟩
      | false =>
        have hb0 : b = decide (agr x) := HMY.out
        subst hb0
        have HS := Lib.hid (show ∀ w', Below wr.heap.size wr w' → _ from fun w' hb' => hs_any (q := false) HNO.out.len (BS.out.alloc hb') (F6.out.below hb' F6.out.lt))
        have HFW := Lib.hid (show ∀ w', Below wr.heap.size wr w' → Blk (w'.setRow gr (ncells x h).toArray) gf (fcs t t1 t2) 51 from fun w' hb' => (F6.out.below hb' F6.out.lt).rowOther _ HNB.out)
        refine wp_region_held_drew (S := (fun w' => (loadOp 32 (.pointer (some ⟨gb, 2, none⟩))).run Try.prog w' = .ok (.value (.agg (ncells x h).toArray)) w' ∧ w'.cell? ⟨gb, 1, none⟩ = some (.bool false) ∧ (loadOp 51 (.pointer (some ⟨gf, 0, none⟩))).run Try.prog w' = .ok (.value (.agg #[.string t, .string t1, .string t2])) w')) (by kernel_rfl) (HS.out _ (Below.refl wr.heap.size wr).drew) (fun hHeld => ?_)
        have BD := Lib.hid (Below.refl wr.heap.size wr).drew
        have ND := Lib.hid (N6.out.below BD.out N6.out.lt)
        have BSD := Lib.hid (BS.out.alloc BD.out)
        generalize wr.drew = wd at *
        refine take_at 0 (by kernel_rfl) (v := ?v10) (by kernel_rfl) (by kernel_rfl) (by kernel_rfl) (fun _ _ _ h => h) (by rfl) ?y10 (by assumption) ?r10
        case y10 => (intro w hSw; (try dsimp only at hSw); simp only [List.getElem_cons_succ, List.getElem_cons_zero]; go_simp; (try with_reducible rfl))
        try simp only [List.getElem_cons_succ, List.getElem_cons_zero, Act.put, List.setIfInBounds_toArray, List.set_cons_zero, List.set_cons_succ]
        refine take_at 1 (by kernel_rfl) (v := ?v11) (by kernel_rfl) (by kernel_rfl) (by kernel_rfl) (fun _ _ _ h => h) (by rfl) ?y11 (by assumption) ?r11
        case y11 => (intro w hSw; obtain ⟨h1, h2, h3⟩ := hSw; simp only [List.getElem_cons_succ, List.getElem_cons_zero]; go_simp; (try with_reducible rfl))
        try simp only [List.getElem_cons_succ, List.getElem_cons_zero, Act.put, List.setIfInBounds_toArray, List.set_cons_zero, List.set_cons_succ]
        refine take_at 2 (by kernel_rfl) (v := ?v12) (by kernel_rfl) (by kernel_rfl) (by kernel_rfl) (fun _ _ _ h => h) (by rfl) ?y12 (by assumption) ?r12
        case y12 => (intro w hSw; (try dsimp only at hSw); simp only [List.getElem_cons_succ, List.getElem_cons_zero]; go_simp; (try with_reducible rfl))
        try simp only [List.getElem_cons_succ, List.getElem_cons_zero, Act.put, List.setIfInBounds_toArray, List.set_cons_zero, List.set_cons_succ]
        refine take_at 3 (by kernel_rfl) (v := ?v13) (by kernel_rfl) (by kernel_rfl) (by kernel_rfl) (fun _ _ _ h => h) (by rfl) ?y13 (by assumption) ?r13
        case y13 => (intro w hSw; (try dsimp only at hSw); simp only [List.getElem_cons_succ, List.getElem_cons_zero]; go_simp; (try with_reducible rfl))
        try simp only [List.getElem_cons_succ, List.getElem_cons_zero, Act.put, List.setIfInBounds_toArray, List.set_cons_zero, List.set_cons_succ]
        refine take_at 4 (by kernel_rfl) (v := ?v14) (by kernel_rfl) (by kernel_rfl) (by kernel_rfl) (fun _ _ _ h => h) (by rfl) ?y14 (by assumption) ?r14
        case y14 => (intro w hSw; obtain ⟨h1, h2, h3⟩ := hSw; simp only [List.getElem_cons_succ, List.getElem_cons_zero]; go_simp; (try with_reducible rfl))
        try simp only [List.getElem_cons_succ, List.getElem_cons_zero, Act.put, List.setIfInBounds_toArray, List.set_cons_zero, List.set_cons_succ]
        refine take_at 5 (by kernel_rfl) (v := ?v15) (by kernel_rfl) (by kernel_rfl) (by kernel_rfl) (fun _ _ _ h => h) (by rfl) ?y15 (by assumption) ?r15
        case y15 => (intro w hSw; (try dsimp only at hSw); simp only [List.getElem_cons_succ, List.getElem_cons_zero]; go_simp; (try with_reducible rfl))
        try simp only [List.getElem_cons_succ, List.getElem_cons_zero, Act.put, List.setIfInBounds_toArray, List.set_cons_zero, List.set_cons_succ]
        refine take_at 6 (by kernel_rfl) (v := ?v16) (by kernel_rfl) (by kernel_rfl) (by kernel_rfl) (fun _ _ _ h => h) (by rfl) ?y16 (by assumption) ?r16
        case y16 => (intro w hSw; (try dsimp only at hSw); simp only [List.getElem_cons_succ, List.getElem_cons_zero]; go_simp; (try with_reducible rfl))
        try simp only [List.getElem_cons_succ, List.getElem_cons_zero, Act.put, List.setIfInBounds_toArray, List.set_cons_zero, List.set_cons_succ]
        refine take_at 7 (by kernel_rfl) (v := ?v17) (by kernel_rfl) (by kernel_rfl) (by kernel_rfl) (fun _ _ _ h => h) (by rfl) ?y17 (by assumption) ?r17
        case y17 => (intro w hSw; obtain ⟨h1, h2, h3⟩ := hSw; simp only [List.getElem_cons_succ, List.getElem_cons_zero]; go_simp; (try with_reducible rfl))
        try simp only [List.getElem_cons_succ, List.getElem_cons_zero, Act.put, List.setIfInBounds_toArray, List.set_cons_zero, List.set_cons_succ]
        refine take_at 8 (by kernel_rfl) (v := ?v18) (by kernel_rfl) (by kernel_rfl) (by kernel_rfl) (fun _ _ _ h => h) (by rfl) ?y18 (by assumption) ?r18
        case y18 => (intro w hSw; (try dsimp only at hSw); simp only [List.getElem_cons_succ, List.getElem_cons_zero]; go_simp; (try with_reducible rfl))
        try simp only [List.getElem_cons_succ, List.getElem_cons_zero, Act.put, List.setIfInBounds_toArray, List.set_cons_zero, List.set_cons_succ]
        refine take_at 9 (by kernel_rfl) (v := ?v19) (by kernel_rfl) (by kernel_rfl) (by kernel_rfl) (fun _ _ _ h => h) (by rfl) ?y19 (by assumption) ?r19
        case y19 => (intro w hSw; obtain ⟨h1, h2, h3⟩ := hSw; simp only [List.getElem_cons_succ, List.getElem_cons_zero]; go_simp; (try with_reducible rfl))
        try simp only [List.getElem_cons_succ, List.getElem_cons_zero, Act.put, List.setIfInBounds_toArray, List.set_cons_zero, List.set_cons_succ]
        refine ready_at 10 (by kernel_rfl) (by kernel_rfl) (fun K hK => ?_)
        simp only [List.getElem_cons_succ, List.getElem_cons_zero]
        go_simp
        go_at_call 39
        refine (HAG.out h wd (HNG.out wd BD.out)).mono ?_
        rintro e wa ⟨rfl, ba⟩
        have BA := Lib.hid (BD.out.trans (ba.mono BD.out.size))
        have NA := Lib.hid (ND.out.below ba ND.out.lt)
        have BSA := Lib.hid (BSD.out.alloc ba)
        clear ba
        (try go_wp2_with fail)
        refine hK.out _ _ (HS.out _ BA.out) (fun hHeld => ?_)
        clear hK K
        try simp only [List.getElem_cons_succ, List.getElem_cons_zero, Act.put, List.setIfInBounds_toArray, List.set_cons_zero, List.set_cons_succ]
        refine take_at 11 (by kernel_rfl) (v := ?v20) (by kernel_rfl) (by kernel_rfl) (by kernel_rfl) (fun _ _ _ h => h) (by rfl) ?y20 (by assumption) ?r20
        case y20 => (intro w hSw; (try dsimp only at hSw); simp only [List.getElem_cons_succ, List.getElem_cons_zero]; go_simp; (try with_reducible rfl))
        try simp only [List.getElem_cons_succ, List.getElem_cons_zero, Act.put, List.setIfInBounds_toArray, List.set_cons_zero, List.set_cons_succ]
        have sn := store_note (x := x) (h := h) NA.out nz_len HNO.out.len
        have K9 := Lib.hid (show Blk (wa.setRow gr (ncells x h).toArray) gr (ncells x h) 32 from NA.out.row (ncells x h))
        have BS9 := Lib.hid (BSA.out.row HG1.out.2.2.2.1 HG1.out.2.1 HNB.out NA.out (ncells x h))
        refine ready_at 12 (by kernel_rfl) (by kernel_rfl) (fun K hK => ?_)
        simp only [List.getElem_cons_succ, List.getElem_cons_zero]
        go_simp
        refine hK.out _ _ ⟨load_part15 HNO.out.len BS9.out.rd, BS9.out.rd.wrong.1, load_wform (HFW.out _ BA.out)⟩ (fun hHeld => ?_)
        clear hK K
        try simp only [List.getElem_cons_succ, List.getElem_cons_zero, Act.put, List.setIfInBounds_toArray, List.set_cons_zero, List.set_cons_succ]
        refine take_at 13 (by kernel_rfl) (v := ?v21) (by kernel_rfl) (by kernel_rfl) (by kernel_rfl) (fun _ _ _ h => h) (by rfl) ?y21 (by assumption) ?r21
        case y21 => (intro w hSw; (try dsimp only at hSw); simp only [List.getElem_cons_succ, List.getElem_cons_zero]; go_simp; (try with_reducible rfl))
        try simp only [List.getElem_cons_succ, List.getElem_cons_zero, Act.put, List.setIfInBounds_toArray, List.set_cons_zero, List.set_cons_succ]
        refine wpAnyH_done (by kernel_rfl) ?_ _
        go_wp2_with fail
        refine bodyPost_ret (v := .tuple #[.agg (ncells x h).toArray, .bool (decide (agr x))]) (results_note15 rfl _ _ _ _ _ _ _ _ rfl K9.out (Try.underlying32) rfl (note_sizeA HNO.out.len h) rfl) rfl ?_
        exact ⟨h, rfl, HNO.out, BS9.out.X, BS9.out.U, BS9.out.I, BS9.out.W, BS9.out.rd.below⟩
end
end
end Go.Proofs.Yteepaoklibflpaa
