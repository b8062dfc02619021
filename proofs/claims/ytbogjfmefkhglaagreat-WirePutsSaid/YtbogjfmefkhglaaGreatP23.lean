/-
  The wire package's note, walked (written by mknwm15.py).
  bytes.Equal; slices.Equal over ids and words (written by mknwn15.py).
  The wire package's Same (out of XNteC's text by mknwn15.py).
-/
import Derived.Test.YtbogjfmefkhglaaGreatP22
import Derived.Test.YtbogjfmefkhglaaGreatP3
import Derived.Test.YtbogjfmefkhglaaGreatP4
import Derived.BigQuiet
namespace Go.Proofs.YtbogjfmefkhglaaGreat
section
set_option linter.unusedSimpArgs false
set_option linter.unusedVariables false
open Go.RowKit Sha Nte
open Fld (Itm)
theorem own_sI {w : World} {B n : Nat} {e : TypeId} {r : Option Addr} {d : Nat} {l : List (List Int)} (ho : w.ownsRow B e 32 (.slice r n d) n (l.flatMap (fun d => d.map v8))) (hn : n = l.length) (hl : ∀ d ∈ l, Frm.Bytes d ∧ d.length = 32) : sI.Told w r n d l := by
  obtain ⟨p, cap, he, h1, h2, hA, _, h3⟩ := nown_at ho
  cases he
  refine ⟨hn, h1, by unfold maxLen at h2; omega, h3, ⟨l.map fun d => (d, none, 0), by rw [List.map_map]; exact List.map_id' _, ?_, ?_⟩⟩
  · rw [List.flatMap_map]; exact hA
  · intro y hy
    obtain ⟨d, hd, rfl⟩ := List.mem_map.1 hy
    exact ⟨hl d hd, At.nil _ _, Nat.zero_le _, Nat.zero_le _, fun _ => rfl⟩
theorem own_sW {w : World} {B n : Nat} {e : TypeId} {r : Option Addr} {d : Nat} {l : List Mb} (ho : w.ownsRow B e 3 (.slice r n d) n (l.flatMap nmc)) (hn : n = l.length) (hl : ∀ m ∈ l, m.ok) : sW.Told w r n d l := by
  obtain ⟨p, cap, he, h1, h2, hA, _, h3⟩ := nown_at ho
  cases he
  refine ⟨hn, h1, by unfold maxLen at h2; omega, h3, ⟨l.map fun m => (m, none, 0), by rw [List.map_map]; exact List.map_id' _, ?_, ?_⟩⟩
  · rw [List.flatMap_map]; exact hA
  · intro y hy
    obtain ⟨m, hm, rfl⟩ := List.mem_map.1 hy
    exact ⟨hl m hm, At.nil _ _, Nat.zero_le _, Nat.zero_le _, fun _ => rfl⟩
theorem note_good {w0 w : World} {x : Not} {h : NHd} (hx : x.ok) (hX : GoodI w0 (iB x.X) h.q h.c) (hI : w.ownsRow w0.heap.size 27 32 (.slice h.r x.I.length h.d) x.I.length (x.I.flatMap (fun d => d.map v8)))
    (hW : w.ownsRow w0.heap.size 57 3 (.slice h.s x.W.length h.e) x.W.length (x.W.flatMap nmc)) (hb : Below w0.heap.size w0 w) : NGood w x h :=
  ⟨hx, (show At w0 h.q (x.X.map v8) from hX.at_).below hb, hX.le, hX.max, hX.nil, own_sI hI rfl hx.I, own_sW hW rfl hx.W⟩
theorem bs_good {U : List Int → Option Addr → Nat → Prop} {w0 w : World} {gb : Nat} {ys : List Hdr} {wr : Bool} {x : Not} {h : NHd} (b : Bs U w0 gb ys wr x h w) : NGood w x h := note_good b.ok b.X b.I b.W b.rd.below
theorem Bs.row {U : List Int → Option Addr → Nat → Prop} {w0 w : World} {gb gr : Nat} {ys : List Hdr} {wr : Bool} {x : Not} {h : NHd} (b : Bs U w0 gb ys wr x h w) (hg : w0.heap.size ≤ gr) (hne : gr ≠ gb) {gf : Nat} (_ : gf ≠ gr) {cs : List Value} (hk : Blk w gr cs 32) (cs' : List Value) : Bs U w0 gb ys wr x h (w.setRow gr cs'.toArray) := by
  obtain ⟨⟨q, n, c, h1, h2⟩, h3, h4⟩ := b.rd
  have ho : Only gr w (w.setRow gr cs'.toArray) := ⟨Go.Proofs.YtbogjfmefkhglaaGreat.Below.setRow (Below.refl _ _) (Nat.zero_le _) _, fun k hk hne => by
    by_cases h : k < gr
    · exact (Go.Proofs.YtbogjfmefkhglaaGreat.Below.setRow (Below.refl gr w) (Nat.le_refl _) cs'.toArray).block k h
    · simp only [World.setRow]
      rw [Array.getElem?_modify, if_neg (fun e => hne e.symm)]⟩
  have hrow : ∀ {B n size : Nat} {e : TypeId} {v : Value} {xs : List Value}, w.ownsRow B e size v n xs → e ≠ 32 → (w.setRow gr cs'.toArray).ownsRow B e size v n xs := fun h he => row_carry h fun k c fz _ hh => ho.keep hh (fun e' => by
    subst e'
    unfold Blk at hk
    rw [hh] at hk
    have := Option.some.inj hk
    injection this with _ h2
    exact he h2)
  exact ⟨⟨⟨q, n, c, h1, h2.rowOther _ (Ne.symm hne)⟩, Go.Proofs.YtbogjfmefkhglaaGreat.Below.setRow h3 hg _, h4⟩, b.ok, hrow b.I (by decide), hrow b.W (by decide), b.X, b.U⟩
theorem hs_any {U : List Int → Option Addr → Nat → Prop} {w0 w : World} {gb gf : Nat} {ys : List Hdr} {q : Bool} {x : Not} {h : NHd} {t t1 t2 : ByteArray} (hx : x.D.length = 32) (b : Bs U w0 gb ys q x h w) (hf : Blk w gf (fcs t t1 t2) 63) :
    (loadOp 32 (.pointer (some ⟨gb, 2, none⟩))).run Tryz.prog w = .ok (.value (.agg (ncells x h).toArray)) w ∧ w.cell? ⟨gb, 1, none⟩ = some (.bool q) ∧ (loadOp 63 (.pointer (some ⟨gf, 0, none⟩))).run Tryz.prog w = .ok (.value (.agg #[.string t, .string t1, .string t2])) w :=
  ⟨load_part15 hx b.rd, b.rd.wrong.1, load_wform hf⟩
section
attribute [local go_sem ↓] execOp_boxForm15 execOp_loadForm15 execOp_allocNote execOp_storeNote execOp_loadNote execOp_makeRd15 execOp_makeBd15 execOp_allocBd15 execOp_storeBd15
set_option maxRecDepth 100000 in
set_option maxHeartbeats 4000000 in
theorem wnote_any (U : List Int → Option Addr → Nat → Prop) (z : Not) (v : Int) (p : Option Addr) (n c : Nat) (ys : List Hdr) (w : World) (hz : z.ok) (hfew : z.I.length ≤ 4000 ∧ z.W.length ≤ 4000) (hits : ys.map (·.1) = itemsR z v) (hl : LeftAt w p n c ys) (hu : ∀ y ∈ ys, U y.1.B y.2.1 y.2.2) (hu0 : U [] none 0) :
    Calls Tryz.prog 43 #[wform z.K, .slice p n c] w (NNote U w (noteR z v) (decide (mayR z v))) := by
  have hnm := kHas_nums z.K
  have HIS := Lib.hid (letters_isT z.K)
  have H128 := Lib.hid (letters_128 z.K)
  have HND := Lib.hid (letters_nodup z.K)
  have hmay := wrong_may z v
  have hnK := noteR_K z v
  have hnf := noteR_few hfew v
  have hno := noteR_ok hz v
  have hAG := fun h' w' g' => wagrees_any (noteR z v) h' w' g' ⟨hnf.1, hnf.2⟩
  rw [hnK] at hAG
  have HAG := Lib.hid (show ∀ h' w', NGood w' (noteR z v) h' → Calls Tryz.prog 73 #[.agg #[.string (kHas z.K), .string (kYes z.K), .string (kNo z.K)], .agg (ncells (noteR z v) h').toArray] w' fun e w'' => e = .returned (.bool (decide (agr (noteR z v)))) ∧ Below w'.heap.size w' w'' from hAG)
  have HFD := Lib.hid (show noteR z v = (letters z.K).foldl (setR z v) (base z.K z.F z.T) from rfl)
  unfold itemsR at hits
  obtain ⟨y1, ys1, rfl, i1, hits⟩ := hdc hits
  obtain ⟨y2, ys2, rfl, i2, hits⟩ := hdc hits
  obtain ⟨y3, rest, rfl, i3, hits⟩ := hdc hits
  have HIT := Lib.hid hits
  have HNO := Lib.hid hno
  have HZ := Lib.hid hz
  have HFEW := Lib.hid hfew
  show Calls Tryz.prog 43 #[.agg #[.string (kHas z.K), .string (kYes z.K), .string (kNo z.K)], .slice p n c] w _
  obtain ⟨b, hb⟩ : ∃ b, b = decide (mayR z v) := ⟨_, rfl⟩
  rw [← hb] at hmay ⊢
  have HMAY := Lib.hid hmay
  clear hnK hnf hno hAG hits hb hmay hz hfew
  generalize noteR z v = xr at *
  generalize kHas z.K = t at *
  generalize kYes z.K = t1 at *
  generalize kNo z.K = t2 at *
  generalize letters z.K = l at *
  have HL := Lib.hid (show l.length = t.size by rw [← hnm, nums_length])
  have HNM := Lib.hid hnm
  clear hnm
  -- the worlds ahead
  have bx1 := run_boxOp (P := Tryz.prog) (t := 63) (cs := #[.string t, .string t1, .string t2]) w
  have hb1 := (Below.refl w.heap.size w).alloc (Nat.le_refl _) (.cells #[.string t, .string t1, .string t2] 63)
  have hk1 : Blk (w.alloc (.cells #[.string t, .string t1, .string t2] 63)) w.heap.size (fcs t t1 t2) 63 := Blk.new w #[.string t, .string t1, .string t2] 63
  have hs1 : (w.alloc (.cells #[.string t, .string t1, .string t2] 63)).heap.size = w.heap.size + 1 := World.size_alloc ..
  obtain ⟨gf, hgf⟩ : ∃ gf, gf = w.heap.size := ⟨_, rfl⟩
  obtain ⟨w1, hw1⟩ : ∃ v, v = w.alloc (.cells #[.string t, .string t1, .string t2] 63) := ⟨_, rfl⟩
  rw [← hw1] at bx1 hb1 hk1 hs1
  rw [← hgf] at bx1 hk1
  have al1 := alloc_note w1
  have hb2 := hb1.alloc hb1.size (.cells (ncells none_ NHd.none_).toArray 32)
  have hk2 : Blk (w1.alloc (.cells (ncells none_ NHd.none_).toArray 32)) w1.heap.size (ncells none_ NHd.none_) 32 := Blk.new w1 (ncells none_ NHd.none_).toArray 32
  have hf2 := hk1.old (.cells (ncells none_ NHd.none_).toArray 32)
  have hs2 : (w1.alloc (.cells (ncells none_ NHd.none_).toArray 32)).heap.size = w1.heap.size + 1 := World.size_alloc ..
  obtain ⟨gr, hgr⟩ : ∃ gr, gr = w1.heap.size := ⟨_, rfl⟩
  obtain ⟨w2, hw2⟩ : ∃ v, v = w1.alloc (.cells (ncells none_ NHd.none_).toArray 32) := ⟨_, rfl⟩
  rw [← hw2] at al1 hb2 hk2 hf2 hs2
  rw [← hgr] at al1 hk2
  have mk1 := fun w => make_rd15 p n c w
  have mk2 := fun w => make_bd15 p n c w
  have al2 := alloc_bd15 w2
  have st2 := store_bd15 w2 p n c
  have hb3 := hb2.alloc hb2.size (.cells (bcells p n c).toArray 110)
  have hk3 : Blk (w2.alloc (.cells (bcells p n c).toArray 110)) w2.heap.size (bcells p n c) 110 := Blk.new w2 (bcells p n c).toArray 110
  have hf3 := hf2.old (.cells (bcells p n c).toArray 110)
  have hr3 := hk2.old (.cells (bcells p n c).toArray 110)
  obtain ⟨gb, hgb⟩ : ∃ gb, gb = w2.heap.size := ⟨_, rfl⟩
  obtain ⟨w3, hw3⟩ : ∃ v, v = w2.alloc (.cells (bcells p n c).toArray 110) := ⟨_, rfl⟩
  rw [← hw3] at st2 hb3 hk3 hf3 hr3
  rw [← hgb] at al2 st2 hk3
  have HG1 := Lib.hid (show gf ≠ gb ∧ gr ≠ gb ∧ gf ≠ gr ∧ w.heap.size ≤ gr ∧ w.heap.size ≤ gb by omega)
  have HF3 := Lib.hid hf3
  have HR3 := Lib.hid hr3
  have HB3 := Lib.hid hb3
  have RD3 := Lib.hid (show Rd w gb (y1 :: y2 :: y3 :: rest) false (ncells none_ NHd.none_) w3 from ⟨⟨p, n, c, hl, hk3⟩, hb3, HG1.out.2.2.2.2⟩)
  have HU := Lib.hid hu
  have HU0 := Lib.hid hu0
  have HCALL := Lib.hid (whead_any w gb y1 y2 y3 rest false none_ NHd.none_ w3 RD3)
  rw [iN_of i1, iN_of i2, iN_of i3] at HCALL
  clear hw1 hb1 hk1 hw2 hb2 hk2 hf2 hw3 hb3 hk3 hf3 hr3 hgf hgr hgb hl hs1 hs2 i1 i2 i3 hu hu0
  go_enter Tryz.func43, Tryz.ntmps43
  go_wp2_with fail
  refine HCALL.out.mono ?_
  rintro e w4 ⟨rfl, hr4, ho4⟩
  have F4 := Lib.hid (ho4.blk HF3.out HG1.out.1)
  have N4 := Lib.hid (ho4.blk HR3.out HG1.out.2.1)
  have B4 := Lib.hid (ho4.below HB3.out HG1.out.2.2.2.2 HB3.out.size)
  have BS4 := Lib.hid (show Bs U w gb rest (wrongR z v (l.take 0)) (base z.K z.F z.T) NHd.none_ w4 from ⟨by
    have e : (false || !decide (nodeOk z.F ∧ nodeOk z.T ∧ z.F ≠ z.T)) = wrongR z v (l.take 0) := by
      unfold wrongR headR
      rw [List.take_zero, Bool.false_or]
      congr 1
      exact decide_eq_decide.2 ⟨fun h => ⟨h, by simp⟩, fun h => h.1⟩
    rw [← e]; exact hr4, ⟨HZ.out.K, HZ.out.F, HZ.out.T, none_ok.C, none_ok.S, none_ok.H, none_ok.B, none_ok.O, none_ok.D, none_ok.len, none_ok.X, none_ok.Xl, none_ok.I, none_ok.Il, none_ok.W, none_ok.Wl⟩, World.ownsRow_nil _ _ _ _, World.ownsRow_nil _ _ _ _, ⟨iB_ok (fun n hn => by simp [base, none_] at hn), At.nil _ _, by simp [iB, base, none_], by simp [NHd.none_], fun _ => rfl⟩, HU0.out⟩)
  clear hr4 ho4 HCALL RD3 HF3 HR3 HB3 bx1 al1 al2 st2
  have c4 : w4.cell? ⟨gf, 0, none⟩ = some (.string t) := F4.out.cell 0
  go_wp2_with fail
  have HI5 := Lib.hid (World.iter_heap w4 t 0)
  have hal : (w4.iter t 0) = w4.alloc (.stringIter t 0) := rfl
  obtain ⟨gi, hgi⟩ : ∃ gi, gi = w4.heap.size := ⟨_, rfl⟩
  have HG := Lib.hid (show w.heap.size ≤ gi ∧ w4.heap.size ≤ gi by rw [hgi]; exact ⟨B4.out.size, Nat.le_refl _⟩)
  have O5 := Lib.hid (show Only gb w4 (w4.iter t 0) from by rw [hal]; exact (Only.refl gb w4).alloc _)
  have BL5 := Lib.hid (show BLoop U w gb z v l 0 (w4.iter t 0) (base z.K z.F z.T) NHd.none_ rest from ⟨by rw [hal]; exact BS4.out.alloc ((Below.refl _ _).alloc (Nat.le_refl _) _), HIT.out, fun y hy => HU.out y (by simp [hy]), fun _ => ⟨rfl, rfl, rfl⟩, fun _ => ⟨rfl, rfl, rfl⟩, rfl⟩)
  rw [← hgi] at HI5 ⊢
  clear hal hgi BS4 c4
  generalize w4.iter t 0 = w5 at *
  go_loopg [8] t.size (fun gh vv wr => ∃ (j : Nat) (u : Value) (x : Not) (h : NHd) (rs : List Hdr), u = vv ∧ j ≤ t.size ∧ gh = t.size - j ∧ Hid (BLoop U w gb z v l j wr x h rs) ∧ Hid (wr.heap[gi]? = some (.stringIter t j)) ∧ Hid (Only gb w4 wr))
  case atStart => exact ⟨0, _, base z.K z.F z.T, NHd.none_, rest, rfl, by omega, rfl, BL5, HI5, O5⟩
  case round =>
    obtain ⟨j, u, x, h, rs, rfl, hj, rfl, HBL, HI, HO⟩ := hrel
    clear BL5 HI5 O5
    by_cases hp : j < t.size
    · obtain ⟨ch, hn, hch⟩ := wire_next t l HNM.out j hp H128.out
      have hnx := fun ty => hn.run wr gi ty HI.out
      have hcm : ch ∈ l := List.mem_of_getElem? hch
      have HC := Lib.hid (HIS.out ch hcm)
      have hjl : j < l.length := by rw [HL.out]; exact hp
      have hle : l[j] = ch := by rw [List.getElem?_eq_getElem hjl] at hch; exact Option.some.inj hch
      have hdr : l.drop j = ch :: l.drop (j + 1) := by rw [List.drop_eq_getElem_cons hjl, hle]
      have htk : l.take (j + 1) = l.take j ++ [ch] := by rw [List.take_succ_eq_append_getElem hjl, hle]
      have hnot : ch ∉ l.drop (j + 1) := by
        have h1 : (l.drop j).Nodup := HND.out.sublist (List.drop_sublist _ _)
        rw [hdr] at h1
        exact (List.nodup_cons.1 h1).1
      have hit := HBL.out.its
      rw [hdr] at hit
      obtain ⟨hs, zs, rfl, hq1, hq2⟩ := split_hdrs hit
      have HB6 := Lib.hid (HBL.out.bs.iter HI.out HG.out.1 (j + 1))
      have HI6 := Lib.hid (Lib.iterAt_heap _ _ _ _ (j + 1) HI.out)
      have HO6 := Lib.hid (HO.out.iter HG.out.2 t (j + 1))
      have hgi2 : gi ≠ gb := by
        intro e
        obtain ⟨cs, hk⟩ := HBL.out.bs.rd.blk
        rw [← e] at hk
        unfold Blk at hk
        rw [HI.out] at hk; cases hk
      have HGI := Lib.hid hgi2
      obtain ⟨w6, hw6⟩ : ∃ w6, w6 = wr.iterAt gi t (j + 1) := ⟨_, rfl⟩
      rw [← hw6] at hnx HB6 HI6 HO6
      have HLI := Lib.hid (show LIn U w gb hs zs (wrongR z v (l.take j)) x h w6 z v ch from ⟨HB6.out, hq1, HZ.out, fun e => HBL.out.I0 (by rw [hdr, e]; exact List.mem_cons_self ..), fun e => HBL.out.W0 (by rw [hdr, e]; exact List.mem_cons_self ..), HFEW.out.1, HFEW.out.2, fun y hy => HBL.out.us y (List.mem_append_left _ hy)⟩)
      have HNX := Lib.hid (show ∀ (h' : NHd) (w' : World), Bs U w gb zs (wrongR z v (l.take j) || !decide (okR z v ch)) (setR z v x ch) h' w' → (ch ≠ 105 → h'.r = h.r ∧ h'.d = h.d) → (ch ≠ 119 → h'.s = h.s ∧ h'.e = h.e) → BLoop U w gb z v l (j + 1) w' (setR z v x ch) h' zs from fun h' w' hb' k1 k2 => by
        refine ⟨by rw [htk, wrong_next]; exact hb', hq2, fun y hy => HBL.out.us y (List.mem_append_right _ hy), fun hm => ?_, fun hm => ?_, ?_⟩
        · have hne : ch ≠ 105 := by rintro rfl; exact hnot hm
          obtain ⟨a1, a2, a3⟩ := HBL.out.I0 (by rw [hdr]; exact List.mem_cons_of_mem _ hm)
          rw [setR_I hne, (k1 hne).1, (k1 hne).2]; exact ⟨a1, a2, a3⟩
        · have hne : ch ≠ 119 := by rintro rfl; exact hnot hm
          obtain ⟨a1, a2, a3⟩ := HBL.out.W0 (by rw [hdr]; exact List.mem_cons_of_mem _ hm)
          rw [setR_W hne, (k2 hne).1, (k2 hne).2]; exact ⟨a1, a2, a3⟩
        · rw [htk, List.foldl_append, ← HBL.out.eq]; rfl)
      clear hn hch hcm hle hdr htk hnot hit hq1 hq2 HI HO hw6 HB6 hgi2 hjl HBL
      go_wp2_with fail
      refine (wlay_any U w gb hs zs (wrongR z v (l.take j)) x h w6 z v ch HC.out HLI.out).mono ?_
      rintro e w7 ⟨rfl, h7, hb7, k1, k2, ho7⟩
      have BL7 := Lib.hid (HNX.out h7 w7 hb7 k1 k2)
      have HI7 := Lib.hid (ho7.keep HI6.out HGI.out)
      have HO7 := Lib.hid (HO6.out.trans ho7)
      clear hb7 k1 k2 ho7 HNX HLI HI6 HO6
      go_wp2_with fail
      go_roundg (t.size - (j + 1))
      case measure => omega
      case rel => exact ⟨j + 1, _, _, h7, zs, rfl, by omega, rfl, BL7, HI7, HO7⟩
    · obtain rfl : j = t.size := by omega
      have hnx := fun ty => Lib.run_next_end_at (P := Tryz.prog) wr gi t t.size ty HI.out (by omega)
      have HTL := Lib.hid (show l.take t.size = l from List.take_of_length_le (by rw [HL.out]; exact Nat.le_refl _))
      have hxe : x = xr := by rw [HBL.out.eq, HTL.out, HFD.out]
      subst hxe
      have BS := Lib.hid (by have := HBL.out.bs; rw [HTL.out] at this; exact this)
      have F6 := Lib.hid (HO.out.blk F4.out HG1.out.1)
      have N6 := Lib.hid (HO.out.blk N4.out HG1.out.2.1)
      obtain ⟨q, hq⟩ : ∃ q, q = wrongR z v l := ⟨_, rfl⟩
      rw [← hq] at BS HMAY
      have HMY := Lib.hid (show b = (!q && decide (agr x)) from HMAY.out)
      clear HBL HI HO hq HMAY F4 N4
      go_wp2_with fail
      have HNG := Lib.hid (show ∀ w', Below wr.heap.size wr w' → NGood w' x h from fun w' hb' => by
        have b2 := BS.out.alloc hb'
        exact bs_good b2)
      have HNB := Lib.hid HG1.out.2.2.1
      cases q with
      | true =>
        have hb0 : b = false := HMY.out
        subst hb0
        have HS := Lib.hid (show ∀ w', Below wr.heap.size wr w' → _ from fun w' hb' => hs_any (q := true) HNO.out.len (BS.out.alloc hb') (F6.out.below hb' F6.out.lt))
        have HFW := Lib.hid (show ∀ w', Below wr.heap.size wr w' → Blk (w'.setRow gr (ncells x h).toArray) gf (fcs t t1 t2) 63 from fun w' hb' => (F6.out.below hb' F6.out.lt).rowOther _ HNB.out)
        refine wp_region_held_drew (S := (fun w' => (loadOp 32 (.pointer (some ⟨gb, 2, none⟩))).run Tryz.prog w' = .ok (.value (.agg (ncells x h).toArray)) w' ∧ w'.cell? ⟨gb, 1, none⟩ = some (.bool true) ∧ (loadOp 63 (.pointer (some ⟨gf, 0, none⟩))).run Tryz.prog w' = .ok (.value (.agg #[.string t, .string t1, .string t2])) w')) (by kernel_rfl) (HS.out _ (Below.refl wr.heap.size wr).drew) (fun hHeld => ?_)
        have BD := Lib.hid (Below.refl wr.heap.size wr).drew
        have ND := Lib.hid (N6.out.below BD.out N6.out.lt)
        have BSD := Lib.hid (BS.out.alloc BD.out)
        generalize wr.drew = wd at *
        refine take_at 0 (by kernel_rfl) (v := ?v1) (by kernel_rfl) (by kernel_rfl) (by kernel_rfl) (fun _ _ _ h => h) (by rfl) ?y1 (by assumption) ?r1
        case y1 => (intro w hSw; (try dsimp only at hSw); simp only [List.getElem_cons_succ, List.getElem_cons_zero]; go_simp; (try with_reducible rfl))
        try simp only [List.getElem_cons_succ, List.getElem_cons_zero, Act.put, List.setIfInBounds_toArray, List.set_cons_zero, List.set_cons_succ]
        refine take_at 1 (by kernel_rfl) (v := ?v2) (by kernel_rfl) (by kernel_rfl) (by kernel_rfl) (fun _ _ _ h => h) (by rfl) ?y2 (by assumption) ?r2
        case y2 => (intro w hSw; obtain ⟨h1, h2, h3⟩ := hSw; simp only [List.getElem_cons_succ, List.getElem_cons_zero]; go_simp; (try with_reducible rfl))
        try simp only [List.getElem_cons_succ, List.getElem_cons_zero, Act.put, List.setIfInBounds_toArray, List.set_cons_zero, List.set_cons_succ]
        refine take_at 2 (by kernel_rfl) (v := ?v3) (by kernel_rfl) (by kernel_rfl) (by kernel_rfl) (fun _ _ _ h => h) (by rfl) ?y3 (by assumption) ?r3
        case y3 => (intro w hSw; (try dsimp only at hSw); simp only [List.getElem_cons_succ, List.getElem_cons_zero]; go_simp; (try with_reducible rfl))
        try simp only [List.getElem_cons_succ, List.getElem_cons_zero, Act.put, List.setIfInBounds_toArray, List.set_cons_zero, List.set_cons_succ]
        refine take_at 3 (by kernel_rfl) (v := ?v4) (by kernel_rfl) (by kernel_rfl) (by kernel_rfl) (fun _ _ _ h => h) (by rfl) ?y4 (by assumption) ?r4
        case y4 => (intro w hSw; (try dsimp only at hSw); simp only [List.getElem_cons_succ, List.getElem_cons_zero]; go_simp; (try with_reducible rfl))
        try simp only [List.getElem_cons_succ, List.getElem_cons_zero, Act.put, List.setIfInBounds_toArray, List.set_cons_zero, List.set_cons_succ]
        refine take_at 4 (by kernel_rfl) (v := ?v5) (by kernel_rfl) (by kernel_rfl) (by kernel_rfl) (fun _ _ _ h => h) (by rfl) ?y5 (by assumption) ?r5
        case y5 => (intro w hSw; obtain ⟨h1, h2, h3⟩ := hSw; simp only [List.getElem_cons_succ, List.getElem_cons_zero]; go_simp; (try with_reducible rfl))
        try simp only [List.getElem_cons_succ, List.getElem_cons_zero, Act.put, List.setIfInBounds_toArray, List.set_cons_zero, List.set_cons_succ]
        refine take_at 5 (by kernel_rfl) (v := ?v6) (by kernel_rfl) (by kernel_rfl) (by kernel_rfl) (fun _ _ _ h => h) (by rfl) ?y6 (by assumption) ?r6
        case y6 => (intro w hSw; (try dsimp only at hSw); simp only [List.getElem_cons_succ, List.getElem_cons_zero]; go_simp; (try with_reducible rfl))
        try simp only [List.getElem_cons_succ, List.getElem_cons_zero, Act.put, List.setIfInBounds_toArray, List.set_cons_zero, List.set_cons_succ]
        refine take_at 6 (by kernel_rfl) (v := ?v7) (by kernel_rfl) (by kernel_rfl) (by kernel_rfl) (fun _ _ _ h => h) (by rfl) ?y7 (by assumption) ?r7
        case y7 => (intro w hSw; (try dsimp only at hSw); simp only [List.getElem_cons_succ, List.getElem_cons_zero]; go_simp; (try with_reducible rfl))
        try simp only [List.getElem_cons_succ, List.getElem_cons_zero, Act.put, List.setIfInBounds_toArray, List.set_cons_zero, List.set_cons_succ]
        refine pass_at 7 (by kernel_rfl) (by kernel_rfl) (by kernel_rfl) (by kernel_rfl) (fun _ _ _ h => h) (by rfl) (by assumption) ?_
        try simp only [List.getElem_cons_succ, List.getElem_cons_zero, Act.put, List.setIfInBounds_toArray, List.set_cons_zero, List.set_cons_succ]
        refine pass_at 8 (by kernel_rfl) (by kernel_rfl) (by kernel_rfl) (by kernel_rfl) (fun _ _ _ h => h) (by rfl) (by assumption) ?_
        try simp only [List.getElem_cons_succ, List.getElem_cons_zero, Act.put, List.setIfInBounds_toArray, List.set_cons_zero, List.set_cons_succ]
        refine pass_at 9 (by kernel_rfl) (by kernel_rfl) (by kernel_rfl) (by kernel_rfl) (fun _ _ _ h => h) (by rfl) (by assumption) ?_
        try simp only [List.getElem_cons_succ, List.getElem_cons_zero, Act.put, List.setIfInBounds_toArray, List.set_cons_zero, List.set_cons_succ]
        refine pass_at 10 (by kernel_rfl) (by kernel_rfl) (by kernel_rfl) (by kernel_rfl) (fun _ _ _ h => h) (by rfl) (by assumption) ?_
        try simp only [List.getElem_cons_succ, List.getElem_cons_zero, Act.put, List.setIfInBounds_toArray, List.set_cons_zero, List.set_cons_succ]
        refine take_at 11 (by kernel_rfl) (v := ?v8) (by kernel_rfl) (by kernel_rfl) (by kernel_rfl) (fun _ _ _ h => h) (by rfl) ?y8 (by assumption) ?r8
        case y8 => (intro w hSw; (try dsimp only at hSw); simp only [List.getElem_cons_succ, List.getElem_cons_zero]; go_simp; (try with_reducible rfl))
        try simp only [List.getElem_cons_succ, List.getElem_cons_zero, Act.put, List.setIfInBounds_toArray, List.set_cons_zero, List.set_cons_succ]
        have sn := store_note (x := x) (h := h) ND.out nz_len HNO.out.len
        have K9 := Lib.hid (show Blk (wd.setRow gr (ncells x h).toArray) gr (ncells x h) 32 from ND.out.row (ncells x h))
        have BS9 := Lib.hid (BSD.out.row HG1.out.2.2.2.1 HG1.out.2.1 HNB.out ND.out (ncells x h))
        refine ready_at 12 (by kernel_rfl) (by kernel_rfl) (fun K hK => ?_)
        simp only [List.getElem_cons_succ, List.getElem_cons_zero]
        go_simp
        refine hK.out _ _ ⟨load_part15 HNO.out.len BS9.out.rd, BS9.out.rd.wrong.1, load_wform (HFW.out _ BD.out)⟩ (fun hHeld => ?_)
        clear hK K
        try simp only [List.getElem_cons_succ, List.getElem_cons_zero, Act.put, List.setIfInBounds_toArray, List.set_cons_zero, List.set_cons_succ]
        refine take_at 13 (by kernel_rfl) (v := ?v9) (by kernel_rfl) (by kernel_rfl) (by kernel_rfl) (fun _ _ _ h => h) (by rfl) ?y9 (by assumption) ?r9
        case y9 => (intro w hSw; (try dsimp only at hSw); simp only [List.getElem_cons_succ, List.getElem_cons_zero]; go_simp; (try with_reducible rfl))
        try simp only [List.getElem_cons_succ, List.getElem_cons_zero, Act.put, List.setIfInBounds_toArray, List.set_cons_zero, List.set_cons_succ]
        refine wpAnyH_done (by kernel_rfl) ?_ _
        go_wp2_with fail
        refine bodyPost_ret (v := .tuple #[.agg (ncells x h).toArray, .bool false]) (results_note15 rfl _ _ _ _ _ _ _ _ rfl K9.out (Tryz.underlying32) rfl (note_sizeA HNO.out.len h) rfl) rfl ?_
        exact ⟨h, rfl, HNO.out, BS9.out.X, BS9.out.U, BS9.out.I, BS9.out.W, BS9.out.rd.below⟩
      | false =>
        have hb0 : b = decide (agr x) := HMY.out
        subst hb0
        have HS := Lib.hid (show ∀ w', Below wr.heap.size wr w' → _ from fun w' hb' => hs_any (q := false) HNO.out.len (BS.out.alloc hb') (F6.out.below hb' F6.out.lt))
        have HFW := Lib.hid (show ∀ w', Below wr.heap.size wr w' → Blk (w'.setRow gr (ncells x h).toArray) gf (fcs t t1 t2) 63 from fun w' hb' => (F6.out.below hb' F6.out.lt).rowOther _ HNB.out)
        refine wp_region_held_drew (S := (fun w' => (loadOp 32 (.pointer (some ⟨gb, 2, none⟩))).run Tryz.prog w' = .ok (.value (.agg (ncells x h).toArray)) w' ∧ w'.cell? ⟨gb, 1, none⟩ = some (.bool false) ∧ (loadOp 63 (.pointer (some ⟨gf, 0, none⟩))).run Tryz.prog w' = .ok (.value (.agg #[.string t, .string t1, .string t2])) w')) (by kernel_rfl) (HS.out _ (Below.refl wr.heap.size wr).drew) (fun hHeld => ?_)
        have BD := Lib.hid (Below.refl wr.heap.size wr).drew
        have ND := Lib.hid (N6.out.below BD.out N6.out.lt)
        have BSD := Lib.hid (BS.out.alloc BD.out)
        generalize wr.drew = wd at *
        refine take_at 0 (by kernel_rfl) (v := ?v10) (by kernel_rfl) (by kernel_rfl) (by kernel_rfl) (fun _ _ _ h => h) (by rfl) ?y10 (by assumption) ?r10
        case y10 => (intro w hSw; (try dsimp only at hSw); simp only [List.getElem_cons_succ, List.getElem_cons_zero]; go_simp; (try with_reducible rfl))
        try simp only [List.getElem_cons_succ, List.getElem_cons_zero, Act.put, List.setIfInBounds_toArray, List.set_cons_zero, List.set_cons_succ]
        refine take_at 1 (by kernel_rfl) (v := ?v11) (by kernel_rfl) (by kernel_rfl) (by kernel_rfl) (fun _ _ _ h => h) (by rfl) ?y11 (by assumption) ?r11
        case y11 => (intro w hSw; obtain ⟨h1, h2, h3⟩ := hSw; simp only [List.getElem_cons_succ, List.getElem_cons_zero]; go_simp; (try with_reducible rfl))
        try simp only [List.getElem_cons_succ, List.getElem_cons_zero, Act.put, List.setIfInBounds_toArray, List.set_cons_zero, List.set_cons_succ]
        refine take_at 2 (by kernel_rfl) (v := ?v12) (by kernel_rfl) (by kernel_rfl) (by kernel_rfl) (fun _ _ _ h => h) (by rfl) ?y12 (by assumption) ?r12
        case y12 => (intro w hSw; (try dsimp only at hSw); simp only [List.getElem_cons_succ, List.getElem_cons_zero]; go_simp; (try with_reducible rfl))
        try simp only [List.getElem_cons_succ, List.getElem_cons_zero, Act.put, List.setIfInBounds_toArray, List.set_cons_zero, List.set_cons_succ]
        refine take_at 3 (by kernel_rfl) (v := ?v13) (by kernel_rfl) (by kernel_rfl) (by kernel_rfl) (fun _ _ _ h => h) (by rfl) ?y13 (by assumption) ?r13
        case y13 => (intro w hSw; (try dsimp only at hSw); simp only [List.getElem_cons_succ, List.getElem_cons_zero]; go_simp; (try with_reducible rfl))
        try simp only [List.getElem_cons_succ, List.getElem_cons_zero, Act.put, List.setIfInBounds_toArray, List.set_cons_zero, List.set_cons_succ]
        refine take_at 4 (by kernel_rfl) (v := ?v14) (by kernel_rfl) (by kernel_rfl) (by kernel_rfl) (fun _ _ _ h => h) (by rfl) ?y14 (by assumption) ?r14
        case y14 => (intro w hSw; obtain ⟨h1, h2, h3⟩ := hSw; simp only [List.getElem_cons_succ, List.getElem_cons_zero]; go_simp; (try with_reducible rfl))
        try simp only [List.getElem_cons_succ, List.getElem_cons_zero, Act.put, List.setIfInBounds_toArray, List.set_cons_zero, List.set_cons_succ]
        refine take_at 5 (by kernel_rfl) (v := ?v15) (by kernel_rfl) (by kernel_rfl) (by kernel_rfl) (fun _ _ _ h => h) (by rfl) ?y15 (by assumption) ?r15
        case y15 => (intro w hSw; (try dsimp only at hSw); simp only [List.getElem_cons_succ, List.getElem_cons_zero]; go_simp; (try with_reducible rfl))
        try simp only [List.getElem_cons_succ, List.getElem_cons_zero, Act.put, List.setIfInBounds_toArray, List.set_cons_zero, List.set_cons_succ]
        refine take_at 6 (by kernel_rfl) (v := ?v16) (by kernel_rfl) (by kernel_rfl) (by kernel_rfl) (fun _ _ _ h => h) (by rfl) ?y16 (by assumption) ?r16
        case y16 => (intro w hSw; (try dsimp only at hSw); simp only [List.getElem_cons_succ, List.getElem_cons_zero]; go_simp; (try with_reducible rfl))
        try simp only [List.getElem_cons_succ, List.getElem_cons_zero, Act.put, List.setIfInBounds_toArray, List.set_cons_zero, List.set_cons_succ]
        refine take_at 7 (by kernel_rfl) (v := ?v17) (by kernel_rfl) (by kernel_rfl) (by kernel_rfl) (fun _ _ _ h => h) (by rfl) ?y17 (by assumption) ?r17
        case y17 => (intro w hSw; obtain ⟨h1, h2, h3⟩ := hSw; simp only [List.getElem_cons_succ, List.getElem_cons_zero]; go_simp; (try with_reducible rfl))
        try simp only [List.getElem_cons_succ, List.getElem_cons_zero, Act.put, List.setIfInBounds_toArray, List.set_cons_zero, List.set_cons_succ]
        refine take_at 8 (by kernel_rfl) (v := ?v18) (by kernel_rfl) (by kernel_rfl) (by kernel_rfl) (fun _ _ _ h => h) (by rfl) ?y18 (by assumption) ?r18
        case y18 => (intro w hSw; (try dsimp only at hSw); simp only [List.getElem_cons_succ, List.getElem_cons_zero]; go_simp; (try with_reducible rfl))
        try simp only [List.getElem_cons_succ, List.getElem_cons_zero, Act.put, List.setIfInBounds_toArray, List.set_cons_zero, List.set_cons_succ]
        refine take_at 9 (by kernel_rfl) (v := ?v19) (by kernel_rfl) (by kernel_rfl) (by kernel_rfl) (fun _ _ _ h => h) (by rfl) ?y19 (by assumption) ?r19
        case y19 => (intro w hSw; obtain ⟨h1, h2, h3⟩ := hSw; simp only [List.getElem_cons_succ, List.getElem_cons_zero]; go_simp; (try with_reducible rfl))
        try simp only [List.getElem_cons_succ, List.getElem_cons_zero, Act.put, List.setIfInBounds_toArray, List.set_cons_zero, List.set_cons_succ]
        refine ready_at 10 (by kernel_rfl) (by kernel_rfl) (fun K hK => ?_)
        simp only [List.getElem_cons_succ, List.getElem_cons_zero]
        go_simp
        go_at_call 73
        refine (HAG.out h wd (HNG.out wd BD.out)).mono ?_
        rintro e wa ⟨rfl, ba⟩
        have BA := Lib.hid (BD.out.trans (ba.mono BD.out.size))
        have NA := Lib.hid (ND.out.below ba ND.out.lt)
        have BSA := Lib.hid (BSD.out.alloc ba)
        clear ba
        (try go_wp2_with fail)
        refine hK.out _ _ (HS.out _ BA.out) (fun hHeld => ?_)
        clear hK K
        try simp only [List.getElem_cons_succ, List.getElem_cons_zero, Act.put, List.setIfInBounds_toArray, List.set_cons_zero, List.set_cons_succ]
        refine take_at 11 (by kernel_rfl) (v := ?v20) (by kernel_rfl) (by kernel_rfl) (by kernel_rfl) (fun _ _ _ h => h) (by rfl) ?y20 (by assumption) ?r20
        case y20 => (intro w hSw; (try dsimp only at hSw); simp only [List.getElem_cons_succ, List.getElem_cons_zero]; go_simp; (try with_reducible rfl))
        try simp only [List.getElem_cons_succ, List.getElem_cons_zero, Act.put, List.setIfInBounds_toArray, List.set_cons_zero, List.set_cons_succ]
        have sn := store_note (x := x) (h := h) NA.out nz_len HNO.out.len
        have K9 := Lib.hid (show Blk (wa.setRow gr (ncells x h).toArray) gr (ncells x h) 32 from NA.out.row (ncells x h))
        have BS9 := Lib.hid (BSA.out.row HG1.out.2.2.2.1 HG1.out.2.1 HNB.out NA.out (ncells x h))
        refine ready_at 12 (by kernel_rfl) (by kernel_rfl) (fun K hK => ?_)
        simp only [List.getElem_cons_succ, List.getElem_cons_zero]
        go_simp
        refine hK.out _ _ ⟨load_part15 HNO.out.len BS9.out.rd, BS9.out.rd.wrong.1, load_wform (HFW.out _ BA.out)⟩ (fun hHeld => ?_)
        clear hK K
        try simp only [List.getElem_cons_succ, List.getElem_cons_zero, Act.put, List.setIfInBounds_toArray, List.set_cons_zero, List.set_cons_succ]
        refine take_at 13 (by kernel_rfl) (v := ?v21) (by kernel_rfl) (by kernel_rfl) (by kernel_rfl) (fun _ _ _ h => h) (by rfl) ?y21 (by assumption) ?r21
        case y21 => (intro w hSw; (try dsimp only at hSw); simp only [List.getElem_cons_succ, List.getElem_cons_zero]; go_simp; (try with_reducible rfl))
        try simp only [List.getElem_cons_succ, List.getElem_cons_zero, Act.put, List.setIfInBounds_toArray, List.set_cons_zero, List.set_cons_succ]
        refine wpAnyH_done (by kernel_rfl) ?_ _
        go_wp2_with fail
        refine bodyPost_ret (v := .tuple #[.agg (ncells x h).toArray, .bool (decide (agr x))]) (results_note15 rfl _ _ _ _ _ _ _ _ rfl K9.out (Tryz.underlying32) rfl (note_sizeA HNO.out.len h) rfl) rfl ?_
        exact ⟨h, rfl, HNO.out, BS9.out.X, BS9.out.U, BS9.out.I, BS9.out.W, BS9.out.rd.below⟩
end
end
section
set_option linter.unusedSimpArgs false
set_option linter.unusedVariables false
open Go.RowKit Sha Nte
@[irreducible] def convN (v : Value) : Sem Next := do pure (.value (← convert 28 9 v))
theorem execOp_convN (ρ : Operand → Value) (dst : Option Tmp) (x : Operand) (ty : TypeId) (pos : String) (after : Array Edge) (guard : Option (Nat × Bool)) :
    execOp ρ { dst := dst, op := .convert 28 9 x, type := ty, pos := pos, after := after, guard := guard } = convN (ρ x) := by unfold convN; rfl
theorem run_convN (w : World) (xs : List Int) (n : Nat) (p : Option Addr) (c : Nat) (hn : xs.length = n) (hA : At w p (xs.map v8)) : (convN (.slice p n c)).run Tryz.prog w = .ok (.value (.string (strOfNums xs))) w := by
  unfold convN
  simp only [Sem.run_bind, run_conv_at (P := Tryz.prog) w 28 9 5 Tryz.underlying28 Tryz.underlying5 Tryz.underlying9 xs n p c hn hA, Result.andThen_ok, Sem.run_pure]
theorem execOp_eqStrN (ρ : Operand → Value) (dst : Option Tmp) (x y : Operand) (r : TypeId) (ty : TypeId) (pos : String) (after : Array Edge) (guard : Option (Nat × Bool)) :
    execOp ρ { dst := dst, op := .binOp .eql 9 x y r, type := ty, pos := pos, after := after, guard := guard } = eqO 9 x y (ρ x) (ρ y) := by unfold eqO; rfl
theorem run_eqStrN (x y : Operand) (xs ys : List Int) (hx : ∀ n ∈ xs, 0 ≤ n ∧ n ≤ 255) (hy : ∀ n ∈ ys, 0 ≤ n ∧ n ≤ 255) (w : World) : (eqO 9 x y (.string (strOfNums xs)) (.string (strOfNums ys))).run Tryz.prog w = .ok (.value (.bool (decide (xs = ys)))) w := by
  have h := strOfNums_inj xs ys hx hy
  unfold eqO
  simp only [binOp]
  simp [eqGuard, Op.stringOp, run_underlying Tryz.underlying9]
  simpa using h
theorem execOp_neIdN (ρ : Operand → Value) (dst : Option Tmp) (x y : Operand) (r : TypeId) (ty : TypeId) (pos : String) (after : Array Edge) (guard : Option (Nat × Bool)) :
    execOp ρ { dst := dst, op := .binOp .neq 27 x y r, type := ty, pos := pos, after := after, guard := guard } = neO 27 x y (ρ x) (ρ y) := by unfold neO; rfl
section
attribute [local go_sem ↓] execOp_convN execOp_eqStrN
set_option maxHeartbeats 1000000 in
theorem bytesEqN_any (xs ys : List Int) (n m : Nat) (p q : Option Addr) (c d : Nat) (w : World) (h1 : xs.length = n) (h2 : ys.length = m) (ha : At w p (xs.map v8)) (hb : At w q (ys.map v8)) (hx : ∀ n ∈ xs, 0 ≤ n ∧ n ≤ 255) (hy : ∀ n ∈ ys, 0 ≤ n ∧ n ≤ 255) :
    Calls Tryz.prog 32 #[.slice p n c, .slice q m d] w fun e w' => e = .returned (.bool (decide (xs = ys))) ∧ w = w' := by
  have ca := run_convN w xs n p c h1 ha
  have cb := run_convN w ys m q d h2 hb
  have es := fun o1 o2 => run_eqStrN o1 o2 xs ys hx hy w
  generalize strOfNums xs = sx at *
  generalize strOfNums ys = sy at *
  obtain ⟨bb, hbb⟩ : ∃ b, b = decide (xs = ys) := ⟨_, rfl⟩
  rw [← hbb] at es ⊢
  clear h1 h2 ha hb hx hy hbb
  go_enter Tryz.func32, Tryz.ntmps32
  go_wp2_with fail
  go_ret
  exact ⟨rfl, rfl⟩
end
theorem run_neIdN (x y : Operand) (xs ys : List Int) (hx : xs.length = 32) (hy : ys.length = 32) (e : Bool) (he : e = decide (xs ≠ ys)) (w : World) : (neO 27 x y (.agg (xs.map v8).toArray) (.agg (ys.map v8).toArray)).run Tryz.prog w = .ok (.value (.bool e)) w := by
  have hr := run_neq_arr (P := Tryz.prog) w x y 27 5 32 .u8 Tryz.underlying27 Tryz.underlying5 kslice1 xs ys hx hy
  subst he
  unfold neO
  simp only [Sem.run_bind, Sem.run_pure, Result.andThen_ok] at hr ⊢
  rw [hr, show decide (xs ≠ ys) = !decide (xs = ys) from by simp]
  rfl
section
attribute [local go_sem ↓] execOp_loadId execOp_loadWord execOp_neIdN execOp_neWord
set_option maxRecDepth 100000 in
set_option maxHeartbeats 2000000 in
theorem idsEqN_any (l l' : List (List Int)) (n m : Nat) (q p : Option Addr) (c d : Nat) (w : World) (hl : sI.Told w q n c l) (hl' : sI.Told w p m d l') :
    Calls Tryz.prog 33 #[.slice q n c, .slice p m d] w fun e w' => e = .returned (.bool (decide (l = l'))) ∧ Below w.heap.size w w' := by
  have HL := Lib.hid hl
  have HR := Lib.hid hl'
  have HN := Lib.hid hl.len
  have HM := Lib.hid hl'.len
  have b1 := hl.le
  have b2 := hl.max
  have b3 := hl'.le
  have b4 := hl'.max
  clear hl hl'
  by_cases hnm : n = m
  · subst hnm
    have t0 : ((n : Int) != (n : Int)) = false := by simp
    go_enter Tryz.func33, Tryz.ntmps33
    go_wp2_with fail
    go_loopw [13] (fun i wr => ∃ k : Nat, i = .int .i64 k ∧ k ≤ n ∧ Hid (l.take k = l'.take k) ∧ Hid (Below w.heap.size w wr)) (fun i _ => n - (intOf i).toNat)
    case atStart => exact ⟨0, rfl, by omega, Lib.hid rfl, Lib.hid (Below.refl _ _)⟩
    case round =>
      obtain ⟨k, rfl, hk, HT, HB⟩ := hrel
      by_cases hlt : k < n
      · have hk1 : k < l.length := by rw [← HN.out]; exact hlt
        have hk2 : k < l'.length := by rw [← HM.out]; exact hlt
        obtain ⟨b, off, q1, c1, rfl, hr, hg⟩ := HL.out.rows.get k hk1
        obtain ⟨b', off', q2, c2, rfl, hr', hg'⟩ := HR.out.rows.get k hk2
        have hr : w.rangeAt b (off + k * 32) (List.map v8 l[k]) := hr
        have hr' : w.rangeAt b' (off' + k * 32) (List.map v8 l'[k]) := hr'
        have jk : (0 : Int) ≤ (k : Int) ∧ (k : Int) < (n : Int) := by omega
        obtain ⟨I, W, hC⟩ := cls_of wr
        have hne : Nonempty I := hC.ne
        have k1 := hg.ok
        have k2 := hg'.ok
        have m1 := fun i => load_idr (k1).2 (rangeN_on hr (HB.out.trans ((hC.back i).mono HB.out.size)))
        have m2 := fun i => load_idr (k2).2 (rangeN_on hr' (HB.out.trans ((hC.back i).mono HB.out.size)))
        have HC := Lib.hid hC
        have HS := Lib.hid (take_next l l' k hk1 hk2 HT.out)
        have HNE := Lib.hid (show l[k] ≠ l'[k] → l ≠ l' from fun h e => h (by simp [e]))
        generalize l[k] = x at *
        generalize l'[k] = y at *
        clear hC hr hr' hk1 hk2 HT hg hg'
        by_cases hxy : x = y
        · have HT2 := Lib.hid (HS.out.2 hxy)
          have HQ := fun o1 o2 w => run_neIdN o1 o2 x y k1.2 k2.2 false (by simp [hxy]) w
          clear hxy HS HNE k1 k2
          go_wp2_with fail
          refine wp_region_cls W (by kernel_rfl) (by kernel_rfl) HC.out.one ?_
          repeat go_big_quiet_step (fail)
          refine wpQuiet_nil ?_
          rintro _ ⟨mm, rfl⟩
          have B2 := Lib.hid (HB.out.trans ((HC.out.back mm).mono HB.out.size))
          clear m1 m2 HQ HC
          generalize W mm = wv at *
          go_wp2_with fail
          go_roundw
          case rel => exact ⟨k + 1, by go_num, by omega, HT2, B2⟩
          case measure => simp [intOf]; omega
        · have HV := Lib.hid (decide_eq_false (HNE.out hxy))
          have HQ := fun o1 o2 w => run_neIdN o1 o2 x y k1.2 k2.2 true (by simp [hxy]) w
          clear hxy HS HNE k1 k2
          go_wp2_with fail
          refine wp_region_cls W (by kernel_rfl) (by kernel_rfl) HC.out.one ?_
          repeat go_big_quiet_step (fail)
          refine wpQuiet_nil ?_
          rintro _ ⟨mm, rfl⟩
          have B2 := Lib.hid (HB.out.trans ((HC.out.back mm).mono HB.out.size))
          clear m1 m2 HQ HC
          generalize W mm = wv at *
          go_wp2_with fail
          go_ret
          exact ⟨by rw [HV.out]; rfl, B2.out⟩
      · obtain rfl : n = k := by omega
        have HV := Lib.hid (show decide (l = l') = true from decide_eq_true (by
          have := HT.out
          rwa [List.take_of_length_le (by rw [← HN.out]; exact Nat.le_refl _), List.take_of_length_le (by rw [← HM.out]; exact Nat.le_refl _)] at this))
        clear HT
        go_wp2_with fail
        go_ret
        exact ⟨by rw [HV.out]; rfl, HB.out⟩
  · have t0 : ((n : Int) != (m : Int)) = true := by simpa using (show (n : Int) ≠ (m : Int) by omega)
    have HV := Lib.hid (show decide (l = l') = false from decide_eq_false (fun e => hnm (by rw [HN.out, HM.out, e])))
    clear hnm
    go_enter Tryz.func33, Tryz.ntmps33
    go_wp2_with fail
    go_ret
    exact ⟨by rw [HV.out]; rfl, Below.refl _ _⟩
set_option maxRecDepth 100000 in
set_option maxHeartbeats 2000000 in
theorem wordsEqN_any (l l' : List Mb) (n m : Nat) (q p : Option Addr) (c d : Nat) (w : World) (hl : sW.Told w q n c l) (hl' : sW.Told w p m d l') :
    Calls Tryz.prog 34 #[.slice q n c, .slice p m d] w fun e w' => e = .returned (.bool (decide (l = l'))) ∧ Below w.heap.size w w' := by
  have HL := Lib.hid hl
  have HR := Lib.hid hl'
  have HN := Lib.hid hl.len
  have HM := Lib.hid hl'.len
  have b1 := hl.le
  have b2 := hl.max
  have b3 := hl'.le
  have b4 := hl'.max
  clear hl hl'
  by_cases hnm : n = m
  · subst hnm
    have t0 : ((n : Int) != (n : Int)) = false := by simp
    go_enter Tryz.func34, Tryz.ntmps34
    go_wp2_with fail
    go_loopw [13] (fun i wr => ∃ k : Nat, i = .int .i64 k ∧ k ≤ n ∧ Hid (l.take k = l'.take k) ∧ Hid (Below w.heap.size w wr)) (fun i _ => n - (intOf i).toNat)
    case atStart => exact ⟨0, rfl, by omega, Lib.hid rfl, Lib.hid (Below.refl _ _)⟩
    case round =>
      obtain ⟨k, rfl, hk, HT, HB⟩ := hrel
      by_cases hlt : k < n
      · have hk1 : k < l.length := by rw [← HN.out]; exact hlt
        have hk2 : k < l'.length := by rw [← HM.out]; exact hlt
        obtain ⟨b, off, q1, c1, rfl, hr, hg⟩ := HL.out.rows.get k hk1
        obtain ⟨b', off', q2, c2, rfl, hr', hg'⟩ := HR.out.rows.get k hk2
        have hr : w.rangeAt b (off + k * 3) (nmc l[k]) := hr
        have hr' : w.rangeAt b' (off' + k * 3) (nmc l'[k]) := hr'
        have jk : (0 : Int) ≤ (k : Int) ∧ (k : Int) < (n : Int) := by omega
        obtain ⟨I, W, hC⟩ := cls_of wr
        have hne : Nonempty I := hC.ne
        have k1 := hg.ok
        have k2 := hg'.ok
        have m1 := fun i => load_word (rangeN_on hr (HB.out.trans ((hC.back i).mono HB.out.size)))
        have m2 := fun i => load_word (rangeN_on hr' (HB.out.trans ((hC.back i).mono HB.out.size)))
        have HC := Lib.hid hC
        have HS := Lib.hid (take_next l l' k hk1 hk2 HT.out)
        have HNE := Lib.hid (show l[k] ≠ l'[k] → l ≠ l' from fun h e => h (by simp [e]))
        generalize l[k] = x at *
        generalize l'[k] = y at *
        clear hC hr hr' hk1 hk2 HT hg hg'
        by_cases hxy : x = y
        · have HT2 := Lib.hid (HS.out.2 hxy)
          have HQ := fun o1 o2 w => run_neWord x y false (by simp [hxy]) o1 o2 w
          clear hxy HS HNE k1 k2
          go_wp2_with fail
          refine wp_region_cls W (by kernel_rfl) (by kernel_rfl) HC.out.one ?_
          repeat go_big_quiet_step (fail)
          refine wpQuiet_nil ?_
          rintro _ ⟨mm, rfl⟩
          have B2 := Lib.hid (HB.out.trans ((HC.out.back mm).mono HB.out.size))
          clear m1 m2 HQ HC
          generalize W mm = wv at *
          go_wp2_with fail
          go_roundw
          case rel => exact ⟨k + 1, by go_num, by omega, HT2, B2⟩
          case measure => simp [intOf]; omega
        · have HV := Lib.hid (decide_eq_false (HNE.out hxy))
          have HQ := fun o1 o2 w => run_neWord x y true (by simp [hxy]) o1 o2 w
          clear hxy HS HNE k1 k2
          go_wp2_with fail
          refine wp_region_cls W (by kernel_rfl) (by kernel_rfl) HC.out.one ?_
          repeat go_big_quiet_step (fail)
          refine wpQuiet_nil ?_
          rintro _ ⟨mm, rfl⟩
          have B2 := Lib.hid (HB.out.trans ((HC.out.back mm).mono HB.out.size))
          clear m1 m2 HQ HC
          generalize W mm = wv at *
          go_wp2_with fail
          go_ret
          exact ⟨by rw [HV.out]; rfl, B2.out⟩
      · obtain rfl : n = k := by omega
        have HV := Lib.hid (show decide (l = l') = true from decide_eq_true (by
          have := HT.out
          rwa [List.take_of_length_le (by rw [← HN.out]; exact Nat.le_refl _), List.take_of_length_le (by rw [← HM.out]; exact Nat.le_refl _)] at this))
        clear HT
        go_wp2_with fail
        go_ret
        exact ⟨by rw [HV.out]; rfl, HB.out⟩
  · have t0 : ((n : Int) != (m : Int)) = true := by simpa using (show (n : Int) ≠ (m : Int) by omega)
    have HV := Lib.hid (show decide (l = l') = false from decide_eq_false (fun e => hnm (by rw [HN.out, HM.out, e])))
    clear hnm
    go_enter Tryz.func34, Tryz.ntmps34
    go_wp2_with fail
    go_ret
    exact ⟨by rw [HV.out]; rfl, Below.refl _ _⟩
end
end
section
set_option linter.unusedSimpArgs false
set_option linter.unusedVariables false
open Go.RowKit Sha Nte
attribute [local go_sem ↓] execOp_loadInt execOp_loadBool execOp_loadBytes execOp_loadIds execOp_loadWords execOp_boxNote execOp_loadId execOp_loadCall execOp_loadBall execOp_eqId execOp_eqCall execOp_eqBall
set_option maxRecDepth 100000 in
set_option maxHeartbeats 40000000 in
theorem wsame_any (x y : Not) (h k : NHd) (w : World) (hx : NGood w x h) (hy : NGood w y k) :
    Calls Tryz.prog 13 #[.agg (ncells x h).toArray, .agg (ncells y k).toArray] w fun e w' => e = .returned (.bool (decide (x = y))) ∧ Below w.heap.size w w' := by
  have HX := Lib.hid hx
  have HY := Lib.hid hy
  obtain ⟨z, hz⟩ : ∃ z, z = decide (x = y) := ⟨_, rfl⟩
  rw [← hz]
  rw [not_ext] at hz
  have HZ := Lib.hid hz
  clear hz hx hy
  obtain ⟨n1, hn1⟩ : ∃ n, n = x.X.length := ⟨_, rfl⟩
  obtain ⟨n2, hn2⟩ : ∃ n, n = x.I.length := ⟨_, rfl⟩
  obtain ⟨n3, hn3⟩ : ∃ n, n = x.W.length := ⟨_, rfl⟩
  obtain ⟨m1, hm1⟩ : ∃ n, n = y.X.length := ⟨_, rfl⟩
  obtain ⟨m2, hm2⟩ : ∃ n, n = y.I.length := ⟨_, rfl⟩
  obtain ⟨m3, hm3⟩ : ∃ n, n = y.W.length := ⟨_, rfl⟩
  have N1 := Lib.hid hn1
  have N2 := Lib.hid hn2
  have N3 := Lib.hid hn3
  have M1 := Lib.hid hm1
  have M2 := Lib.hid hm2
  have M3 := Lib.hid hm3
  clear hn1 hn2 hn3 hm1 hm2 hm3
  obtain ⟨b0, e0⟩ : ∃ b, (x.K == y.K) = b := ⟨_, rfl⟩
  obtain ⟨b1, e1⟩ : ∃ b, (x.F == y.F) = b := ⟨_, rfl⟩
  obtain ⟨b2, e2⟩ : ∃ b, (x.T == y.T) = b := ⟨_, rfl⟩
  obtain ⟨b3, e3⟩ : ∃ b, b = decide (x.C1 = y.C1 ∧ x.C2 = y.C2 ∧ x.C3 = y.C3) := ⟨_, rfl⟩
  obtain ⟨b4, e4⟩ : ∃ b, (x.S == y.S) = b := ⟨_, rfl⟩
  obtain ⟨b5, e5⟩ : ∃ b, (x.H == y.H) = b := ⟨_, rfl⟩
  obtain ⟨b6, e6⟩ : ∃ b, b = decide (x.B1 = y.B1 ∧ x.B2 = y.B2) := ⟨_, rfl⟩
  obtain ⟨b7, e7⟩ : ∃ b, b = decide (x.O1 = y.O1 ∧ x.O2 = y.O2) := ⟨_, rfl⟩
  obtain ⟨b8, e8⟩ : ∃ b, (x.Y == y.Y) = b := ⟨_, rfl⟩
  obtain ⟨b9, e9⟩ : ∃ b, b = decide (x.D = y.D) := ⟨_, rfl⟩
  obtain ⟨b10, e10⟩ : ∃ b, b = decide (x.X = y.X) := ⟨_, rfl⟩
  obtain ⟨b11, e11⟩ : ∃ b, b = decide (x.I = y.I) := ⟨_, rfl⟩
  obtain ⟨b12, e12⟩ : ∃ b, b = decide (x.W = y.W) := ⟨_, rfl⟩
  have HZ := Lib.hid (show z = (b0 && b1 && b2 && b3 && b4 && b5 && b6 && b7 && b8 && b9 && b10 && b11 && b12) from by rw [HZ.out, e0, e1, e2, ← e3, e4, e5, ← e6, ← e7, e8, ← e9, ← e10, ← e11, ← e12])
  have E10 := Lib.hid e10
  have E11 := Lib.hid e11
  have E12 := Lib.hid e12
  have E0 := Lib.hid e0
  have E1 := Lib.hid e1
  have E2 := Lib.hid e2
  have E3 := Lib.hid e3
  have E4 := Lib.hid e4
  have E5 := Lib.hid e5
  have E6 := Lib.hid e6
  have E7 := Lib.hid e7
  have E8 := Lib.hid e8
  have E9 := Lib.hid e9
  clear e0 e1 e2 e3 e4 e5 e6 e7 e8 e9 e10 e11 e12
  obtain ⟨g, w1, r1, hg1, hl1, K1, B1⟩ := box_note w x h
  obtain ⟨g2, w2, r2, hg2, hl2, K2, B2⟩ := box_note w1 y k
  have R1 := Lib.hid (K1.below B2 hl1).range
  have R2 := Lib.hid K2.range
  have P1 := Lib.hid (nblk_of R1.out HX.out.ok.len)
  have P2 := Lib.hid (nblk_of R2.out HY.out.ok.len)
  have HB2 := Lib.hid (B1.trans (B2.mono B1.size))
  clear K1 B1 K2 B2 hg1 hg2 hl1 hl2
  cases b0; rotate_left; cases b1; rotate_left; cases b2; rotate_left; cases b3; rotate_left; cases b4; rotate_left; cases b5; rotate_left; cases b6; rotate_left; cases b7; rotate_left; cases b8; rotate_left; cases b9; rotate_left; cases b10; rotate_left; cases b11; rotate_left; cases b12; rotate_left
  all_goals
    go_enter Tryz.func13, Tryz.ntmps13
    go_wp2_with fail
    clear r1 r2
    try (have a := P1.out.c0; have d := P2.out.c0; have e := E0.out; go_simp; go_wp2_with fail; clear a d e)
    try (have a := P1.out.c1; have d := P2.out.c1; have e := E1.out; go_simp; go_wp2_with fail; clear a d e)
    try (have a := P1.out.c2; have d := P2.out.c2; have e := E2.out; go_simp; go_wp2_with fail; clear a d e)
    try (have a := P1.out.c3; have d := P2.out.c3; have e := run_eqCall _ _ _ _ _ _ _ E3.out; go_simp; go_wp2_with fail; clear a d e)
    try (have a := P1.out.c6; have d := P2.out.c6; have e := E4.out; go_simp; go_wp2_with fail; clear a d e)
    try (have a := P1.out.c7; have d := P2.out.c7; have e := E5.out; go_simp; go_wp2_with fail; clear a d e)
    try (have a := P1.out.c8; have d := P2.out.c8; have e := run_eqBall _ _ _ _ _ E6.out; go_simp; go_wp2_with fail; clear a d e)
    try (have a := P1.out.c10; have d := P2.out.c10; have e := run_eqBall _ _ _ _ _ E7.out; go_simp; go_wp2_with fail; clear a d e)
    try (have a := P1.out.c12; have d := P2.out.c12; have e := E8.out; go_simp; go_wp2_with fail; clear a d e)
    try (have a := P1.out.c13; have d := P2.out.c13; have e := fun o1 o2 => run_eqId o1 o2 _ _ HX.out.ok.len HY.out.ok.len _ E9.out; go_simp; go_wp2_with fail; clear a d e)
    try (have a := P1.out.c45; have d := P2.out.c45; rw [← N1.out] at a; rw [← M1.out] at d; go_simp; go_wp2_with fail; refine (bytesEqN_any x.X y.X n1 m1 h.q k.q h.c k.c w2 N1.out.symm M1.out.symm (HX.out.X.below HB2.out) (HY.out.X.below HB2.out) HX.out.ok.X HY.out.ok.X).mono ?_; rw [← E10.out]; rintro e w' ⟨rfl, rfl⟩; clear a d; go_wp2_with fail)
    try (have a := P1.out.c46; have d := P2.out.c46; rw [← N2.out] at a; rw [← M2.out] at d; go_simp; go_wp2_with fail; have g1 := HX.out.I.below HB2.out; have g3 := HY.out.I.below HB2.out; rw [← N2.out] at g1; rw [← M2.out] at g3; refine (idsEqN_any x.I y.I n2 m2 h.r k.r h.d k.d w2 g1 g3).mono ?_; clear g1 g3; rw [← E11.out]; rintro e w3 ⟨rfl, hb⟩; have HB3 := Lib.hid (HB2.out.trans (hb.mono HB2.out.size)); have A47 := Lib.hid (nblk_of (rangeN_on R1.out hb) HX.out.ok.len).c47; have D47 := Lib.hid (nblk_of (rangeN_on R2.out hb) HY.out.ok.len).c47; clear a d hb; go_wp2_with fail)
    try (have a := A47.out; have d := D47.out; rw [← N3.out] at a; rw [← M3.out] at d; go_simp; go_wp2_with fail; have g1 := HX.out.W.below HB3.out; have g3 := HY.out.W.below HB3.out; rw [← N3.out] at g1; rw [← M3.out] at g3; refine (wordsEqN_any x.W y.W n3 m3 h.s k.s h.e k.e w3 g1 g3).mono ?_; clear g1 g3; rw [← E12.out]; rintro e w4 ⟨rfl, hb⟩; have HB4 := Lib.hid (HB3.out.trans (hb.mono HB3.out.size)); clear hb a d; go_wp2_with fail)
    go_ret
    first
      | exact ⟨by rw [HZ.out]; simp; done, HB4.out⟩
      | exact ⟨by rw [HZ.out]; simp; done, HB3.out⟩
      | exact ⟨by rw [HZ.out]; simp; done, HB2.out⟩
end
end Go.Proofs.YtbogjfmefkhglaaGreat
