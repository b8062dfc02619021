/-
  Slices of slices of bytes in memory: what came in, what the call itself made.
-/
import Derived.Test.YtfjopbgnijfajaaKitS
import Derived.Test.YtfjopbgnijfajaaOwn8
namespace Go.Proofs.Ytfjopbgnijfajaa
set_option linter.unusedSimpArgs false
set_option linter.unusedVariables false
open Go.RowKit Sha
/-- A record, where its bytes lie, how much room they have. -/
abbrev SHdr := List Int × Option Addr × Nat
def cellS (y : SHdr) : Value := .slice y.2.1 y.1.length y.2.2
theorem cellS_one (y : SHdr) : (cellS y).oneCell' = true := rfl
structure GoodS (w : World) (y : SHdr) : Prop where
  bytes : ∀ n ∈ y.1, 0 ≤ n ∧ n ≤ 255
  at_ : At w y.2.1 (y.1.map v8)
  le : y.1.length ≤ y.2.2
  max : y.2.2 ≤ 9223372036854775807
  nil : y.2.1 = none → y.2.2 = 0
theorem GoodS.below {w w' : World} {y : SHdr} (h : GoodS w y) (hb : Below w.heap.size w w') : GoodS w' y := ⟨h.bytes, h.at_.below hb, h.le, h.max, h.nil⟩
/-- Records that came in, or are told: a slice of slices that reads as they are. -/
structure Recs (w : World) (p : Option Addr) (n c : Nat) (l : List (List Int)) : Prop where
  len : n = l.length
  le : n ≤ c
  max : c ≤ 9223372036854775807
  nil : p = none → c = 0
  recs : ∃ ys : List SHdr, ys.map (·.1) = l ∧ At w p (ys.map cellS) ∧ ∀ y ∈ ys, GoodS w y
theorem Recs.below {w w' : World} {p : Option Addr} {n c : Nat} {l : List (List Int)} (h : Recs w p n c l) (hb : Below w.heap.size w w') : Recs w' p n c l :=
  ⟨h.len, h.le, h.max, h.nil, by obtain ⟨ys, h1, h2, h3⟩ := h.recs; exact ⟨ys, h1, h2.below hb, fun y hy => (h3 y hy).below hb⟩⟩
theorem Recs.none_ (w : World) : Recs w none 0 0 [] := ⟨rfl, by omega, by omega, fun _ => rfl, [], rfl, At.nil _ _, by simp⟩
theorem Recs.bytes {w : World} {p : Option Addr} {n c : Nat} {l : List (List Int)} (h : Recs w p n c l) : ∀ b ∈ l, ∀ n ∈ b, 0 ≤ n ∧ n ≤ 255 := by
  obtain ⟨ys, rfl, _, h3⟩ := h.recs
  intro b hb
  obtain ⟨y, hy, rfl⟩ := List.mem_map.1 hb
  exact (h3 y hy).bytes
/-- The i-th record. -/
theorem Recs.get {w : World} {p : Option Addr} {n c : Nat} {l : List (List Int)} (h : Recs w p n c l) (i : Nat) (hi : i < l.length) :
    ∃ b off q d, p = some ⟨b, off, none⟩ ∧ w.cell? ⟨b, off + i, none⟩ = some (.slice q l[i].length d) ∧ GoodS w (l[i], q, d) := by
  obtain ⟨ys, rfl, h2, h3⟩ := h.recs
  rw [List.length_map] at hi
  obtain ⟨b, off, rfl, hc⟩ := h2.addr (by rw [List.length_map]; omega)
  refine ⟨b, off, (ys[i]).2.1, (ys[i]).2.2, rfl, ?_, ?_⟩
  · rw [hc i (cellS ys[i]) (by rw [List.getElem?_map, List.getElem?_eq_getElem hi]; rfl)]
    simp [cellS]
  · simpa using h3 ys[i] (List.getElem_mem hi)
/-- The first ones. -/
theorem Recs.take {w : World} {p : Option Addr} {n c : Nat} {l : List (List Int)} (h : Recs w p n c l) (k : Nat) (hk : k ≤ n) : Recs w p k c (l.take k) := by
  obtain ⟨ys, h1, h2, h3⟩ := h.recs
  refine ⟨by rw [List.length_take, ← h.len]; omega, by have := h.le; omega, h.max, h.nil, ys.take k, by rw [List.map_take, h1], ?_, fun y hy => h3 y (List.mem_of_mem_take hy)⟩
  rw [List.map_take]
  have e : ys.map cellS = (ys.map cellS).take k ++ (ys.map cellS).drop k := (List.take_append_drop ..).symm
  rw [e] at h2
  exact h2.front
/-! ### A slice of slices that the call itself makes -/
/-- A record of the call's own. -/
structure RecO (B : Nat) (w : World) (y : SHdr) : Prop where
  bytes : ∀ n ∈ y.1, 0 ≤ n ∧ n ≤ 255
  own : w.ownsRow B 5 1 (cellS y) y.1.length (y.1.map v8)
theorem RecO.good {B : Nat} {w : World} {y : SHdr} (h : RecO B w y) : GoodS w y := by
  obtain ⟨p, cap, hv, hl, hm, hA, hx, hn⟩ := own_at h.own
  unfold cellS at hv
  cases hv
  exact ⟨h.bytes, hA, hl, by unfold maxLen at hm; omega, hn⟩
theorem RecO.carry {B : Nat} {w w' : World} {y : SHdr} (h : RecO B w y) (hc : ∀ (k : Nat) (c : Array Value) (fz : Nat × Nat), w.heap[k]? = some (Obj.cells c 5 fz) → w'.heap[k]? = some (Obj.cells c 5 fz)) : RecO B w' y := by
  refine ⟨h.bytes, h.own.1, ?_⟩
  rcases h.own.2 with h | ⟨g, cap, cur, hv, hg, hh, h4⟩
  · exact Or.inl h
  · exact Or.inr ⟨g, cap, cur, hv, hg, hc g _ _ hh, h4⟩
structure OwnS (B : Nat) (w : World) (v : Value) (ys : List SHdr) : Prop where
  own : w.ownsRow B 26 1 v ys.length (ys.map cellS)
  good : ∀ y ∈ ys, RecO B w y
theorem OwnS.nil (B : Nat) (w : World) : OwnS B w (.slice none 0 0) [] := ⟨World.ownsRow_nil _ _ _ _, by simp⟩
theorem slice_info : (Try.prog.info? 26).map (fun i => (i.zero, i.size, i.bytes)) = some (some (.slice none 0 0), 1, 24) := by kernel_rfl
theorem us_ne : (5 : TypeId) ≠ 26 := by decide
theorem OwnS.on {B : Nat} {w w' : World} {v : Value} {ys : List SHdr} (h : OwnS B w v ys) (hb : Below w.heap.size w w') : OwnS B w' v ys := by
  refine ⟨⟨h.own.1, ?_⟩, fun y hy => (h.good y hy).carry fun k c fz hh => ?_⟩
  · rcases h.own.2 with h' | ⟨g, cap, cur, hv, hg, hh, h4⟩
    · exact Or.inl h'
    · exact Or.inr ⟨g, cap, cur, hv, hg, by rw [hb.block g (h.own.lt g (by rw [hv]; rfl)).2]; exact hh, h4⟩
  · have hk : k < w.heap.size := (Array.getElem?_eq_some_iff.1 hh).1
    rw [hb.block k hk]; exact hh
/-- One more behind them: what append leaves. -/
theorem OwnS.snoc {B : Nat} {w w' : World} {v v' : Value} {ys : List SHdr} {y : SHdr} {o : Obj} (h : OwnS B w v ys) (hy : RecO B w y) (hg : (w.alloc o).grownBy w' v.ownBlock) (hown : w'.ownsRow B 26 1 v' (ys.length + 1) (ys.map cellS ++ [cellS y])) : OwnS B w' v' (ys ++ [y]) := by
  have hc : ∀ (k : Nat) (c : Array Value) (fz : Nat × Nat), w.heap[k]? = some (Obj.cells c 5 fz) → w'.heap[k]? = some (Obj.cells c 5 fz) := by
    intro k c fz hh
    have hk : k < w.heap.size := (Array.getElem?_eq_some_iff.1 hh).1
    have hne : some k ≠ v.ownBlock := by
      intro e
      rcases h.own.2 with ⟨hv, _⟩ | ⟨g, cap, cur, hv, _, hh', _⟩
      · rw [hv] at e; cases e
      · rw [hv] at e
        cases e
        rw [hh'] at hh
        injection hh with hh; injection hh with _ ht
        exact us_ne ht.symm
    rw [hg.block k (by simp; omega) hne, (World.grownBy_alloc w o none).block k hk (by simp)]
    exact hh
  refine ⟨by simpa using hown, fun z hz => ?_⟩
  rcases List.mem_append.1 hz with hz | hz
  · exact (h.good z hz).carry hc
  · rw [List.mem_singleton.1 hz]; exact hy.carry hc
theorem own_weak {w : World} {B B' n size : Nat} {e : TypeId} {v : Value} {xs : List Value} (h : w.ownsRow B e size v n xs) (hb : B' ≤ B) : w.ownsRow B' e size v n xs := by
  refine ⟨h.1, ?_⟩
  rcases h.2 with h | ⟨g, cap, cur, hv, hg, hh⟩
  · exact Or.inl h
  · exact Or.inr ⟨g, cap, cur, hv, Nat.le_trans hb hg, hh⟩
/-- Under an append to bytes of another's that are new. -/
theorem OwnS.grown8 {B n c : Nat} {w w' : World} {v : Value} {ys : List SHdr} {o : Obj} (h : OwnS B w v ys) (hg : (w.alloc o).grownBy w' (Value.ownBlock (.slice (some ⟨w.heap.size, 0, none⟩) n c))) : OwnS B w' v ys := by
  have hk : ∀ k, k < w.heap.size → w'.heap[k]? = w.heap[k]? := fun k hk => by
    rw [hg.block k (by simp; omega) (by simp [Value.ownBlock]; omega), (World.grownBy_alloc w o none).block k hk (by simp)]
  refine ⟨⟨h.own.1, ?_⟩, fun y hy => (h.good y hy).carry fun k c fz hh => ?_⟩
  · rcases h.own.2 with h' | ⟨g, cap, cur, hv, hg', hh, h4⟩
    · exact Or.inl h'
    · exact Or.inr ⟨g, cap, cur, hv, hg', by rw [hk g (h.own.lt g (by rw [hv]; rfl)).2]; exact hh, h4⟩
  · rw [hk k (Array.getElem?_eq_some_iff.1 hh).1]; exact hh
theorem OwnS.told {B : Nat} {w : World} {v : Value} {ys : List SHdr} (h : OwnS B w v ys) : ∃ q c, v = .slice q ys.length c ∧ Recs w q ys.length c (ys.map (·.1)) := by
  obtain ⟨p, cap, hv, hl, hm, hA, hx, hn⟩ := own_at h.own
  exact ⟨p, cap, hv, by simp, hl, by unfold maxLen at hm; omega, hn, ys, rfl, hA, fun y hy => (h.good y hy).good⟩
end Go.Proofs.Ytfjopbgnijfajaa
