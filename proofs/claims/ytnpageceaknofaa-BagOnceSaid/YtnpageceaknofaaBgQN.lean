/-
  The program's iterator over a ring of numbers.
-/
import Derived.Test.YtnpageceaknofaaBgPN
namespace Go.Proofs.Ytnpageceaknofaa
set_option linter.unusedSimpArgs false
set_option linter.unusedVariables false
open Go.RowKit Go.Shelf Sha Rin
attribute [local go_sem] Oper.semAt_some
/-- What the iterator tells as its k-th, and where it reads it. -/
def tellN (l : List Int) (k : Nat) : Array Value := #[.int .i64 k, Value.int .i64 (l.getD k (0 : Int))]
def readN (g c f : Nat) (l : List Int) (k : Nat) (W : World) : Prop := ∀ j, k ≤ j → j < l.length → W.cell? ⟨g, (f + j) % c, none⟩ = some (Value.int .i64 (l.getD j (0 : Int)))
set_option maxRecDepth 100000 in
set_option maxHeartbeats 1000000 in
theorem eachN_in (m : Nat) (h1 : 1 ≤ m) (b g Bx : Nat) (p : Option Addr) (c f n : Nat) (l : List Int) (w : World) (hx : w.cell? ⟨Bx, 0, none⟩ = some (.pointer (some ⟨b, 2, none⟩)))
    (h2 : w.cell? ⟨b, 2, none⟩ = some (.slice p c c)) (h3 : w.cell? ⟨b, 3, none⟩ = some (.int .i64 f)) (h4 : w.cell? ⟨b, 4, none⟩ = some (.int .i64 n))
    (hp : p = none ∧ c = 0 ∨ p = some ⟨g, 0, none⟩) (hln : l.length = n) (hn : n ≤ c) (hf : f < c ∨ c = 0 ∧ f = 0) (hc : c ≤ 2000) :
    SeqSays Fence.wide m Try.prog 52 #[.pointer (some ⟨Bx, 0, none⟩)] (tellN l) n (readN g c f l) w := by
  intro lp J Jx W hW hJ hJx hNd hY h0
  have hcell : ∀ a v, w.cell? a = some v → W.cell? a = some v := fun a v h => (hW.cell (World.block_lt_of_cell? w a h)).trans h
  have HCUT := Lib.hid (cutN_any b g p c f n W (hcell _ _ h2) (hcell _ _ h3) (hcell _ _ h4) hp hf hn hc)
  have hx' := hcell _ _ hx
  have HJ := Lib.hid hJ
  have HJX := Lib.hid hJx
  have HND := Lib.hid hNd
  have HY := Lib.hid hY
  have HLN := Lib.hid hln
  clear hcell hJ hJx hNd hY h2 h3 h4 hx hW hln hp
  obtain ⟨a, ha⟩ : ∃ a, a = min (f + n) c - f := ⟨_, rfl⟩
  have han : a ≤ n := by omega
  have hac : f + a ≤ c := by omega
  have hab : a < n → f + a = c := by omega
  have HA := Lib.hid ha
  have HAB := Lib.hid hab
  clear ha hab hf
  refine callsIn_of_wp Try.func52 rfl trivial ?_ rfl
  simp only [Try.ntmps52, List.size_toArray, List.length_cons, List.length_nil, Nat.reduceAdd, Nat.reduceSub, Array.replicate_succ, Array.replicate_zero, List.push_toArray, List.append_toArray, List.nil_append, List.cons_append]
  gi_wp2_with (refine ⟨trivial, ?_⟩; gi_at_call 47; refine (callsIn_wide.2 HCUT.out).mono ?_; rintro e w1 ⟨q1, q2, rfl, hq1, hq2, nd, rfl⟩; rw [← HA.out] at hq1 hq2 ⊢; have HQ1 := Lib.hid hq1; have HQ2 := Lib.hid hq2; clear hq1 hq2)
  gi_loopw [16] (fun v wr => ∃ k : Nat, v = .int .i64 k ∧ k ≤ a ∧ Hid (J k wr)) (fun v _ => a - (intOf v).toNat)
  case atStart => exact ⟨0, rfl, by omega, Lib.hid (abides_drewN HJ.out h0)⟩
  case round =>
    obtain ⟨k, rfl, hk, HJK⟩ := hrel
    by_cases hlt : k < a
    · have hcell := HND.out k wr HJK.out k (Nat.le_refl _) (by rw [HLN.out]; omega)
      rw [Nat.mod_eq_of_lt (by omega)] at hcell
      obtain rfl := HQ1.out (by omega)
      obtain ⟨fn, tm, as_, bo, hy, hR⟩ := HY.out k wr (by omega) HJK.out
      unfold tellN at hy
      have HR := Lib.hid hR
      obtain ⟨x, hxx⟩ : ∃ x, x = l.getD k (0 : Int) := ⟨_, rfl⟩
      rw [← hxx] at hcell hy
      clear hR hxx
      gi_wp2
      refine HR.out.mono ?_
      rintro e W3 (⟨rfl, hj⟩ | ⟨rfl, hj⟩)
      · have HJ3 := Lib.hid hj
        clear hj
        gi_wp2
        exact ⟨⟨k + 1, by go_num, by omega, HJ3⟩, by simp [intOf]; omega⟩
      · have HJ3 := Lib.hid hj
        clear hj
        gi_wp2
        refine bodyPost_ret (results_none rfl _ _ _) rfl ?_
        exact ⟨⟨_, rfl⟩, .inr ⟨k + 1, by omega, HJ3.out⟩⟩
    · obtain rfl : k = a := by omega
      gi_wp2
      gi_loopw [29] (fun v wr => ∃ i : Nat, v = .int .i64 i ∧ k + i ≤ n ∧ Hid (J (k + i) wr)) (fun v _ => n - (intOf v).toNat)
      case atStart => exact ⟨0, rfl, by omega, HJK⟩
      case round =>
        clear HJK
        obtain ⟨i, rfl, hi, HJK⟩ := hrel
        by_cases hlt2 : i < n - k
        · have hfk : f + k = c := HAB.out (by omega)
          have hcell := HND.out (k + i) _ HJK.out (k + i) (Nat.le_refl _) (by rw [HLN.out]; omega)
          rw [show (f + (k + i)) % c = i by rw [show f + (k + i) = c + i by omega, Nat.add_mod_left, Nat.mod_eq_of_lt (by omega)]] at hcell
          obtain rfl := HQ2.out (by omega)
          obtain ⟨fn, tm, as_, bo, hy, hR⟩ := HY.out (k + i) _ (by omega) HJK.out
          unfold tellN at hy
          have HR := Lib.hid hR
          obtain ⟨x, hxx⟩ : ∃ x, x = l.getD (k + i) (0 : Int) := ⟨_, rfl⟩
          rw [← hxx, show ((k + i : Nat) : Int) = (k : Int) + (i : Int) by push_cast; rfl] at hy
          rw [← hxx] at hcell
          clear hR hxx hfk
          gi_wp2
          refine HR.out.mono ?_
          rintro e W3 (⟨rfl, hj⟩ | ⟨rfl, hj⟩)
          · have HJ3 := Lib.hid hj
            clear hj
            gi_wp2
            exact ⟨⟨i + 1, by go_num, by omega, HJ3⟩, by simp [intOf]; omega⟩
          · have HJ3 := Lib.hid hj
            clear hj
            gi_wp2
            refine bodyPost_ret (results_none rfl _ _ _) rfl ?_
            exact ⟨⟨_, rfl⟩, .inr ⟨k + i + 1, by omega, HJ3.out⟩⟩
        · have HE := Lib.hid (show J n _ from by have h := HJK.out; rwa [show k + i = n by omega] at h)
          gi_wp2
          go_end0
          exact ⟨⟨_, rfl⟩, .inl HE.out⟩
theorem eachFN_in (m : Nat) (b : Nat) (w : World) :
    CallsIn Fence.wide m Try.prog 46 #[.pointer (some ⟨b, 2, none⟩)] w fun e w' => e = .returned (.func (.func 52) #[] #[.pointer (some ⟨w.heap.size, 0, none⟩)]) ∧ w' = w.alloc (.cells #[.pointer (some ⟨b, 2, none⟩)] 78) := by
  refine callsIn_of_wp Try.func46 rfl trivial ?_ rfl
  simp only [Try.ntmps46, List.size_toArray, List.length_cons, List.length_nil, Nat.reduceAdd, Nat.reduceSub, Array.replicate_succ, Array.replicate_zero, List.push_toArray, List.append_toArray, List.nil_append, List.cons_append]
  gi_wp2
  go_ret
  exact ⟨rfl, rfl⟩
end Go.Proofs.Ytnpageceaknofaa
