/-
  The law DiskSwitch, over what disks are asked to do.
-/
import Derived.Test.YtooljhdfmfkpeaaDkK
import Derived.Test.YtooljhdfmfkpeaaLent
namespace Go.Proofs.Ytooljhdfmfkpeaa
set_option linter.unusedSimpArgs false
set_option linter.unusedVariables false
open Go.RowKit Sha Dsk
/-- A part of bytes in memory. -/
theorem GoodC.part {w : World} {xs : List Int} {p : Option Addr} {cap : Nat} (h : GoodC w xs p cap) (lo hi : Nat) (hh : hi ≤ xs.length) (hl : lo ≤ hi) :
    GoodC w ((xs.take hi).drop lo) (if cap = lo then p else p.map (·.add lo)) (cap - lo) ∧ ∀ a, (if cap = lo then p else p.map (·.add lo)) = some a → ∃ a0, p = some a0 ∧ a.block = a0.block := by
  have hc := h.le
  have hm := h.max
  refine ⟨⟨fun n hn => h.bytes n (List.mem_of_mem_take (List.mem_of_mem_drop hn)), ?_, by rw [List.length_drop, List.length_take]; omega, by omega, fun e => ?_⟩, fun a ha => ?_⟩
  · have := h.at_.sub lo hi cap (by rw [List.length_map]; exact hc)
    rwa [← List.map_take, ← List.map_drop] at this
  · split at e
    · omega
    · cases p with
      | none => have := h.nil rfl; omega
      | some a => cases e
  · split at ha
    · exact ⟨a, ha, rfl⟩
    · cases p with
      | none => cases ha
      | some a0 => cases ha; exact ⟨a0, rfl, by simp only [Addr.add]; first | rfl | (split <;> rfl)⟩
theorem wpList_slice_want {P : Program} {ops : Array Oper} {rest : List Oper} {o : Oper} {a : Act} {w : World} {Q : Exit → Act → World → Prop} (hw : Region.wanted o (yielded ops a.tmps) = true) (t : TypeId) (x : Operand) (lo hi mx : Option Operand) (ho : o.op = .slice t x lo hi mx) (V : Value) (hr : ∀ w, (Instr.sliceAt t (a.eval x) (lo.map a.eval) (hi.map a.eval) (mx.map a.eval)).run P w = .ok V w) (h : wpList P ops Q rest (a.put o.dst V) w) : wpList P ops Q (o :: rest) a w := by
  refine BigFrame.wpList_want hw fun K hK => ?_
  unfold Oper.wp execOp
  simp only [ho, Sem.run_bind, hr, Result.andThen_ok, Sem.run_pure]
  exact hK _ _ h
theorem apart_old {w0 : World} {zs : List Int} {p : Option Addr} {cap : Nat} (h : GoodC w0 zs p cap) {fp : List Nat} (hf : ∀ k ∈ fp, w0.heap.size ≤ k) : ApartC zs p fp := fun hne a ha e => by
  have h1 := h.block_lt hne a ha
  have h2 := hf _ e
  omega
/-- The disk ahead of the next area's bytes. -/
def baseS (a l : List Int) (q : Int) : DState := ⟨a ++ l, a.length, [], 1000, 3, q, false⟩
theorem base_app1 (a : List Int) (ha : a.length ≤ 100) : appS (fresh 1000) a = ⟨a, 0, [], 1000, 1, -1, false⟩ ∧ appE (fresh 1000) a.length = 0 := by
  have hb : bad (fresh 1000) a.length = 0 := bad_zero.2 ⟨rfl, by simp [fresh]; omega⟩
  obtain ⟨h1, h2, _⟩ := app_in (b := a) hb
  rw [h1, h2]; exact ⟨by simp [fresh, Dsk.step], by simp [told, fresh]⟩
theorem base_sync (a : List Int) : syncS ⟨a, 0, [], 1000, 1, -1, false⟩ = ⟨a, a.length, [], 1000, 2, -1, false⟩ ∧ syncE ⟨a, 0, [], 1000, 1, -1, false⟩ = 0 := ⟨by simp [syncS, Dsk.step], by simp [syncE, told]⟩
theorem base_app2 (a l : List Int) (ha : a.length ≤ 100) (hl : l.length ≤ 100) : appS ⟨a, a.length, [], 1000, 2, -1, false⟩ l = ⟨a ++ l, a.length, [], 1000, 3, -1, false⟩ ∧ appE ⟨a, a.length, [], 1000, 2, -1, false⟩ l.length = 0 := by
  have hb : bad ⟨a, a.length, [], 1000, 2, -1, false⟩ l.length = 0 := bad_zero.2 ⟨rfl, by simp; omega⟩
  obtain ⟨h1, h2, _⟩ := app_in (b := l) hb
  rw [h1, h2]; exact ⟨by simp [Dsk.step], by simp [told]⟩
theorem base_fuse (a l : List Int) (q : Int) (hq : 0 ≤ q) : fuseS ⟨a ++ l, a.length, [], 1000, 3, -1, false⟩ q = baseS a l q ∧ fuseE q = 0 := ⟨by unfold fuseS; rw [if_neg (by omega)]; rfl, if_neg (by omega)⟩
theorem next_st (lg : List Int) (fm : Nat) (nx : List Int) (st : Nat) (q : Int) (zs : List Int) (hr : lg.length + nx.length + zs.length ≤ 1000) :
    nextS ⟨lg, fm, nx, 1000, st, q, false⟩ zs = ⟨lg, fm, nx ++ zs, 1000, st + 1, if 0 < q then q - 1 else q, decide (q = 0)⟩ ∧ appE ⟨lg, fm, nx, 1000, st, q, false⟩ zs.length = if q = 0 then 11 else 0 := by
  have hb : bad ⟨lg, fm, nx, 1000, st, q, false⟩ zs.length = 0 := bad_zero.2 ⟨rfl, hr⟩
  obtain ⟨h1, _, h2⟩ := app_in (b := zs) hb
  rw [h1, h2]; exact ⟨by simp [Dsk.step], by simp [told]⟩
theorem sw_st (lg : List Int) (fm : Nat) (nx : List Int) (st : Nat) (q : Int) :
    swS ⟨lg, fm, nx, 1000, st, q, false⟩ = (if q = 0 then ⟨lg, fm, nx, 1000, st + 1, 0, true⟩ else ⟨nx, nx.length, [], 1000, st + 1, if 0 < q then q - 1 else q, false⟩) ∧ syncE ⟨lg, fm, nx, 1000, st, q, false⟩ = if q = 0 then 11 else 0 := by
  refine ⟨?_, by simp [syncE, told]⟩
  unfold swS
  by_cases h : q = 0
  · simp [h, Dsk.step]
  · simp [h, Dsk.step]
theorem crash_read (s : DState) (n : Int) (hn : 0 ≤ n) : readE (crashS s n) = 0 ∧ readV (crashS s n) = cut s n.toNat ∧ crashE n = 0 := by
  unfold crashS
  rw [if_neg (by omega)]
  exact ⟨rfl, rfl, if_neg (by omega)⟩
/-- The next area's bytes, laid in two parts, and the switch: is it done? A state, and what a crash leaves of it. -/
def doneOf (q : Int) : Bool := decide (3 ≤ q)
end Go.Proofs.Ytooljhdfmfkpeaa
