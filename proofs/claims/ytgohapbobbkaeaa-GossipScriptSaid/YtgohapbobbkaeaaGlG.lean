/-
  The law GossipScript.
-/
import Derived.Test.YtgohapbobbkaeaaGlB
import Derived.Test.YtgohapbobbkaeaaRgE
import Derived.Test.YtgohapbobbkaeaaOpenH
import Derived.Test.YtgohapbobbkaeaaGsE
import Derived.Test.YtgohapbobbkaeaaHeldAt
namespace Go.Proofs.Ytgohapbobbkaeaa
set_option linter.unusedSimpArgs false
set_option linter.unusedVariables false
open Go.RowKit Sha
/-- A list told, apart from both buffers; what it says does not matter. -/
def Ovr (W : World) (q : Option Addr) (n : Nat) (f1 f2 : List Nat) (B : Nat) : Prop :=
  n = 0 ∨ ∃ g cs, q = some ⟨g, 0, none⟩ ∧ Blk W g cs mt ∧ n * 3 ≤ cs.length ∧ g ∉ f1 ∧ g ∉ f2 ∧ B ≤ g
theorem Ovr.of {w : World} {B n : Nat} {q : Option Addr} {c : Nat} {xs : List Value} {f1 f2 : List Nat} (h : w.ownsRow B mt 3 (.slice q n c) n xs) (hg : ∀ g, (Value.slice q n c).ownBlock = some g → g ∉ f1 ∧ g ∉ f2) {B' : Nat} (hB' : B' ≤ B) : Ovr w q n f1 f2 B' := by
  by_cases h0 : n = 0
  · exact .inl h0
  · obtain ⟨g, cap, rest, hv, hB, _, _, hk, hl, _⟩ := own_whole h (by omega)
    cases hv
    exact .inr ⟨g, _, rfl, hk, by rw [List.length_append]; omega, (hg g rfl).1, (hg g rfl).2, Nat.le_trans hB' hB⟩
theorem Ovr.on {w w' : World} {B n : Nat} {q : Option Addr} {f1 f2 : List Nat} (h : Ovr w q n f1 f2 B) (hb : Below w.heap.size w w') : Ovr w' q n f1 f2 B := by
  rcases h with h | ⟨g, cs, hq, hk, h⟩
  · exact .inl h
  · exact .inr ⟨g, cs, hq, hk.upon hb, h⟩
theorem told_okB {N : Nat} {l : List Tl} (h : Gs.OK N l) (n : Int) : ∀ x ∈ Gs.told l n, x.ok := fun x hx => by
  obtain ⟨y, hy, rfl⟩ := List.mem_map.1 hx
  exact (h.may y (List.mem_of_mem_take hy)).1.ok
section
attribute [local go_sem ↓] execOp_loadM execOp_storeM execOp_eqlM execOp_buildM
set_option maxRecDepth 100000 in
set_option maxHeartbeats 16000000 in
theorem gscript_any {R : GRepT} (F : PGossip R) (nd : Int) (l : List Gact) (n : Nat) (q : Option Addr) (c : Nat) (w : World) (hnd : -9223372036854775808 ≤ nd ∧ nd ≤ 9223372036854775807) (hn : l.length = n) (hl : GoodG w l q c) :
    Calls Try.prog 3 #[v64 nd, .slice q n c] w (BoolDone true w) := by
  have HK := Lib.hid F.held
  have HL := Lib.hid hl
  have HN := Lib.hid hn
  have ba1 := hl.le
  have ba2 := hl.max
  rw [hn] at ba1
  clear hl hn
  go_enter Try.func3, Try.ntmps3
  go_wp2_with fail
  refine (F.new nd w hnd).mono ?_
  rintro e w1 ⟨hb1, h1⟩
  rcases h1 with ⟨hz, b1, f1, rfl, hr1, hn1⟩ | ⟨hz, rfl⟩
  · go_wp2_with fail
    refine (refGossipOK.new nd w1 hnd).mono ?_
    rintro e w2 ⟨hb2, ⟨_, b2, f2, rfl, hr2, hn2⟩ | ⟨hz2, _⟩⟩
    rotate_left
    · exact absurd hz hz2
    have P0 := Lib.hid (Pair.made F.held hr1 hn1 hb1 hb2 hr2 hn2)
    obtain ⟨N, hNe⟩ : ∃ N, N = nd.toNat := ⟨_, rfl⟩
    rw [← hNe] at P0
    have HN64 := Lib.hid (show N ≤ 64 from by omega)
    clear hr1 hn1 hb1 hb2 hr2 hn2 hNe hz
    by_cases hbig : 100 < n
    · have t1 : decide ((100 : Int) < (n : Int)) = true := decide_eq_true (by omega)
      have t1' : decide (100 < n) = true := decide_eq_true hbig
      go_wp2_with fail
      refine (gawake_any F _).mono ?_
      rintro e w3 ⟨rfl, hb3⟩
      go_wp2_with fail
      go_ret
      exact ⟨rfl, below_next P0.out.below hb3⟩
    · have t1 : decide ((100 : Int) < (n : Int)) = false := decide_eq_false (by omega)
      have t1' : decide (100 < n) = false := decide_eq_false hbig
      go_wp2_with fail
      clear t1 t1'
      go_loopw [9] (fun iv wr => ∃ (i : Nat) (f1 f2 : List Nat) (T : List Tl), iv = .int .i64 i ∧ i ≤ n ∧ Hid (Pair R RGRep w wr b1 f1 (N, T) b2 f2 (N, T))) (fun iv _ => n - (intOf iv).toNat)
      case atStart => exact ⟨0, f1, f2, [], rfl, by omega, P0⟩
      case round =>
        clear P0
        obtain ⟨i, f1, f2, T, rfl, hi, P⟩ := hrel
        by_cases hlt : i < n
        · have hil : i < l.length := by rw [HN.out]; exact hlt
          obtain ⟨ga, off, rfl, hget⟩ := HL.out.get i hil
          have hok := HL.out.ok l[i] (List.getElem_mem hil)
          generalize l[i] = x at *
          have HG := Lib.hid hget
          have HOK := Lib.hid (F.ok P.out.one)
          have hnb := hok.2
          have HXO := Lib.hid hok.1
          have jn : (0 : Int) ≤ (i : Int) ∧ (i : Int) < (n : Int) := by omega
          have c0 := (HG.out wr P.out.below).2
          clear hget hok hil
          by_cases hpos : 0 < x.n
          · have t2 : decide ((0 : Int) < x.n) = true := decide_eq_true hpos
            have i1 : IntKind.i64.wrap (x.n - 1) = x.n - 1 := IntWalk.i64_in _ (by omega)
            go_wp2_with fail
            have HS := Lib.hid (fun W (hb : Below w.heap.size w W) => (show W.cell? ⟨ga, off + i * 4 + 3, none⟩ = some (.int .i64 x.n) from (HG.out W hb).2))
            have PD := Lib.hid (P.out.on HK.out rgHeld (Below.refl _ _).drew)
            have HWS := Lib.hid P.out.below.size
            clear c0 P
            refine wp_region_held_drew (S := (fun w' => w'.cell? ⟨ga, off + i * 4 + 3, none⟩ = some (.int .i64 x.n))) (by kernel_rfl) (HS.out _ PD.out.below) (fun hHeld => ?_)
            refine take_at 0 (by kernel_rfl) (v := ?v1) (by kernel_rfl) (by kernel_rfl) (by kernel_rfl) (fun _ _ _ h => h) (by rfl) ?y1 (by assumption) ?r1
            case y1 => (intro w hSw; (try dsimp only at hSw); simp only [List.getElem_cons_succ, List.getElem_cons_zero]; go_simp; (try with_reducible rfl))
            try simp only [List.getElem_cons_succ, List.getElem_cons_zero, Act.put, List.setIfInBounds_toArray, List.set_cons_zero, List.set_cons_succ]
            refine take_at 1 (by kernel_rfl) (v := ?v2) (by kernel_rfl) (by kernel_rfl) (by kernel_rfl) (fun _ _ _ h => h) (by rfl) ?y2 (by assumption) ?r2
            case y2 => (intro w hSw; (try dsimp only at hSw); simp only [List.getElem_cons_succ, List.getElem_cons_zero]; go_simp; (try with_reducible rfl))
            try simp only [List.getElem_cons_succ, List.getElem_cons_zero, Act.put, List.setIfInBounds_toArray, List.set_cons_zero, List.set_cons_succ]
            refine take_at 2 (by kernel_rfl) (v := ?v3) (by kernel_rfl) (by kernel_rfl) (by kernel_rfl) (fun _ _ _ h => h) (by rfl) ?y3 (by assumption) ?r3
            case y3 => (intro w hSw; (try dsimp only at hSw); simp only [List.getElem_cons_succ, List.getElem_cons_zero]; go_simp; (try with_reducible rfl))
            try simp only [List.getElem_cons_succ, List.getElem_cons_zero, Act.put, List.setIfInBounds_toArray, List.set_cons_zero, List.set_cons_succ]
            refine take_at 3 (by kernel_rfl) (v := ?v4) (by kernel_rfl) (by kernel_rfl) (by kernel_rfl) (fun _ _ _ h => h) (by rfl) ?y4 (by assumption) ?r4
            case y4 => (intro w hSw; (try dsimp only at hSw); simp only [List.getElem_cons_succ, List.getElem_cons_zero]; go_simp; (try with_reducible rfl))
            try simp only [List.getElem_cons_succ, List.getElem_cons_zero, Act.put, List.setIfInBounds_toArray, List.set_cons_zero, List.set_cons_succ]
            refine take_at 4 (by kernel_rfl) (v := ?v5) (by kernel_rfl) (by kernel_rfl) (by kernel_rfl) (fun _ _ _ h => h) (by rfl) ?y5 (by assumption) ?r5
            case y5 => (intro w hSw; (try dsimp only at hSw); simp only [List.getElem_cons_succ, List.getElem_cons_zero]; go_simp; (try with_reducible rfl))
            try simp only [List.getElem_cons_succ, List.getElem_cons_zero, Act.put, List.setIfInBounds_toArray, List.set_cons_zero, List.set_cons_succ]
            refine take_at 5 (by kernel_rfl) (v := ?v6) (by kernel_rfl) (by kernel_rfl) (by kernel_rfl) (fun _ _ _ h => h) (by rfl) ?y6 (by assumption) ?r6
            case y6 => (intro w hSw; (try dsimp only at hSw); simp only [List.getElem_cons_succ, List.getElem_cons_zero]; go_simp; (try with_reducible rfl))
            try simp only [List.getElem_cons_succ, List.getElem_cons_zero, Act.put, List.setIfInBounds_toArray, List.set_cons_zero, List.set_cons_succ]
            refine take_at 6 (by kernel_rfl) (v := ?v7) (by kernel_rfl) (by kernel_rfl) (by kernel_rfl) (fun _ _ _ h => h) (by rfl) ?y7 (by assumption) ?r7
            case y7 => (intro w hSw; (try dsimp only at hSw); simp only [List.getElem_cons_succ, List.getElem_cons_zero]; go_simp; (try with_reducible rfl))
            try simp only [List.getElem_cons_succ, List.getElem_cons_zero, Act.put, List.setIfInBounds_toArray, List.set_cons_zero, List.set_cons_succ]
            refine take_at 8 (by kernel_rfl) (v := ?v8) (by kernel_rfl) (by kernel_rfl) (by kernel_rfl) (fun _ _ _ h => h) (by rfl) ?y8 (by assumption) ?r8
            case y8 => (intro w hSw; (try dsimp only at hSw); simp only [List.getElem_cons_succ, List.getElem_cons_zero]; go_simp; (try with_reducible rfl))
            try simp only [List.getElem_cons_succ, List.getElem_cons_zero, Act.put, List.setIfInBounds_toArray, List.set_cons_zero, List.set_cons_succ]
            refine take_at 9 (by kernel_rfl) (v := ?v9) (by kernel_rfl) (by kernel_rfl) (by kernel_rfl) (fun _ _ _ h => h) (by rfl) ?y9 (by assumption) ?r9
            case y9 => (intro w hSw; (try dsimp only at hSw); simp only [List.getElem_cons_succ, List.getElem_cons_zero]; go_simp; (try with_reducible rfl))
            try simp only [List.getElem_cons_succ, List.getElem_cons_zero, Act.put, List.setIfInBounds_toArray, List.set_cons_zero, List.set_cons_succ]
            refine take_at 10 (by kernel_rfl) (v := ?v10) (by kernel_rfl) (by kernel_rfl) (by kernel_rfl) (fun _ _ _ h => h) (by rfl) ?y10 (by assumption) ?r10
            case y10 => (intro w hSw; (try dsimp only at hSw); simp only [List.getElem_cons_succ, List.getElem_cons_zero]; go_simp; (try with_reducible rfl))
            try simp only [List.getElem_cons_succ, List.getElem_cons_zero, Act.put, List.setIfInBounds_toArray, List.set_cons_zero, List.set_cons_succ]
            refine take_at 11 (by kernel_rfl) (v := ?v11) (by kernel_rfl) (by kernel_rfl) (by kernel_rfl) (fun _ _ _ h => h) (by rfl) ?y11 (by assumption) ?r11
            case y11 => (intro w hSw; (try dsimp only at hSw); simp only [List.getElem_cons_succ, List.getElem_cons_zero]; go_simp; (try with_reducible rfl))
            try simp only [List.getElem_cons_succ, List.getElem_cons_zero, Act.put, List.setIfInBounds_toArray, List.set_cons_zero, List.set_cons_succ]
            refine take_at 12 (by kernel_rfl) (v := ?v12) (by kernel_rfl) (by kernel_rfl) (by kernel_rfl) (fun _ _ _ h => h) (by rfl) ?y12 (by assumption) ?r12
            case y12 => (intro w hSw; (try dsimp only at hSw); simp only [List.getElem_cons_succ, List.getElem_cons_zero]; go_simp; (try with_reducible rfl))
            try simp only [List.getElem_cons_succ, List.getElem_cons_zero, Act.put, List.setIfInBounds_toArray, List.set_cons_zero, List.set_cons_succ]
            refine take_at 13 (by kernel_rfl) (v := ?v13) (by kernel_rfl) (by kernel_rfl) (by kernel_rfl) (fun _ _ _ h => h) (by rfl) ?y13 (by assumption) ?r13
            case y13 => (intro w hSw; (try dsimp only at hSw); simp only [List.getElem_cons_succ, List.getElem_cons_zero]; go_simp; (try with_reducible rfl))
            try simp only [List.getElem_cons_succ, List.getElem_cons_zero, Act.put, List.setIfInBounds_toArray, List.set_cons_zero, List.set_cons_succ]
            refine take_at 14 (by kernel_rfl) (v := ?v14) (by kernel_rfl) (by kernel_rfl) (by kernel_rfl) (fun _ _ _ h => h) (by rfl) ?y14 (by assumption) ?r14
            case y14 => (intro w hSw; (try dsimp only at hSw); simp only [List.getElem_cons_succ, List.getElem_cons_zero]; go_simp; (try with_reducible rfl))
            try simp only [List.getElem_cons_succ, List.getElem_cons_zero, Act.put, List.setIfInBounds_toArray, List.set_cons_zero, List.set_cons_succ]
            refine ready_at 7 (by kernel_rfl) (by kernel_rfl) (fun K hK => ?_)
            simp only [List.getElem_cons_succ, List.getElem_cons_zero]
            go_simp
            go_at_call 11
            refine (F.take b1 f1 N T (x.n - 1) _ PD.out.one (by omega)).mono ?_
            rintro e w1x ⟨va, f1a, rfl, ho, hr, ht, hf, hg⟩
            have P1 := Lib.hid (PD.out.step1 rgHeld hr ht hf)
            have OA := Lib.hid ho
            have NA := Lib.hid (show ∀ g, va.ownBlock = some g → g ∉ f1a ∧ g ∉ f2 from fun g e => ⟨hg g e, fun a => by have h1 := (own_base_w ho g e).1; have h2 := rgHeld.low PD.out.two g a; omega⟩)
            clear ho hr ht hf hg PD
            (try go_wp2_with fail)
            refine hK.out _ _ (HS.out _ P1.out.below) (fun hHeld => ?_)
            clear hK K
            try simp only [List.getElem_cons_succ, List.getElem_cons_zero, Act.put, List.setIfInBounds_toArray, List.set_cons_zero, List.set_cons_succ]
            refine ready_at 15 (by kernel_rfl) (by kernel_rfl) (fun K hK => ?_)
            simp only [List.getElem_cons_succ, List.getElem_cons_zero]
            go_simp
            go_at_call 12
            refine (refGossipOK.take b2 f2 N T (x.n - 1) _ P1.out.two (by omega)).mono ?_
            rintro e w2x ⟨vb, f2b, rfl, ho, hr, ht, hf, hg⟩
            have P2 := Lib.hid (P1.out.step2 HK.out hr ht hf)
            have OA2 := Lib.hid (ownsRow_keepR OA.out fun g e => ht.block g (own_base_w OA.out g e).2 (NA.out g e).2)
            have NA2 := Lib.hid (show ∀ g, va.ownBlock = some g → g ∉ f1a ∧ g ∉ f2b from fun g e => ⟨(NA.out g e).1, fun a => by rcases hf g a with h1 | h1; exact (NA.out g e).2 h1; have := (own_base_w OA.out g e).2; omega⟩)
            have OB := Lib.hid ho
            clear ho hr ht hf hg P1 OA NA
            (try go_wp2_with fail)
            refine hK.out _ _ (HS.out _ P2.out.below) (fun hHeld => ?_)
            clear hK K
            try simp only [List.getElem_cons_succ, List.getElem_cons_zero, Act.put, List.setIfInBounds_toArray, List.set_cons_zero, List.set_cons_succ]
            refine take_at 16 (by kernel_rfl) (v := ?v15) (by kernel_rfl) (by kernel_rfl) (by kernel_rfl) (fun _ _ _ h => h) (by rfl) ?y15 (by assumption) ?r15
            case y15 => (intro w hSw; (try dsimp only at hSw); simp only [List.getElem_cons_succ, List.getElem_cons_zero]; go_simp; (try with_reducible rfl))
            try simp only [List.getElem_cons_succ, List.getElem_cons_zero, Act.put, List.setIfInBounds_toArray, List.set_cons_zero, List.set_cons_succ]
            refine take_at 17 (by kernel_rfl) (v := ?v16) (by kernel_rfl) (by kernel_rfl) (by kernel_rfl) (fun _ _ _ h => h) (by rfl) ?y16 (by assumption) ?r16
            case y16 => (intro w hSw; (try dsimp only at hSw); simp only [List.getElem_cons_succ, List.getElem_cons_zero]; go_simp; (try with_reducible rfl))
            try simp only [List.getElem_cons_succ, List.getElem_cons_zero, Act.put, List.setIfInBounds_toArray, List.set_cons_zero, List.set_cons_succ]
            refine wpAnyH_done (by kernel_rfl) ?_ _
            obtain ⟨qa, ca, hva, hla, hga⟩ := own_goodM OA2.out (told_okB HOK.out _)
            obtain ⟨qb, cb, hvb, hlb, hgb⟩ := own_goodM OB.out (told_okB HOK.out _)
            subst hva hvb
            have OV := Lib.hid (Ovr.of OA2.out NA2.out (B' := w.heap.size) HWS.out)
            have HWD := Lib.hid (words_any _ _ _ _ qa qb ca cb w2x hla hlb hga hgb)
            rw [show decide (Gs.told T (x.n - 1) = Gs.told T (x.n - 1)) = true from decide_eq_true rfl] at HWD
            have ca1 := hga.le
            have ca2 := hga.max
            rw [hla] at ca1
            generalize Gs.left N T (x.n - 1) = T2 at *
            generalize (Gs.told T (x.n - 1)).length = nt at *
            clear OA2 NA2 OB hla hlb hga hgb hHeld HS
            go_wp2_with fail
            refine HWD.out.mono ?_
            rintro e w3x ⟨rfl, hb3⟩
            have P3 := Lib.hid (P2.out.on HK.out rgHeld hb3)
            have V3 := Lib.hid (OV.out.on hb3)
            clear hb3 P2 OV HWD
            go_wp2_with fail
            go_loopw [12] (fun kv wk => ∃ k : Nat, kv = .int .i64 k ∧ k ≤ nt ∧ Hid (Pair R RGRep w wk b1 f1a (N, T2) b2 f2b (N, T2)) ∧ Hid (Ovr wk qa nt f1a f2b w.heap.size)) (fun kv _ => nt - (intOf kv).toNat)
            case atStart => exact ⟨0, rfl, by omega, P3, V3⟩
            case round =>
              clear P3 V3
              obtain ⟨k, rfl, hk, P, V⟩ := hrel
              by_cases hkl : k < nt
              · rcases V.out with h0 | ⟨g, cs, rfl, hkb, hcl, hg1, hg2, hgB⟩
                · omega
                have jk : (0 : Int) ≤ (k : Int) ∧ (k : Int) < (nt : Int) := by omega
                have k1 : _root_.Go.World.cell? _ ⟨g, k * 3 + 2, none⟩ = some (cs[k * 3 + 2]'(by omega)) := (hkb.cell (k * 3 + 2)).trans (List.getElem?_eq_getElem (by omega))
                have k2 := hkb.free (k * 3 + 2)
                have P4 := Lib.hid (P.out.over HK.out rgHeld (v := .slice (some ⟨g, 0, none⟩) nt ca) (fun k' e => Below.heap_setCell _ _ _ _ (fun e2 => e (by rw [show k' = g from e2]; rfl))) (Below.setCell (Below.refl _ _) (p := ⟨g, k * 3 + 2, none⟩) hgB (.int .i64 (-1))) (fun g' e => by cases e; exact ⟨hg1, hg2⟩))
                have V4 := Lib.hid (show Ovr _ (some ⟨g, 0, none⟩) nt f1a f2b w.heap.size from .inr ⟨g, _, rfl, hkb.set (k * 3 + 2) (.int .i64 (-1)), by rw [List.length_set]; exact hcl, hg1, hg2, hgB⟩)
                generalize cs[k * 3 + 2] = old at *
                clear hkb P V
                go_wp2_with fail
                go_roundw
                case rel => exact ⟨k + 1, by go_num, by omega, P4, V4⟩
                case measure => simp [intOf]; omega
              · obtain rfl : k = nt := by omega
                clear V
                go_wp2_with fail
                refine (F.len b1 f1a N T2 _ P.out.one).mono ?_
                rintro e wPA ⟨rfl, m1, hwPA⟩
                have PA := Lib.hid (show Pair R RGRep w wPA b1 f1a (N, T2) b2 f2b (N, T2) from by rw [hwPA]; exact P.out.drewN HK.out rgHeld m1)
                clear hwPA P
                go_wp2_with fail
                refine (refGossipOK.len b2 f2b N T2 _ PA.out.two).mono ?_
                rintro e wPB ⟨rfl, m2, hwPB⟩
                have PB := Lib.hid (show Pair R RGRep w wPB b1 f1a (N, T2) b2 f2b (N, T2) from by rw [hwPB]; exact PA.out.drewN HK.out rgHeld m2)
                clear hwPB PA
                go_wp2_with fail
                refine (F.lim b1 f1a N T2 _ PB.out.one).mono ?_
                rintro e wPC ⟨rfl, m3, hwPC⟩
                have PC := Lib.hid (show Pair R RGRep w wPC b1 f1a (N, T2) b2 f2b (N, T2) from by rw [hwPC]; exact PB.out.drewN HK.out rgHeld m3)
                clear hwPC PB
                go_wp2_with fail
                refine (refGossipOK.lim b2 f2b N T2 _ PC.out.two).mono ?_
                rintro e wPD ⟨rfl, m4, hwPD⟩
                have PD := Lib.hid (show Pair R RGRep w wPD b1 f1a (N, T2) b2 f2b (N, T2) from by rw [hwPD]; exact PC.out.drewN HK.out rgHeld m4)
                clear hwPD PC
                go_wp2_with fail
                go_roundw
                case rel => exact ⟨i + 1, f1a, f2b, T2, by go_num, by omega, PD⟩
                case measure => simp [intOf]; omega
          · have t2 : decide ((0 : Int) < x.n) = false := decide_eq_false (by omega)
            have HA1 := Lib.hid (F.add b1 f1 N T x.m wr P.out.one)
            have HA2 := Lib.hid (fun W (hr : RGRep W b2 f2 (N, T)) => refGossipOK.add b2 f2 N T x.m W hr)
            generalize Gs.add N T x.m = ad at *
            obtain ⟨T2, z, ez⟩ := ad
            dsimp only at HA1 HA2
            have lw := run_loadM (HG.out wr P.out.below).1
            have hzz : (z != z) = false := by simp
            go_wp2_with fail
            refine HA1.out.mono ?_
            rintro e w1x ⟨rfl, f1a, hr, ht, hf⟩
            have P1 := Lib.hid (P.out.step1 rgHeld hr ht hf)
            have lw2 := run_loadM (HG.out w1x P1.out.below).1
            clear lw P hr ht hf HA1 c0
            go_wp2_with fail
            refine (HA2.out _ P1.out.two).mono ?_
            rintro e w2x ⟨rfl, f2b, hr, ht, hf⟩
            have P := Lib.hid (P1.out.step2 HK.out hr ht hf)
            clear lw2 P1 hr ht hf HA2
            go_wp2_with fail
            refine (F.len b1 f1a N T2 _ P.out.one).mono ?_
            rintro e wPA ⟨rfl, m1, hwPA⟩
            have PA := Lib.hid (show Pair R RGRep w wPA b1 f1a (N, T2) b2 f2b (N, T2) from by rw [hwPA]; exact P.out.drewN HK.out rgHeld m1)
            clear hwPA P
            go_wp2_with fail
            refine (refGossipOK.len b2 f2b N T2 _ PA.out.two).mono ?_
            rintro e wPB ⟨rfl, m2, hwPB⟩
            have PB := Lib.hid (show Pair R RGRep w wPB b1 f1a (N, T2) b2 f2b (N, T2) from by rw [hwPB]; exact PA.out.drewN HK.out rgHeld m2)
            clear hwPB PA
            go_wp2_with fail
            refine (F.lim b1 f1a N T2 _ PB.out.one).mono ?_
            rintro e wPC ⟨rfl, m3, hwPC⟩
            have PC := Lib.hid (show Pair R RGRep w wPC b1 f1a (N, T2) b2 f2b (N, T2) from by rw [hwPC]; exact PB.out.drewN HK.out rgHeld m3)
            clear hwPC PB
            go_wp2_with fail
            refine (refGossipOK.lim b2 f2b N T2 _ PC.out.two).mono ?_
            rintro e wPD ⟨rfl, m4, hwPD⟩
            have PD := Lib.hid (show Pair R RGRep w wPD b1 f1a (N, T2) b2 f2b (N, T2) from by rw [hwPD]; exact PC.out.drewN HK.out rgHeld m4)
            clear hwPD PC
            go_wp2_with fail
            go_roundw
            case rel => exact ⟨i + 1, f1a, f2b, T2, by go_num, by omega, PD⟩
            case measure => simp [intOf]; omega
        · obtain rfl : i = n := by omega
          go_wp2_with fail
          refine (gawake_any F _).mono ?_
          rintro e w3 ⟨rfl, hb3⟩
          go_wp2_with fail
          go_ret
          exact ⟨rfl, below_next P.out.below hb3⟩
  · go_wp2_with fail
    refine (refGossipOK.new nd w1 hnd).mono ?_
    rintro e w2 ⟨hb2, ⟨hz2, _⟩ | ⟨_, rfl⟩⟩
    · exact absurd hz2 hz
    have B2 := Lib.hid (below_next hb1 hb2)
    go_wp2_with fail
    refine (gawake_any F _).mono ?_
    rintro e w3 ⟨rfl, hb3⟩
    go_wp2_with fail
    go_ret
    exact ⟨rfl, below_next B2.out hb3⟩
theorem gscript_law (nd : Int) (l : List Gact) (n : Nat) (q : Option Addr) (c : Nat) (w : World) (hnd : -9223372036854775808 ≤ nd ∧ nd ≤ 9223372036854775807) (hn : l.length = n) (hl : GoodG w l q c) :
    Calls Try.prog 3 #[.int .i64 nd, .slice q n c] w fun e w' => e = .returned (.bool true) ∧ Below w.heap.size w w' := gscript_any gossipOK nd l n q c w hnd hn hl
end
end Go.Proofs.Ytgohapbobbkaeaa
