/- The walks of 'awake', WideBack and WideShares over the cut of stage 2. -/
import Derived.Test.YtmggcdhahimpnaaWRat
import Derived.Deep.RegionHeld3
namespace Go.Proofs.Ytmggcdhahimpnaa
open Go.RowKit
set_option linter.unusedVariables false

theorem still_cell {x y : World} (h : Below x.heap.size x y) (g k : Nat) (hg : g < x.heap.size) : y.cell? ⟨g, k, none⟩ = x.cell? ⟨g, k, none⟩ := h.cell (p := ⟨g, k, none⟩) hg
theorem still_mark {x y : World} (h : Below x.heap.size x y) (g k : Nat) (hg : g < x.heap.size) : y.frozen? ⟨g, k, none⟩ = x.frozen? ⟨g, k, none⟩ := h.frozen (p := ⟨g, k, none⟩) hg
theorem rat_awake (w : World) : Calls Try.prog 18 #[.int .i64 10, .int .i64 10, .int .i64 3] w fun e w' => e = .returned (.tuple #[.int .i64 33, .bool true]) ∧ Below w.heap.size w w' :=
  ratio_any 10 10 3 w (by decide) (by decide) (by decide)
theorem mul_awake (w : World) : Calls Try.prog 13 #[.int .u64 9223372036854775808, .int .u64 6] w fun e w' => e = .returned (.agg #[.int .u64 3, .int .u64 0]) ∧ Below w.heap.size w w' :=
  wmul_any 9223372036854775808 6 w (by decide) (by decide)
theorem cmp_awake (w : World) : Calls Try.prog 20 #[.int .i64 2, .int .i64 3, .int .i64 5, .int .i64 1] w fun e w' => e = .returned (.int .i64 1) ∧ Below w.heap.size w w' :=
  cmpc_any 2 3 5 1 w (by decide) (by decide) (by decide) (by decide)
theorem awake_any (w : World) : Calls Try.prog 17 #[] w fun e w' => e = .returned (.bool true) ∧ Below w.heap.size w w' := by
  go_enter Try.func17, Try.ntmps17
  go_wp2_with fail
  refine (rat_awake _).mono ?_
  rintro e w1 ⟨rfl, b1⟩
  go_wp2_with fail
  refine (mul_awake _).mono ?_
  rintro e w2 ⟨rfl, b2⟩
  go_wp2_with fail
  refine (cmp_awake _).mono ?_
  rintro e w3 ⟨rfl, b3⟩
  go_wp2_with fail
  go_ret
  exact ⟨rfl, bstep ((bstep b1 b2 b1.size).alloc (Nat.le_trans b1.size b2.size) _) b3 (by have := b1.size; have := b2.size; simp; omega)⟩

/-! ### WideShares -/
theorem shares_none (a b c : Int) (w : World) (h : a < 0 ∨ b < 0 ∨ c < b ∨ c < 1) :
    Calls Try.prog 6 #[.int .i64 a, .int .i64 b, .int .i64 c] w fun e w' => e = .returned (.bool true) ∧ Below w.heap.size w w' := by
  by_cases h1 : a < 0
  · go_enter Try.func6, Try.ntmps6
    go_wp2_with (go_at_call 17; refine (awake_any _).mono ?_; rintro e w1 ⟨rfl, b1⟩)
    go_ret
    exact ⟨rfl, b1⟩
  · by_cases h2 : b < 0
    · go_enter Try.func6, Try.ntmps6
      go_wp2_with (go_at_call 17; refine (awake_any _).mono ?_; rintro e w1 ⟨rfl, b1⟩)
      go_ret
      exact ⟨rfl, b1⟩
    · by_cases h3 : c < b
      · clear h
        go_enter Try.func6, Try.ntmps6
        go_wp2_with (go_at_call 17; refine (awake_any _).mono ?_; rintro e w1 ⟨rfl, b1⟩)
        go_ret
        exact ⟨rfl, b1⟩
      · have h4 : c < 1 := by omega
        clear h
        go_enter Try.func6, Try.ntmps6
        go_wp2_with (go_at_call 17; refine (awake_any _).mono ?_; rintro e w1 ⟨rfl, b1⟩)
        go_ret
        exact ⟨rfl, b1⟩
theorem shares_walk (a b c x y : Int) (w : World) (h1 : ¬ a < 0) (h2 : ¬ b < 0) (h3 : ¬ c < b) (h4 : ¬ c < 1) (n1 : 0 ≤ b) (n2 : b ≤ 9223372036854775807) (k1 : y ≤ x) (k2 : x ≤ a)
    (p : ∀ w, Calls Try.prog 18 #[.int .i64 a, .int .i64 b, .int .i64 c] w fun e w' => e = .returned (.tuple #[.int .i64 x, .bool true]) ∧ Below w.heap.size w w')
    (q : ∀ w, Calls Try.prog 18 #[.int .i64 a, .int .i64 (b / 2), .int .i64 c] w fun e w' => e = .returned (.tuple #[.int .i64 y, .bool true]) ∧ Below w.heap.size w w')
    (r : ∀ w, Calls Try.prog 18 #[.int .i64 a, .int .i64 c, .int .i64 c] w fun e w' => e = .returned (.tuple #[.int .i64 a, .bool true]) ∧ Below w.heap.size w w') :
    Calls Try.prog 6 #[.int .i64 a, .int .i64 b, .int .i64 c] w fun e w' => e = .returned (.bool true) ∧ Below w.heap.size w w' := by
  go_enter Try.func6, Try.ntmps6
  go_wp2_with fail
  refine (p _).mono ?_
  rintro e w1 ⟨rfl, b1⟩
  go_wp2_with fail
  refine (q _).mono ?_
  rintro e w2 ⟨rfl, b2⟩
  go_wp2_with fail
  refine (r _).mono ?_
  rintro e w3 ⟨rfl, b3⟩
  go_wp2_with fail
  refine (awake_any _).mono ?_
  rintro e w4 ⟨rfl, b4⟩
  go_wp2_with fail
  go_ret
  have s1 := b1.size
  have s2 := b2.size
  have s3 := b3.size
  exact ⟨rfl, bstep (bstep (bstep b1 b2 b1.size) b3 (by omega)) b4 (by omega)⟩
theorem rat_in (a b c : Int) (ha : 0 ≤ a) (hb : 0 ≤ b) (hc : 1 ≤ c) (hbc : b ≤ c) (hm : a ≤ 9223372036854775807) : ratR a b c = (a * b / c, true) ∧ a * b / c ≤ a := by
  have h : a * b / c ≤ a := Int.ediv_le_of_le_mul (by omega) (Int.mul_le_mul_of_nonneg_left hbc ha)
  exact ⟨by rw [ratR, if_neg (by omega), if_pos (by omega)], h⟩
theorem i64_le {a : Int} (h : (Lit.int .i64 a).wf = true) : a ≤ 9223372036854775807 := by
  simp [Lit.wf, IntKind.min, IntKind.max, IntKind.signed, IntKind.bits] at h
  omega
theorem wideShares_walk (a : Int) (wa : (Lit.int .i64 a).wf = true) (b : Int) (wb : (Lit.int .i64 b).wf = true) (c : Int) (wc : (Lit.int .i64 c).wf = true) (w : World) :
    Calls Try.prog 6 #[.int .i64 a, .int .i64 b, .int .i64 c] w fun e w' => e = .returned (.bool true) ∧ Below w.heap.size w w' := by
  have ha := i64_le wa
  have hb := i64_le wb
  have hc := i64_le wc
  by_cases h : a < 0 ∨ b < 0 ∨ c < b ∨ c < 1
  · exact shares_none a b c w h
  · obtain ⟨e1, l1⟩ := rat_in a b c (by omega) (by omega) (by omega) (by omega) ha
    obtain ⟨e2, l2⟩ := rat_in a (b / 2) c (by omega) (by omega) (by omega) (by omega) ha
    obtain ⟨e3, l3⟩ := rat_in a c c (by omega) (by omega) (by omega) (by omega) ha
    rw [Int.mul_ediv_cancel _ (by omega)] at e3
    have p := fun w => ratio_any a b c w ha hb hc
    have q := fun w => ratio_any a (b / 2) c w ha (by omega) hc
    have r := fun w => ratio_any a c c w ha hc hc
    rw [e1] at p
    rw [e2] at q
    rw [e3] at r
    exact shares_walk a b c _ _ w (by omega) (by omega) (by omega) (by omega) (by omega) hb
      (Int.ediv_le_ediv (by omega) (Int.mul_le_mul_of_nonneg_left (by omega) (by omega))) l1 p q r
/-! ### WideBack -/
theorem back_zero (a c : Int) (h l : Int) (w : World)
    (p : ∀ w, Calls Try.prog 13 #[.int .u64 a, .int .u64 0] w fun e w' => e = .returned (.agg #[.int .u64 h, .int .u64 l]) ∧ Below w.heap.size w w') :
    Calls Try.prog 5 #[.int .u64 a, .int .u64 0, .int .u64 c] w fun e w' => e = .returned (.bool true) ∧ Below w.heap.size w w' := by
  go_enter Try.func5, Try.ntmps5
  go_wp2_with fail
  refine (p _).mono ?_
  rintro e w1 ⟨rfl, b1⟩
  go_wp2_with fail
  refine (ndiv_zero h l _).mono ?_
  rintro e w2 ⟨rfl, b2⟩
  go_wp2_with fail
  refine (awake_any _).mono ?_
  rintro e w3 ⟨rfl, b3⟩
  go_wp2_with fail
  go_ret
  exact ⟨rfl, bstep ((bstep b1 b2 b1.size).alloc (Nat.le_trans b1.size b2.size) _) b3 (by have := b1.size; have := b2.size; simp; omega)⟩
theorem back_walk (a b c r ah al sh sl : Int) (w : World) (h0 : 0 ≤ c) (hb : 0 < b) (b0 : (b == 0) = false) (bn : ¬ b = 0) (e : c % b = r) (e' : c.tmod b = r)
    (p : ∀ w, Calls Try.prog 13 #[.int .u64 a, .int .u64 b] w fun e w' => e = .returned (.agg #[.int .u64 ah, .int .u64 al]) ∧ Below w.heap.size w w')
    (q : ∀ w, Calls Try.prog 8 #[.agg #[.int .u64 ah, .int .u64 al], .agg #[.int .u64 0, .int .u64 r]] w fun e w' => e = .returned (.tuple #[.agg #[.int .u64 sh, .int .u64 sl], .bool true]) ∧ Below w.heap.size w w')
    (k : ∀ w, Calls Try.prog 10 #[.agg #[.int .u64 sh, .int .u64 sl], .int .u64 b] w fun e w' => e = .returned (.tuple #[.agg #[.int .u64 0, .int .u64 a], .int .u64 r, .bool true]) ∧ Below w.heap.size w w') :
    Calls Try.prog 5 #[.int .u64 a, .int .u64 b, .int .u64 c] w fun e w' => e = .returned (.bool true) ∧ Below w.heap.size w w' := by
  go_enter Try.func5, Try.ntmps5
  go_wp2_with fail
  go_region_held3 (fun w' => Below w.heap.size w w')
    (first
      | exact (Below.refl _ w).drew
      | exact Below.trans (by assumption) (b1.mono (Below.size (by assumption : Below w.heap.size w _)))
      | exact Below.trans (by assumption) (b2.mono (Below.size (by assumption : Below w.heap.size w _)))
      | exact Below.alloc (by assumption) (Below.size (by assumption : Below w.heap.size w _)) _
      | exact (Below.trans (Below.trans (Below.drew (Below.refl _ w)) b1) (b2.mono b1.size)).alloc (Nat.le_trans b1.size b2.size) _
      | exact Below.setCell (p := ⟨w1.heap.size, 1, none⟩) (Below.setCell (p := ⟨w1.heap.size, 0, none⟩) (by assumption) b1.size _) b1.size _
      | exact Below.setCell (p := ⟨w.heap.size, 1, none⟩) (Below.setCell (p := ⟨w.heap.size, 0, none⟩) (by assumption) (Nat.le_refl _) _) (Nat.le_refl _) _)
    (first | (go_at_call 13; (with_reducible refine (p _).mono ?_); rintro e w1 ⟨rfl, b1⟩; have hc1 := still_cell b1; have hf1 := still_mark b1; (first | (have z1 : w.heap.size < w1.heap.size := by (have z := b1.size; simp at z; omega)) | skip)) | (go_at_call 8; (with_reducible refine (q _).mono ?_); rintro e w2 ⟨rfl, b2⟩; have hc2 := still_cell b2; have hf2 := still_mark b2))
  all_goals
    go_wp2_with fail
    refine (k _).mono ?_
    rintro e w3 ⟨rfl, b3⟩
    go_wp2_with fail
    refine (awake_any _).mono ?_
    rintro e w4 ⟨rfl, b4⟩
    go_wp2_with fail
    go_ret
    have acc : Below w.heap.size w _ := Below.trans (by assumption) (b3.mono (Below.size (by assumption : Below w.heap.size w _)))
    exact ⟨rfl, bstep (acc.alloc acc.size _) b4 (Nat.le_trans acc.size (by simp))⟩
theorem u64_nat {a : Int} (h : (Lit.int .u64 a).wf = true) : ∃ n : Nat, a = n ∧ n < 18446744073709551616 := by
  simp [Lit.wf, IntKind.min, IntKind.max, IntKind.signed, IntKind.bits] at h
  exact ⟨a.toNat, by omega, by omega⟩
theorem wideBack_walk (a : Int) (wa : (Lit.int .u64 a).wf = true) (b : Int) (wb : (Lit.int .u64 b).wf = true) (c : Int) (wc : (Lit.int .u64 c).wf = true) (w : World) :
    Calls Try.prog 5 #[.int .u64 a, .int .u64 b, .int .u64 c] w fun e w' => e = .returned (.bool true) ∧ Below w.heap.size w w' := by
  obtain ⟨a, rfl, ha⟩ := u64_nat wa
  obtain ⟨b, rfl, hb⟩ := u64_nat wb
  obtain ⟨c, rfl, hc⟩ := u64_nat wc
  have p := fun w => wmul_any a b w ha hb
  by_cases h : b = 0
  · subst h
    exact back_zero _ _ _ _ w p
  · have hm := Nat.mod_lt c (show 0 < b by omega)
    have hab : a * b + c % b < 340282366920938463463374607431768211456 := by
      have h1 : a * b + b ≤ (18446744073709551615 + 1) * 18446744073709551615 := by
        rw [show a * b + b = (a + 1) * b by rw [Nat.add_mul]; omega]
        exact Nat.mul_le_mul (by omega) (by omega)
      omega
    have q := fun w => nadd_any (a * b) (c % b) w (by omega) (by omega)
    have e1 : sumW (a * b) (c % b) = (a * b + c % b, true) := if_pos hab
    rw [e1, show nm (c % b) = .agg #[.int .u64 0, .int .u64 ((c % b : Nat) : Int)] by unfold nm; rw [Nat.div_eq_of_lt (by omega), Nat.mod_eq_of_lt (by omega)]; rfl] at q
    have k := fun w => ndiv_any (a * b + c % b) b w hab hb
    unfold divW at k
    rw [if_neg h, show (a * b + c % b) / b = a by rw [Nat.mul_comm, Nat.mul_add_div (by omega), Nat.div_eq_of_lt hm]; rfl, show (a * b + c % b) % b = c % b by rw [Nat.mul_comm, Nat.mul_add_mod]; exact Nat.mod_mod _ _,
      show nm a = .agg #[.int .u64 0, .int .u64 (a : Int)] by unfold nm; rw [Nat.div_eq_of_lt ha, Nat.mod_eq_of_lt ha]; rfl] at k
    exact back_walk a b c (c % b : Nat) _ _ _ _ w (by omega) (by omega) (by simp; omega) (by omega) (by rw [← Int.natCast_emod]) (by rw [Int.tmod_eq_emod_of_nonneg (by omega), ← Int.natCast_emod]) p q k
end Go.Proofs.Ytmggcdhahimpnaa
