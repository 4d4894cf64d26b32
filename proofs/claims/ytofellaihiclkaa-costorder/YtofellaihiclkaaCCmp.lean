/- The order of costs: package cost's and the document's. -/
import Derived.Test.YtofellaihiclkaaCBase
namespace Go.Proofs.Ytofellaihiclkaa
open Go.RowKit
set_option linter.unusedVariables false

theorem bel1 (w : World) (a : Obj) : Below w.heap.size w (w.alloc a) := (Below.refl _ _).alloc (Nat.le_refl _) _
theorem bel2 (w : World) (a b : Obj) : Below w.heap.size w ((w.alloc a).alloc b) := (bel1 w a).alloc (by simp) _
theorem bel3 (w : World) (a b c : Obj) : Below w.heap.size w (((w.alloc a).alloc b).alloc c) := (bel2 w a b).alloc (by simp; omega) _
theorem bstep {B : Nat} {w x y : World} (h : Below B w x) (g : Below x.heap.size x y) (hB : B ≤ x.heap.size) : Below B w y := h.trans (g.mono hB)
theorem compare_walk (a0 a1 b0 b1 x y z : Int) (w : World)
    (c : ∀ w, Calls Try.prog 29 #[.int .i64 a0, .int .i64 b0] w fun e w' => e = .returned (.int .i64 x) ∧ w' = w)
    (d : ∀ w, Calls Try.prog 30 #[.int .i64 a1, .int .i64 b1] w fun e w' => e = .returned (.int .i64 y) ∧ w' = w)
    (o : ∀ b w, w.cell? ⟨b, 0, none⟩ = some (.int .i64 x) → w.cell? ⟨b, 1, none⟩ = some (.int .i64 y) → Calls Try.prog 28 #[.slice (some ⟨b, 0, none⟩) 2 2] w fun e w' => e = .returned (.int .i64 z) ∧ w' = w) :
    Calls Try.prog 23 #[.agg #[.int .i64 a0, .int .i64 a1], .agg #[.int .i64 b0, .int .i64 b1]] w fun e w' => e = .returned (.int .i64 z) ∧ Below w.heap.size w w' := by
  go_enter Try.func23, Try.ntmps23
  go_wp2_with fail
  have hb := bel2 w (.cells #[.int .i64 a0, .int .i64 a1] 46) (.cells #[.int .i64 b0, .int .i64 b1] 46)
  have hs : ((w.alloc (.cells #[.int .i64 a0, .int .i64 a1] 46)).alloc (.cells #[.int .i64 b0, .int .i64 b1] 46)).heap.size = w.heap.size + 2 := by simp
  have k0 : ((w.alloc (.cells #[.int .i64 a0, .int .i64 a1] 46)).alloc (.cells #[.int .i64 b0, .int .i64 b1] 46)).cell? ⟨w.heap.size, 0, none⟩ = some (.int .i64 a0) := by simp
  have k1 : ((w.alloc (.cells #[.int .i64 a0, .int .i64 a1] 46)).alloc (.cells #[.int .i64 b0, .int .i64 b1] 46)).cell? ⟨w.heap.size, 1, none⟩ = some (.int .i64 a1) := by simp
  have l0 : ((w.alloc (.cells #[.int .i64 a0, .int .i64 a1] 46)).alloc (.cells #[.int .i64 b0, .int .i64 b1] 46)).cell? ⟨w.heap.size + 1, 0, none⟩ = some (.int .i64 b0) := by simp
  have l1 : ((w.alloc (.cells #[.int .i64 a0, .int .i64 a1] 46)).alloc (.cells #[.int .i64 b0, .int .i64 b1] 46)).cell? ⟨w.heap.size + 1, 1, none⟩ = some (.int .i64 b1) := by simp
  generalize (w.alloc (.cells #[.int .i64 a0, .int .i64 a1] 46)).alloc (.cells #[.int .i64 b0, .int .i64 b1] 46) = W at hb hs k0 k1 l0 l1 ⊢
  refine wp_region_still_tail 10 (by kernel_rfl) (by kernel_rfl) ?_
  simp only [List.take_succ_cons, List.take_zero, List.drop_succ_cons, List.drop_zero]
  repeat still_step
  still_call (c _)
  repeat still_step
  still_call (d _)
  refine wpStill_nil ?_
  change wpList _ _ _ _ _ W.drew
  go_wp2_with fail
  refine (o _ _ (by rw [← hs]; simp) (by rw [← hs]; simp)).mono ?_
  rintro e w1 ⟨rfl, rfl⟩
  go_wp2
  go_ret
  exact ⟨rfl, hb.drew.alloc (by simp; omega) _⟩
theorem compare_any (a b : Int × Int) (w : World) : Calls Try.prog 23 #[cst a, cst b] w fun e w' => e = .returned (.int .i64 (cmpC a b)) ∧ Below w.heap.size w w' :=
  compare_walk a.1 a.2 b.1 b.2 _ _ _ w (fun w => cmp3 _ _ w) (fun w => cmp2 _ _ w) (fun b w h h' => or_any b _ _ w h h')
theorem below_any (a b : Int × Int) (w : World) : Calls Try.prog 24 #[cst a, cst b] w fun e w' => e = .returned (.bool (decide (cmpC a b < 0))) ∧ Below w.heap.size w w' := by
  have c := fun w => compare_any a b w
  obtain ⟨a0, a1⟩ := a
  obtain ⟨b0, b1⟩ := b
  generalize cmpC (a0, a1) (b0, b1) = z at *
  unfold cst at *
  go_enter Try.func24, Try.ntmps24
  go_wp2_with fail
  refine (c _).mono ?_
  rintro e w1 ⟨rfl, b1⟩
  go_wp2
  go_ret
  exact ⟨rfl, bstep (bel2 _ _ _) b1 (by simp; omega)⟩
theorem Cmp_any (a b : Int × Int) (w : World) : Calls Try.prog 9 #[cst a, cst b] w fun e w' => e = .returned (.int .i64 (cmpC a b)) ∧ Below w.heap.size w w' := by
  have c := fun w => compare_any a b w
  obtain ⟨a0, a1⟩ := a
  obtain ⟨b0, b1⟩ := b
  generalize cmpC (a0, a1) (b0, b1) = z at *
  unfold cst at *
  go_enter Try.func9, Try.ntmps9
  go_wp2_with fail
  refine (c _).mono ?_
  rintro e w1 ⟨rfl, b1⟩
  go_wp2
  go_ret
  exact ⟨rfl, bstep (bel2 _ _ _) b1 (by simp; omega)⟩
theorem Less_any (a b : Int × Int) (w : World) : Calls Try.prog 11 #[cst a, cst b] w fun e w' => e = .returned (.bool (decide (cmpC a b < 0))) ∧ Below w.heap.size w w' := by
  have c := fun w => below_any a b w
  obtain ⟨a0, a1⟩ := a
  obtain ⟨b0, b1⟩ := b
  generalize decide (cmpC (a0, a1) (b0, b1) < 0) = z at *
  unfold cst at *
  go_enter Try.func11, Try.ntmps11
  go_wp2_with fail
  refine (c _).mono ?_
  rintro e w1 ⟨rfl, b1⟩
  go_wp2
  go_ret
  exact ⟨rfl, bstep (bel2 _ _ _) b1 (by simp; omega)⟩
theorem rCmp_any (a b : Int × Int) (w : World) : Calls Try.prog 10 #[cst a, cst b] w fun e w' => e = .returned (.int .i64 (cmpC a b)) ∧ Below w.heap.size w w' := by
  obtain ⟨a0, a1⟩ := a
  obtain ⟨b0, b1⟩ := b
  unfold cmpC cst cmp1
  by_cases h : a0 < b0
  · simp only [if_pos h]
    rw [if_neg (by decide)]
    go_enter Try.func10, Try.ntmps10
    go_wp2
    go_ret
    exact ⟨rfl, bel2 _ _ _⟩
  · by_cases h' : b0 < a0
    · simp only [if_neg h, if_pos h']
      rw [if_neg (by decide)]
      have q : (a0 == b0) = false := by simp; omega
      have q1 : ¬ a0 = b0 := by omega
      go_enter Try.func10, Try.ntmps10
      go_wp2
      go_ret
      exact ⟨rfl, bel2 _ _ _⟩
    · obtain rfl : a0 = b0 := by omega
      simp only [if_neg h, if_true]
      by_cases k : a1 < b1
      · simp only [if_pos k]
        go_enter Try.func10, Try.ntmps10
        go_wp2
        go_ret
        exact ⟨rfl, bel2 _ _ _⟩
      · by_cases k' : b1 < a1
        · simp only [if_neg k, if_pos k']
          have q : (a1 == b1) = false := by simp; omega
          have q1 : ¬ a1 = b1 := by omega
          go_enter Try.func10, Try.ntmps10
          go_wp2
          go_ret
          exact ⟨rfl, bel2 _ _ _⟩
        · obtain rfl : a1 = b1 := by omega
          simp only [if_neg k]
          go_enter Try.func10, Try.ntmps10
          go_wp2
          go_ret
          exact ⟨rfl, bel2 _ _ _⟩
end Go.Proofs.Ytofellaihiclkaa
