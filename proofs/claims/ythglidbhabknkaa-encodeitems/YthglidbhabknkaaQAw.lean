/- awake of layer 16. -/
import Derived.Test.YthglidbhabknkaaQRjb
namespace Go.Proofs.Ythglidbhabknkaa
open Go.RowKit
set_option maxRecDepth 20000
set_option linter.unusedVariables false
set_option linter.unusedSimpArgs false

theorem chZ_small {n : Int} (h0 : 0 ≤ n) (h1 : n < 64) : chZ n = [2 * n] := by
  unfold chZ
  rw [show foldZ n = 2 * n by unfold foldZ; split <;> omega]
  exact chain_lt (by omega)
def wakeQ : List I7 := [⟨1, 3, 0, 0, 0, 0, 0⟩, ⟨7, 0, 0, 0, 0, 0, 0⟩]
theorem wakeQ_bare : ∀ x ∈ wakeQ, bareI x := by
  intro x hx
  simp only [wakeQ, List.mem_cons, List.not_mem_nil, or_false] at hx
  rcases hx with rfl | rfl <;> simp [bareI]
theorem wakeQ_enc : itemsB wakeQ = [4, 2, 6, 0, 14] := by
  unfold itemsB
  rw [isB_yes wakeQ_bare, cond_true]
  simp [wakeQ, listE, itemE, chZ_small]
theorem wakeQ_in : ∀ k, inI (wakeQ.getD k zeroI) := fun k => by
  rcases Nat.lt_or_ge k 2 with h | h
  · rcases (show k = 0 ∨ k = 1 by omega) with rfl | rfl <;> (unfold inI inR; decide)
  · rw [getD_none (by exact h)]; exact (zero_in 0).1
def wakeC : Array Value := #[.int .i64 1, .int .i64 3, .int .i64 0, .int .i64 0, .int .i64 0, .int .i64 0, .int .i64 0, .int .i64 7, .int .i64 0, .int .i64 0, .int .i64 0, .int .i64 0, .int .i64 0, .int .i64 0]
theorem wakeQ_els (w : World) : Els 7 encI (w.alloc (.cells wakeC 44)) (some ⟨w.heap.size, 0, none⟩) 2 fun k => wakeQ.getD k zeroI := fun k j hk hj => by
  refine ⟨w.heap.size, 0, rfl, by simp, ?_⟩
  rw [(blk_new w wakeC 44).cell, Nat.zero_add]
  rcases (show k = 0 ∨ k = 1 by omega) with rfl | rfl <;> rcases (show j = 0 ∨ j = 1 ∨ j = 2 ∨ j = 3 ∨ j = 4 ∨ j = 5 ∨ j = 6 by omega) with rfl | rfl | rfl | rfl | rfl | rfl | rfl <;> rfl
theorem row_five (x : World) : Row (x.alloc (.cells #[.int .u8 4, .int .u8 2, .int .u8 6, .int .u8 0, .int .u8 14] 5)) (some ⟨x.heap.size, 0, none⟩) 5 [4, 2, 6, 0, 14] := ⟨Nat.le_refl _, fun j hj => ⟨x.heap.size, 0, rfl, by simp, by
  have hj' : j = 0 ∨ j = 1 ∨ j = 2 ∨ j = 3 ∨ j = 4 := by simp at hj; omega
  rw [Nat.zero_add, (blk_new x _ 5).cell j]
  rcases hj' with rfl | rfl | rfl | rfl | rfl <;> rfl⟩⟩
theorem bare_no : isB (bareI ⟨7, 0, 0, 0, 0, 0, 1⟩) = false := isB_no (by simp [bareI])
theorem awake16 (w : World) : Calls Try.prog 7 #[] w fun e w' => e = .returned (.bool true) ∧ Below w.heap.size w w' := by
  have c1 := Items_any (some ⟨w.heap.size, 0, none⟩) 2 wakeQ (w.alloc (.cells wakeC 44)) wakeQ_in (by decide) (wakeQ_els w)
  rw [isB_yes wakeQ_bare, wakeQ_enc] at c1
  change Calls _ _ #[.slice (some ⟨w.heap.size, 0, none⟩) 2 2] _ _ at c1
  have c2 := fun w => Bare_any ⟨7, 0, 0, 0, 0, 0, 1⟩ w
  rw [bare_no] at c2
  unfold itm at c2
  unfold wakeC at c1
  have b0 := tbel1 w (.cells #[.int .i64 1, .int .i64 3, .int .i64 0, .int .i64 0, .int .i64 0, .int .i64 0, .int .i64 0, .int .i64 7, .int .i64 0, .int .i64 0, .int .i64 0, .int .i64 0, .int .i64 0, .int .i64 0] 44)
  have cm := Magic_any
  go_enter Try.func7, Try.ntmps7
  go_wp2_with fail
  refine c1.mono ?_
  rintro e w1 ⟨a1, n1, rfl, r1, b1⟩
  have bx := tbel1 w1 (.cells #[.int .u8 4, .int .u8 2, .int .u8 6, .int .u8 0, .int .u8 14] 5)
  have b2 := tstep (tstep b0 b1 b0.size) bx (by have := b0.size; have := b1.size; omega)
  have cs := same_any a1 (some ⟨w1.heap.size, 0, none⟩) n1 5 [4, 2, 6, 0, 14] [4, 2, 6, 0, 14] _ (by decide) (by decide) (r1.carry bx) (row_five w1)
  rw [decide_eq_true (rfl : ([4, 2, 6, 0, 14] : List Int) = [4, 2, 6, 0, 14])] at cs
  change Calls _ _ #[.slice a1 5 n1, .slice (some ⟨w1.heap.size, 0, none⟩) 5 5] _ _ at cs
  clear c1 b1 bx r1 b0
  go_wp2_with (first
    | (go_at_call 10; refine cs.mono ?_; rintro e w2 ⟨rfl, b3⟩; have b4 := tstep b2 b3 b2.size; clear b2 b3)
    | (go_at_call 18; refine (cm _).mono ?_; rintro e w3 ⟨rfl, rfl⟩)
    | (go_at_call 15; refine (c2 _).mono ?_; rintro e w4 ⟨rfl, b5⟩; have b6 := tstep b4 b5 b4.size; clear b4 b5))
  go_ret
  exact ⟨rfl, b6⟩
end Go.Proofs.Ythglidbhabknkaa
