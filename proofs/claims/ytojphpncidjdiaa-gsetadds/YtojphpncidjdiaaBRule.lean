/- The lists of rules of package bad, and what applying them answers. -/
import Derived.Test.YtojphpncidjdiaaRows
import Derived.Test.YtojphpncidjdiaaBMath
import Derived.WalkKit
import Derived.LoopN
import Derived.StillTailTactics
import Derived.Laws.EntriesVeiled
namespace Go.Proofs.Ytojphpncidjdiaa
open Go.RowKit
set_option maxRecDepth 20000
set_option linter.unusedVariables false

theorem b_bel1 (w : World) (a : Obj) : Below w.heap.size w (w.alloc a) := (Below.refl _ _).alloc (Nat.le_refl _) _
theorem b_bel2 (w : World) (a b : Obj) : Below w.heap.size w ((w.alloc a).alloc b) := (b_bel1 w a).alloc (by simp) _
theorem b_bel3 (w : World) (a b c : Obj) : Below w.heap.size w (((w.alloc a).alloc b).alloc c) := (b_bel2 w a b).alloc (by simp; omega) _
theorem crules_any (w : World) :
    Calls Try.prog 48 #[] w fun e w' => e = .returned (.slice (some ⟨w.heap.size, 0, none⟩) 3 3) ∧
      w' = w.alloc (.cells #[.func (.func 58) #[] #[], .func (.func 59) #[] #[], .func (.func 60) #[] #[], .func (.func 61) #[] #[], .nilFunc, .func (.func 62) #[] #[]] 90) := by
  go_enter Try.func48, Try.ntmps48
  go_wp2
  go_ret
  exact ⟨rfl, rfl⟩
theorem rrules_any (w : World) :
    Calls Try.prog 50 #[] w fun e w' => e = .returned (.slice (some ⟨w.heap.size, 0, none⟩) 5 5) ∧
      w' = w.alloc (.cells #[.func (.func 63) #[] #[], .func (.func 64) #[] #[], .func (.func 65) #[] #[], .func (.func 66) #[] #[], .func (.func 67) #[] #[], .func (.func 68) #[] #[], .func (.func 69) #[] #[], .func (.func 70) #[] #[], .nilFunc, .func (.func 71) #[] #[]] 94) := by
  go_enter Try.func50, Try.ntmps50
  go_wp2
  go_ret
  exact ⟨rfl, rfl⟩
theorem capply_hi (b : Nat) (r : Int) (w : World) (c0 : w.cell? ⟨b, 0, none⟩ = some (.func (.func 58) #[] #[])) (c1 : w.cell? ⟨b, 1, none⟩ = some (.func (.func 59) #[] #[]))
    (hr : 1290 < r) :
    Calls Try.prog 47 #[.slice (some ⟨b, 0, none⟩) 3 3, .int .i64 r] w fun e w' => e = .returned (.int .i64 10000) ∧ Below w.heap.size w w' := by
  go_enter Try.func47, Try.ntmps47
  go_wp2
  refine wp_loop_rounds 3 ?_
  rw [rounds_succ]
  go_wp2_with go_in
  go_ret
  exact ⟨rfl, b_bel1 _ _⟩
theorem capply_lo (b : Nat) (r : Int) (w : World) (c0 : w.cell? ⟨b, 0, none⟩ = some (.func (.func 58) #[] #[])) (c1 : w.cell? ⟨b, 1, none⟩ = some (.func (.func 59) #[] #[]))
    (c2 : w.cell? ⟨b, 2, none⟩ = some (.func (.func 60) #[] #[])) (c3 : w.cell? ⟨b, 3, none⟩ = some (.func (.func 61) #[] #[])) (hb : b < w.heap.size)
    (hr : r < 1) :
    Calls Try.prog 47 #[.slice (some ⟨b, 0, none⟩) 3 3, .int .i64 r] w fun e w' => e = .returned (.int .i64 0) ∧ Below w.heap.size w w' := by
  go_enter Try.func47, Try.ntmps47
  go_wp2
  refine wp_loop_rounds 3 ?_
  rw [rounds_succ]
  go_wp2_with go_in
  rw [rounds_succ]
  go_wp2_with go_in
  go_ret
  exact ⟨rfl, b_bel2 _ _ _⟩
theorem capply_mid (b : Nat) (r x : Int) (w : World) (c0 : w.cell? ⟨b, 0, none⟩ = some (.func (.func 58) #[] #[])) (c1 : w.cell? ⟨b, 1, none⟩ = some (.func (.func 59) #[] #[]))
    (c2 : w.cell? ⟨b, 2, none⟩ = some (.func (.func 60) #[] #[])) (c3 : w.cell? ⟨b, 3, none⟩ = some (.func (.func 61) #[] #[])) (c5 : w.cell? ⟨b, 5, none⟩ = some (.func (.func 62) #[] #[])) (hb : b < w.heap.size)
    (h1 : r ≤ 1290) (h2 : 1 ≤ r) (hx : wrap64 ((wrap64 (wrap64 (wrap64 (r * r) * r) + 131072)).tdiv 262144) = x) :
    Calls Try.prog 47 #[.slice (some ⟨b, 0, none⟩) 3 3, .int .i64 r] w fun e w' => e = .returned (.int .i64 x) ∧ Below w.heap.size w w' := by
  subst hx
  go_enter Try.func47, Try.ntmps47
  go_wp2
  refine wp_loop_rounds 3 ?_
  rw [rounds_succ]
  go_wp2_with go_in
  rw [rounds_succ]
  go_wp2_with go_in
  rw [rounds_succ]
  go_wp2_with go_in
  go_ret
  exact ⟨rfl, b_bel2 _ _ _⟩
end Go.Proofs.Ytojphpncidjdiaa
