/- The lists of rules of package bad, and what applying them answers. -/
import Derived.Test.YtohkmgcjabodfaaRows
import Derived.Test.YtohkmgcjabodfaaBMath
import Derived.WalkKit
import Derived.LoopN
import Derived.StillTailTactics
import Derived.Laws.EntriesVeiled
namespace Go.Proofs.Ytohkmgcjabodfaa
open Go.RowKit
set_option linter.unusedVariables false

theorem bel1 (w : World) (a : Obj) : Below w.heap.size w (w.alloc a) := (Below.refl _ _).alloc (Nat.le_refl _) _
theorem bel2 (w : World) (a b : Obj) : Below w.heap.size w ((w.alloc a).alloc b) := (bel1 w a).alloc (by simp) _
theorem bel3 (w : World) (a b c : Obj) : Below w.heap.size w (((w.alloc a).alloc b).alloc c) := (bel2 w a b).alloc (by simp; omega) _
theorem crules_any (w : World) :
    Calls Try.prog 16 #[] w fun e w' => e = .returned (.slice (some ⟨w.heap.size, 0, none⟩) 3 3) ∧
      w' = w.alloc (.cells #[.func (.func 26) #[] #[], .func (.func 27) #[] #[], .func (.func 28) #[] #[], .func (.func 29) #[] #[], .nilFunc, .func (.func 30) #[] #[]] 45) := by
  go_enter Try.func16, Try.ntmps16
  go_wp2
  go_ret
  exact ⟨rfl, rfl⟩
theorem rrules_any (w : World) :
    Calls Try.prog 14 #[] w fun e w' => e = .returned (.slice (some ⟨w.heap.size, 0, none⟩) 5 5) ∧
      w' = w.alloc (.cells #[.func (.func 17) #[] #[], .func (.func 18) #[] #[], .func (.func 19) #[] #[], .func (.func 20) #[] #[], .func (.func 21) #[] #[], .func (.func 22) #[] #[], .func (.func 23) #[] #[], .func (.func 24) #[] #[], .nilFunc, .func (.func 25) #[] #[]] 42) := by
  go_enter Try.func14, Try.ntmps14
  go_wp2
  go_ret
  exact ⟨rfl, rfl⟩
theorem capply_hi (b : Nat) (r : Int) (w : World) (c0 : w.cell? ⟨b, 0, none⟩ = some (.func (.func 26) #[] #[])) (c1 : w.cell? ⟨b, 1, none⟩ = some (.func (.func 27) #[] #[]))
    (hr : 1290 < r) :
    Calls Try.prog 15 #[.slice (some ⟨b, 0, none⟩) 3 3, .int .i64 r] w fun e w' => e = .returned (.int .i64 10000) ∧ Below w.heap.size w w' := by
  go_enter Try.func15, Try.ntmps15
  go_wp2
  refine wp_loop_rounds 3 ?_
  rw [rounds_succ]
  go_wp2_with go_in
  go_ret
  exact ⟨rfl, bel1 _ _⟩
theorem capply_lo (b : Nat) (r : Int) (w : World) (c0 : w.cell? ⟨b, 0, none⟩ = some (.func (.func 26) #[] #[])) (c1 : w.cell? ⟨b, 1, none⟩ = some (.func (.func 27) #[] #[]))
    (c2 : w.cell? ⟨b, 2, none⟩ = some (.func (.func 28) #[] #[])) (c3 : w.cell? ⟨b, 3, none⟩ = some (.func (.func 29) #[] #[])) (hb : b < w.heap.size)
    (hr : r < 1) :
    Calls Try.prog 15 #[.slice (some ⟨b, 0, none⟩) 3 3, .int .i64 r] w fun e w' => e = .returned (.int .i64 0) ∧ Below w.heap.size w w' := by
  go_enter Try.func15, Try.ntmps15
  go_wp2
  refine wp_loop_rounds 3 ?_
  rw [rounds_succ]
  go_wp2_with go_in
  rw [rounds_succ]
  go_wp2_with go_in
  go_ret
  exact ⟨rfl, bel2 _ _ _⟩
theorem capply_mid (b : Nat) (r x : Int) (w : World) (c0 : w.cell? ⟨b, 0, none⟩ = some (.func (.func 26) #[] #[])) (c1 : w.cell? ⟨b, 1, none⟩ = some (.func (.func 27) #[] #[]))
    (c2 : w.cell? ⟨b, 2, none⟩ = some (.func (.func 28) #[] #[])) (c3 : w.cell? ⟨b, 3, none⟩ = some (.func (.func 29) #[] #[])) (c5 : w.cell? ⟨b, 5, none⟩ = some (.func (.func 30) #[] #[])) (hb : b < w.heap.size)
    (h1 : r ≤ 1290) (h2 : 1 ≤ r) (hx : wrap64 ((wrap64 (wrap64 (wrap64 (r * r) * r) + 131072)).tdiv 262144) = x) :
    Calls Try.prog 15 #[.slice (some ⟨b, 0, none⟩) 3 3, .int .i64 r] w fun e w' => e = .returned (.int .i64 x) ∧ Below w.heap.size w w' := by
  subst hx
  go_enter Try.func15, Try.ntmps15
  go_wp2
  refine wp_loop_rounds 3 ?_
  rw [rounds_succ]
  go_wp2_with go_in
  rw [rounds_succ]
  go_wp2_with go_in
  rw [rounds_succ]
  go_wp2_with go_in
  go_ret
  exact ⟨rfl, bel2 _ _ _⟩
end Go.Proofs.Ytohkmgcjabodfaa
