/- The walk of WideRatio over the cut of stage 2. -/
import Derived.Test.YtmggcdhahimpnaaWRefF
namespace Go.Proofs.Ytmggcdhahimpnaa
open Go.RowKit
set_option linter.unusedVariables false

theorem lratio_walk (a b c d r z : Int) (o : Bool) (w : World)
    (p : ∀ w, Calls Try.prog 18 #[.int .i64 a, .int .i64 b, .int .i64 c] w fun e w' => e = .returned (.tuple #[.int .i64 r, .bool o]) ∧ Below w.heap.size w w')
    (q : ∀ w, Calls Try.prog 19 #[.int .i64 a, .int .i64 b, .int .i64 c] w fun e w' => e = .returned (.agg #[.int .i64 r, .bool o]) ∧ Below w.heap.size w w')
    (k : ∀ w, Calls Try.prog 20 #[.int .i64 a, .int .i64 b, .int .i64 c, .int .i64 d] w fun e w' => e = .returned (.int .i64 z) ∧ Below w.heap.size w w')
    (l : ∀ w, Calls Try.prog 21 #[.int .i64 a, .int .i64 b, .int .i64 c, .int .i64 d] w fun e w' => e = .returned (.int .i64 z) ∧ Below w.heap.size w w') :
    Calls Try.prog 4 #[.agg #[.int .i64 a, .int .i64 b, .int .i64 c, .int .i64 d]] w fun e w' => e = .returned (.bool true) ∧ Below w.heap.size w w' := by
  go_enter Try.func4, Try.ntmps4
  go_wp2_with fail
  go_quiet (fail)
  go_wp2_with fail
  refine (p _).mono ?_
  rintro e w1 ⟨rfl, b1⟩
  have acc1 : Below w.heap.size w w1 := (below_drewN (bel1 w _) _).trans (b1.mono (by simp))
  clear b1
  go_wp2_with fail
  refine (q _).mono ?_
  rintro e w2 ⟨rfl, b2⟩
  have acc2 : Below w.heap.size w w2 := bstep acc1 b2 acc1.size
  clear b2
  go_wp2_with fail
  refine (k _).mono ?_
  rintro e w3 ⟨rfl, b3⟩
  have acc3 : Below w.heap.size w w3 := bstep (acc2.alloc acc2.size _) b3 (by have := acc2.size; simp; omega)
  clear b3
  go_wp2_with fail
  refine (l _).mono ?_
  rintro e w4 ⟨rfl, b4⟩
  have acc4 : Below w.heap.size w w4 := bstep acc3 b4 acc3.size
  clear b4
  go_wp2_with fail
  refine (awake_any _).mono ?_
  rintro e w5 ⟨rfl, b5⟩
  have acc5 : Below w.heap.size w w5 := bstep acc4 b5 acc4.size
  clear b5
  go_wp2_with fail
  go_ret
  exact ⟨rfl, acc5⟩
theorem wideRatio_walk (a : Int) (wa : (Lit.int .i64 a).wf = true) (b : Int) (wb : (Lit.int .i64 b).wf = true) (c : Int) (wc : (Lit.int .i64 c).wf = true) (d : Int) (wd : (Lit.int .i64 d).wf = true) (w : World) :
    Calls Try.prog 4 #[.agg #[.int .i64 a, .int .i64 b, .int .i64 c, .int .i64 d]] w fun e w' => e = .returned (.bool true) ∧ Below w.heap.size w w' := by
  have ha := i64_le wa
  have hb := i64_le wb
  have hc := i64_le wc
  have hd := i64_le wd
  exact lratio_walk a b c d _ _ _ w (fun w => ratio_any a b c w ha hb hc) (fun w => rrat_any a b c w ha hb hc)
    (fun w => cmpc_any a b c d w (by omega) (by omega) (by omega) (by omega)) (fun w => rcmp_any a b c d w ha hb hc hd)
end Go.Proofs.Ytmggcdhahimpnaa
