/- The walk of TotalOrder, over letters. -/
import Derived.Test.YtaeglilffbdlkaaTSums
import Derived.Test.YtaeglilffbdlkaaTSml
namespace Go.Proofs.Ytaeglilffbdlkaa
open Go.RowKit
set_option linter.unusedVariables false
set_option linter.unusedSimpArgs false

set_option maxRecDepth 20000 in
set_option maxHeartbeats 8000000 in
theorem order7_no (a0 a1 a2 a3 a4 a5 b0 b1 b2 b3 b4 b5 c0 c1 c2 c3 c4 c5 s0 s1 s2 s3 s4 s5 d0 d1 d2 d3 d4 d5 : Int) (f g ra rb rc : Bool) (w : World) (hfg : f = true → g = true ∧ d0 = a0 ∧ d1 = a1 ∧ d2 = a2 ∧ d3 = a3 ∧ d4 = a4 ∧ d5 = a5) (hr : (ra && rb && rc) = false)
    (c6 : ∀ w, Calls Try.prog 6 #[.agg #[.int .i64 a0, .int .i64 a1, .int .i64 a2, .int .i64 a3, .int .i64 a4, .int .i64 a5], .agg #[.int .i64 b0, .int .i64 b1, .int .i64 b2, .int .i64 b3, .int .i64 b4, .int .i64 b5]] w fun e w' => e = .returned (.tuple #[.agg #[.int .i64 s0, .int .i64 s1, .int .i64 s2, .int .i64 s3, .int .i64 s4, .int .i64 s5], .bool f]) ∧ Below w.heap.size w w')
    (c7 : ∀ w, Calls Try.prog 7 #[.agg #[.int .i64 s0, .int .i64 s1, .int .i64 s2, .int .i64 s3, .int .i64 s4, .int .i64 s5], .agg #[.int .i64 b0, .int .i64 b1, .int .i64 b2, .int .i64 b3, .int .i64 b4, .int .i64 b5]] w fun e w' => e = .returned (.tuple #[.agg #[.int .i64 d0, .int .i64 d1, .int .i64 d2, .int .i64 d3, .int .i64 d4, .int .i64 d5], .bool g]) ∧ Below w.heap.size w w')
    (ca : ∀ w, Calls Try.prog 21 #[.agg #[.int .i64 a0, .int .i64 a1, .int .i64 a2, .int .i64 a3, .int .i64 a4, .int .i64 a5]] w fun e w' => e = .returned (.bool ra) ∧ Below w.heap.size w w')
    (cb : ∀ w, Calls Try.prog 21 #[.agg #[.int .i64 b0, .int .i64 b1, .int .i64 b2, .int .i64 b3, .int .i64 b4, .int .i64 b5]] w fun e w' => e = .returned (.bool rb) ∧ Below w.heap.size w w')
    (cc : ∀ w, Calls Try.prog 21 #[.agg #[.int .i64 c0, .int .i64 c1, .int .i64 c2, .int .i64 c3, .int .i64 c4, .int .i64 c5]] w fun e w' => e = .returned (.bool rc) ∧ Below w.heap.size w w') :
    Calls Try.prog 5 #[.agg #[.int .i64 a0, .int .i64 a1, .int .i64 a2, .int .i64 a3, .int .i64 a4, .int .i64 a5], .agg #[.int .i64 b0, .int .i64 b1, .int .i64 b2, .int .i64 b3, .int .i64 b4, .int .i64 b5], .agg #[.int .i64 c0, .int .i64 c1, .int .i64 c2, .int .i64 c3, .int .i64 c4, .int .i64 c5]] w fun e w' => e = .returned (.bool true) ∧ Below w.heap.size w w' := by
  go_enter Try.func5, Try.ntmps5
  go_upto_region 1 with (fail)
  have Ba := ((blk_new w #[.int .i64 a0, .int .i64 a1, .int .i64 a2, .int .i64 a3, .int .i64 a4, .int .i64 a5] 25).alloc (.cells #[.int .i64 b0, .int .i64 b1, .int .i64 b2, .int .i64 b3, .int .i64 b4, .int .i64 b5] 25)).alloc (.cells #[.int .i64 c0, .int .i64 c1, .int .i64 c2, .int .i64 c3, .int .i64 c4, .int .i64 c5] 25)
  have Bb := (blk_two w (.cells #[.int .i64 a0, .int .i64 a1, .int .i64 a2, .int .i64 a3, .int .i64 a4, .int .i64 a5] 25) #[.int .i64 b0, .int .i64 b1, .int .i64 b2, .int .i64 b3, .int .i64 b4, .int .i64 b5] 25).alloc (.cells #[.int .i64 c0, .int .i64 c1, .int .i64 c2, .int .i64 c3, .int .i64 c4, .int .i64 c5] 25)
  have Bc := blk_three w (.cells #[.int .i64 a0, .int .i64 a1, .int .i64 a2, .int .i64 a3, .int .i64 a4, .int .i64 a5] 25) (.cells #[.int .i64 b0, .int .i64 b1, .int .i64 b2, .int .i64 b3, .int .i64 b4, .int .i64 b5] 25) #[.int .i64 c0, .int .i64 c1, .int .i64 c2, .int .i64 c3, .int .i64 c4, .int .i64 c5] 25
  have hW := tbel3 w (.cells #[.int .i64 a0, .int .i64 a1, .int .i64 a2, .int .i64 a3, .int .i64 a4, .int .i64 a5] 25) (.cells #[.int .i64 b0, .int .i64 b1, .int .i64 b2, .int .i64 b3, .int .i64 b4, .int .i64 b5] 25) (.cells #[.int .i64 c0, .int .i64 c1, .int .i64 c2, .int .i64 c3, .int .i64 c4, .int .i64 c5] 25)
  generalize ((w.alloc _).alloc _).alloc _ = W at Ba Bb Bc hW ⊢
  have a6 := Ba.six
  have b6 := Bb.six
  go_wp2_with fail
  refine (c6 _).mono ?_
  rintro e x ⟨rfl, hx⟩
  replace Ba := Ba.old hx
  replace Bb := Bb.old hx
  replace Bc := Bc.old hx
  replace hW := tstep hW hx hW.size
  clear a6 b6 hx c6
  go_upto_region 2 with (fail)
  have Bs := blk_new x #[.int .i64 s0, .int .i64 s1, .int .i64 s2, .int .i64 s3, .int .i64 s4, .int .i64 s5] 25
  replace Ba := Ba.alloc (.cells #[.int .i64 s0, .int .i64 s1, .int .i64 s2, .int .i64 s3, .int .i64 s4, .int .i64 s5] 25)
  replace Bb := Bb.alloc (.cells #[.int .i64 s0, .int .i64 s1, .int .i64 s2, .int .i64 s3, .int .i64 s4, .int .i64 s5] 25)
  replace Bc := Bc.alloc (.cells #[.int .i64 s0, .int .i64 s1, .int .i64 s2, .int .i64 s3, .int .i64 s4, .int .i64 s5] 25)
  replace hW := hW.alloc hW.size (.cells #[.int .i64 s0, .int .i64 s1, .int .i64 s2, .int .i64 s3, .int .i64 s4, .int .i64 s5] 25)
  generalize x.heap.size = gs at Bs ⊢
  generalize x.alloc _ = W1 at Ba Bb Bc Bs hW ⊢
  clear x
  have s6 := Bs.six
  have b6 := Bb.six
  go_wp2_with fail
  refine (c7 _).mono ?_
  rintro e y ⟨rfl, hx⟩
  replace Ba := Ba.old hx
  replace Bb := Bb.old hx
  replace Bc := Bc.old hx
  replace hW := tstep hW hx hW.size
  clear s6 b6 hx c7 Bs
  go_upto_region 3 with (fail)
  have Bd := blk_new y #[.int .i64 d0, .int .i64 d1, .int .i64 d2, .int .i64 d3, .int .i64 d4, .int .i64 d5] 25
  replace Ba := Ba.alloc (.cells #[.int .i64 d0, .int .i64 d1, .int .i64 d2, .int .i64 d3, .int .i64 d4, .int .i64 d5] 25)
  replace Bb := Bb.alloc (.cells #[.int .i64 d0, .int .i64 d1, .int .i64 d2, .int .i64 d3, .int .i64 d4, .int .i64 d5] 25)
  replace Bc := Bc.alloc (.cells #[.int .i64 d0, .int .i64 d1, .int .i64 d2, .int .i64 d3, .int .i64 d4, .int .i64 d5] 25)
  replace hW := hW.alloc hW.size (.cells #[.int .i64 d0, .int .i64 d1, .int .i64 d2, .int .i64 d3, .int .i64 d4, .int .i64 d5] 25)
  generalize y.heap.size = gd at Bd ⊢
  generalize y.alloc _ = W2 at Ba Bb Bc Bd hW ⊢
  clear y
  have a6 := Ba.six
  have d6 := Bd.six
  have G : (f = false) ∨ (f = true ∧ g = true ∧ d0 = a0 ∧ d1 = a1 ∧ d2 = a2 ∧ d3 = a3 ∧ d4 = a4 ∧ d5 = a5) := by cases f; exact .inl rfl; exact .inr ⟨rfl, hfg rfl⟩
  clear hfg
  rcases G with rfl | ⟨rfl, rfl, rfl, rfl, rfl, rfl, rfl, rfl⟩
  all_goals
    go_upto_region 5 with (fail)
    go_wp2_with fail
    refine (ca _).mono ?_
    rintro e y ⟨rfl, hx⟩
    replace Bb := Bb.old hx
    replace Bc := Bc.old hx
    replace hW := tstep hW hx hW.size
    clear a6 d6 hx
    cases ra
    · go_wp2_with fail
      refine (awake7 _).mono ?_
      rintro e y ⟨rfl, hx⟩
      replace hW := tstep hW hx hW.size
      go_wp2
      go_ret
      exact ⟨rfl, hW⟩
    have b6 := Bb.six
    go_wp2_with fail
    refine (cb _).mono ?_
    rintro e y ⟨rfl, hx⟩
    replace Bc := Bc.old hx
    replace hW := tstep hW hx hW.size
    clear b6 hx
    cases rb
    · go_wp2_with fail
      refine (awake7 _).mono ?_
      rintro e y ⟨rfl, hx⟩
      replace hW := tstep hW hx hW.size
      go_wp2
      go_ret
      exact ⟨rfl, hW⟩
    obtain rfl : rc = false := by simpa using hr
    have c6 := Bc.six
    go_wp2_with fail
    refine (cc _).mono ?_
    rintro e y ⟨rfl, hx⟩
    replace hW := tstep hW hx hW.size
    clear c6 hx
    go_wp2_with fail
    refine (awake7 _).mono ?_
    rintro e y ⟨rfl, hx⟩
    replace hW := tstep hW hx hW.size
    go_wp2
    go_ret
    exact ⟨rfl, hW⟩
end Go.Proofs.Ytaeglilffbdlkaa
