/- The walk of the document's Of of layer 9. -/
import Derived.Test.YtojphpncidjdiaaGRef
import Derived.Test.YtojphpncidjdiaaGOf
namespace Go.Proofs.Ytojphpncidjdiaa
open Go.RowKit
set_option maxRecDepth 20000
set_option linter.unusedVariables false
set_option linter.unusedSimpArgs false

theorem rof_no (n s0 s1 s2 s3 h high : Int) (last : Bool) (w : World) (c8 : ∀ w, Calls Try.prog 8 #[.agg #[.int .i64 n, .int .i64 s0, .int .i64 s1, .int .i64 s2, .int .i64 s3, .int .i64 h], .int .i64 high] w fun e w' => e = .returned (.bool false) ∧ Below w.heap.size w w') : Calls Try.prog 10 #[.agg #[.int .i64 n, .int .i64 s0, .int .i64 s1, .int .i64 s2, .int .i64 s3, .int .i64 h], .int .i64 high, .bool last] w fun e w' => e = .returned (.agg #[.int .i64 0, .int .i64 0, .int .i64 0, .int .i64 0, .int .i64 0]) ∧ Below w.heap.size w w' := by
  have B0 := (blk_new w #[.int .i64 n, .int .i64 s0, .int .i64 s1, .int .i64 s2, .int .i64 s3, .int .i64 h] 25).alloc (.cells #[.int .i64 0, .int .i64 0, .int .i64 0, .int .i64 0, .int .i64 0] 28)
  have B1 := blk_two w (.cells #[.int .i64 n, .int .i64 s0, .int .i64 s1, .int .i64 s2, .int .i64 s3, .int .i64 h] 25) #[.int .i64 0, .int .i64 0, .int .i64 0, .int .i64 0, .int .i64 0] 28
  have b0 := tbel2 w (.cells #[.int .i64 n, .int .i64 s0, .int .i64 s1, .int .i64 s2, .int .i64 s3, .int .i64 h] 25) (.cells #[.int .i64 0, .int .i64 0, .int .i64 0, .int .i64 0, .int .i64 0] 28)
  go_enter Try.func10, Try.ntmps10
  go_wp2_with fail
  refine (c8 _).mono ?_
  rintro e w1 ⟨rfl, b1⟩
  replace B0 := B0.old b1
  replace B1 := B1.old b1
  replace b0 := tstep b0 b1 b0.size
  clear b1
  have f0 := B0.six
  have f1 := B1.five
  have f2 := B1.five_free
  go_wp2
  refine bodyPost_ret (v := .agg #[.int .i64 0, .int .i64 0, .int .i64 0, .int .i64 0, .int .i64 0]) (by simp [results, Try.results10, go_sem, f1, f2]) rfl ⟨rfl, ?_⟩
  exact Below.new5 b0 (by omega) _ _ _ _ _
theorem rof_z (n s0 s1 s2 s3 h high d o : Int) (last : Bool) (w : World)  (hw : wrap64 (high - n) = d)
    (c8 : ∀ w, Calls Try.prog 8 #[.agg #[.int .i64 n, .int .i64 s0, .int .i64 s1, .int .i64 s2, .int .i64 s3, .int .i64 h], .int .i64 high] w fun e w' => e = .returned (.bool true) ∧ Below w.heap.size w w') (c21 : ∀ w, Calls Try.prog 21 #[.agg #[.int .i64 n, .int .i64 s0, .int .i64 s1, .int .i64 s2, .int .i64 s3, .int .i64 h]] w fun e w' => e = .returned (.int .i64 o) ∧ Below w.heap.size w w')
    (hd : (d == 0) = true) : Calls Try.prog 10 #[.agg #[.int .i64 n, .int .i64 s0, .int .i64 s1, .int .i64 s2, .int .i64 s3, .int .i64 h], .int .i64 high, .bool last] w fun e w' => e = .returned (.agg #[.int .i64 0, .int .i64 0, .int .i64 0, .int .i64 0, .int .i64 0]) ∧ Below w.heap.size w w' := by
  have B0 := (blk_new w #[.int .i64 n, .int .i64 s0, .int .i64 s1, .int .i64 s2, .int .i64 s3, .int .i64 h] 25).alloc (.cells #[.int .i64 0, .int .i64 0, .int .i64 0, .int .i64 0, .int .i64 0] 28)
  have B1 := blk_two w (.cells #[.int .i64 n, .int .i64 s0, .int .i64 s1, .int .i64 s2, .int .i64 s3, .int .i64 h] 25) #[.int .i64 0, .int .i64 0, .int .i64 0, .int .i64 0, .int .i64 0] 28
  have b0 := tbel2 w (.cells #[.int .i64 n, .int .i64 s0, .int .i64 s1, .int .i64 s2, .int .i64 s3, .int .i64 h] 25) (.cells #[.int .i64 0, .int .i64 0, .int .i64 0, .int .i64 0, .int .i64 0] 28)
  go_enter Try.func10, Try.ntmps10
  go_wp2_with fail
  refine (c8 _).mono ?_
  rintro e w1 ⟨rfl, b1⟩
  replace B0 := B0.old b1
  replace B1 := B1.old b1
  replace b0 := tstep b0 b1 b0.size
  clear b1
  have f0 := B0.six
  have f1 := B1.five
  have f2 := B1.five_free
  go_wp2_with fail
  refine (c21 _).mono ?_
  rintro e w2 ⟨rfl, b1⟩
  replace B0 := B0.old b1
  replace B1 := B1.old b1
  replace b0 := tstep b0 b1 b0.size
  clear b1
  have f0 := B0.six
  have f1 := B1.five
  have f2 := B1.five_free
  go_wp2
  refine bodyPost_ret (v := .agg #[.int .i64 0, .int .i64 0, .int .i64 0, .int .i64 0, .int .i64 0]) (by simp [results, Try.results10, go_sem, f1, f2]) rfl ⟨rfl, ?_⟩
  exact Below.new5 b0 (by omega) _ _ _ _ _
theorem rof_y (n s0 s1 s2 s3 h high d o : Int) (last : Bool) (w : World) (x : Int) (hw : wrap64 (high - n) = d)
    (c8 : ∀ w, Calls Try.prog 8 #[.agg #[.int .i64 n, .int .i64 s0, .int .i64 s1, .int .i64 s2, .int .i64 s3, .int .i64 h], .int .i64 high] w fun e w' => e = .returned (.bool true) ∧ Below w.heap.size w w') (c21 : ∀ w, Calls Try.prog 21 #[.agg #[.int .i64 n, .int .i64 s0, .int .i64 s1, .int .i64 s2, .int .i64 s3, .int .i64 h]] w fun e w' => e = .returned (.int .i64 o) ∧ Below w.heap.size w w')
    (hd : 0 < d) (hd' : (d == 0) = false) (ho : (o = 0 ∧ x = s0 ∧ 0 < s0 ∧ last = false) ∨ (o = 1 ∧ x = s1) ∨ (o = 2 ∧ x = s2) ∨ (o = 3 ∧ x = s3)) : Calls Try.prog 10 #[.agg #[.int .i64 n, .int .i64 s0, .int .i64 s1, .int .i64 s2, .int .i64 s3, .int .i64 h], .int .i64 high, .bool last] w fun e w' => e = .returned (.agg #[.int .i64 1, .int .i64 o, .int .i64 d, .int .i64 x, .int .i64 0]) ∧ Below w.heap.size w w' := by
  have B0 := (blk_new w #[.int .i64 n, .int .i64 s0, .int .i64 s1, .int .i64 s2, .int .i64 s3, .int .i64 h] 25).alloc (.cells #[.int .i64 0, .int .i64 0, .int .i64 0, .int .i64 0, .int .i64 0] 28)
  have B1 := blk_two w (.cells #[.int .i64 n, .int .i64 s0, .int .i64 s1, .int .i64 s2, .int .i64 s3, .int .i64 h] 25) #[.int .i64 0, .int .i64 0, .int .i64 0, .int .i64 0, .int .i64 0] 28
  have b0 := tbel2 w (.cells #[.int .i64 n, .int .i64 s0, .int .i64 s1, .int .i64 s2, .int .i64 s3, .int .i64 h] 25) (.cells #[.int .i64 0, .int .i64 0, .int .i64 0, .int .i64 0, .int .i64 0] 28)
  rcases ho with ⟨rfl, rfl, hs, rfl⟩ | ⟨rfl, rfl⟩ | ⟨rfl, rfl⟩ | ⟨rfl, rfl⟩
  all_goals
    go_enter Try.func10, Try.ntmps10
    go_wp2_with fail
    refine (c8 _).mono ?_
    rintro e w1 ⟨rfl, b1⟩
    replace B0 := B0.old b1
    replace B1 := B1.old b1
    replace b0 := tstep b0 b1 b0.size
    clear b1
    have f0 := B0.six
    have f1 := B1.five
    have f2 := B1.five_free
    go_wp2_with fail
    refine (c21 _).mono ?_
    rintro e w2 ⟨rfl, b1⟩
    replace B0 := B0.old b1
    replace B1 := B1.old b1
    replace b0 := tstep b0 b1 b0.size
    clear b1
    have f0 := B0.six
    have f1 := B1.five
    have f2 := B1.five_free
    go_wp2
    refine bodyPost_ret (v := .agg #[.int .i64 1, .int .i64 _, .int .i64 d, .int .i64 _, .int .i64 0]) (by simp [results, Try.results10, go_sem, f1, f2]) rfl ⟨rfl, ?_⟩
    exact Below.new5 b0 (by omega) _ _ _ _ _
theorem rof_n (n s0 s1 s2 s3 h high d o : Int) (last : Bool) (w : World)  (hw : wrap64 (high - n) = d)
    (c8 : ∀ w, Calls Try.prog 8 #[.agg #[.int .i64 n, .int .i64 s0, .int .i64 s1, .int .i64 s2, .int .i64 s3, .int .i64 h], .int .i64 high] w fun e w' => e = .returned (.bool true) ∧ Below w.heap.size w w') (c21 : ∀ w, Calls Try.prog 21 #[.agg #[.int .i64 n, .int .i64 s0, .int .i64 s1, .int .i64 s2, .int .i64 s3, .int .i64 h]] w fun e w' => e = .returned (.int .i64 o) ∧ Below w.heap.size w w')
    (hd : 0 < d) (hd' : (d == 0) = false) (ho : o = 0) (hs : s0 ≤ 0 ∨ (0 < s0 ∧ last = true)) : Calls Try.prog 10 #[.agg #[.int .i64 n, .int .i64 s0, .int .i64 s1, .int .i64 s2, .int .i64 s3, .int .i64 h], .int .i64 high, .bool last] w fun e w' => e = .returned (.agg #[.int .i64 0, .int .i64 0, .int .i64 0, .int .i64 0, .int .i64 d]) ∧ Below w.heap.size w w' := by
  have B0 := (blk_new w #[.int .i64 n, .int .i64 s0, .int .i64 s1, .int .i64 s2, .int .i64 s3, .int .i64 h] 25).alloc (.cells #[.int .i64 0, .int .i64 0, .int .i64 0, .int .i64 0, .int .i64 0] 28)
  have B1 := blk_two w (.cells #[.int .i64 n, .int .i64 s0, .int .i64 s1, .int .i64 s2, .int .i64 s3, .int .i64 h] 25) #[.int .i64 0, .int .i64 0, .int .i64 0, .int .i64 0, .int .i64 0] 28
  have b0 := tbel2 w (.cells #[.int .i64 n, .int .i64 s0, .int .i64 s1, .int .i64 s2, .int .i64 s3, .int .i64 h] 25) (.cells #[.int .i64 0, .int .i64 0, .int .i64 0, .int .i64 0, .int .i64 0] 28)
  (subst ho; rcases hs with hs | ⟨hs, rfl⟩)
  all_goals
    go_enter Try.func10, Try.ntmps10
    go_wp2_with fail
    refine (c8 _).mono ?_
    rintro e w1 ⟨rfl, b1⟩
    replace B0 := B0.old b1
    replace B1 := B1.old b1
    replace b0 := tstep b0 b1 b0.size
    clear b1
    have f0 := B0.six
    have f1 := B1.five
    have f2 := B1.five_free
    go_wp2_with fail
    refine (c21 _).mono ?_
    rintro e w2 ⟨rfl, b1⟩
    replace B0 := B0.old b1
    replace B1 := B1.old b1
    replace b0 := tstep b0 b1 b0.size
    clear b1
    have f0 := B0.six
    have f1 := B1.five
    have f2 := B1.five_free
    go_wp2
    refine bodyPost_ret (v := .agg #[.int .i64 0, .int .i64 0, .int .i64 0, .int .i64 0, .int .i64 d]) (by simp [results, Try.results10, go_sem, f1, f2]) rfl ⟨rfl, ?_⟩
    exact Below.new5 b0 (by omega) _ _ _ _ _
theorem rof_2 (n s0 s1 s2 s3 h high d o : Int) (last : Bool) (w : World) (q : Int) (hw : wrap64 (high - n) = d)
    (c8 : ∀ w, Calls Try.prog 8 #[.agg #[.int .i64 n, .int .i64 s0, .int .i64 s1, .int .i64 s2, .int .i64 s3, .int .i64 h], .int .i64 high] w fun e w' => e = .returned (.bool true) ∧ Below w.heap.size w w') (c21 : ∀ w, Calls Try.prog 21 #[.agg #[.int .i64 n, .int .i64 s0, .int .i64 s1, .int .i64 s2, .int .i64 s3, .int .i64 h]] w fun e w' => e = .returned (.int .i64 o) ∧ Below w.heap.size w w')
    (hd : d < 0) (hd' : (d == 0) = false) (hq : wrap64 (-d) = q) (hh : q ≤ h) : Calls Try.prog 10 #[.agg #[.int .i64 n, .int .i64 s0, .int .i64 s1, .int .i64 s2, .int .i64 s3, .int .i64 h], .int .i64 high, .bool last] w fun e w' => e = .returned (.agg #[.int .i64 2, .int .i64 0, .int .i64 q, .int .i64 h, .int .i64 0]) ∧ Below w.heap.size w w' := by
  have B0 := (blk_new w #[.int .i64 n, .int .i64 s0, .int .i64 s1, .int .i64 s2, .int .i64 s3, .int .i64 h] 25).alloc (.cells #[.int .i64 0, .int .i64 0, .int .i64 0, .int .i64 0, .int .i64 0] 28)
  have B1 := blk_two w (.cells #[.int .i64 n, .int .i64 s0, .int .i64 s1, .int .i64 s2, .int .i64 s3, .int .i64 h] 25) #[.int .i64 0, .int .i64 0, .int .i64 0, .int .i64 0, .int .i64 0] 28
  have b0 := tbel2 w (.cells #[.int .i64 n, .int .i64 s0, .int .i64 s1, .int .i64 s2, .int .i64 s3, .int .i64 h] 25) (.cells #[.int .i64 0, .int .i64 0, .int .i64 0, .int .i64 0, .int .i64 0] 28)
  go_enter Try.func10, Try.ntmps10
  go_wp2_with fail
  refine (c8 _).mono ?_
  rintro e w1 ⟨rfl, b1⟩
  replace B0 := B0.old b1
  replace B1 := B1.old b1
  replace b0 := tstep b0 b1 b0.size
  clear b1
  have f0 := B0.six
  have f1 := B1.five
  have f2 := B1.five_free
  go_wp2_with fail
  refine (c21 _).mono ?_
  rintro e w2 ⟨rfl, b1⟩
  replace B0 := B0.old b1
  replace B1 := B1.old b1
  replace b0 := tstep b0 b1 b0.size
  clear b1
  have f0 := B0.six
  have f1 := B1.five
  have f2 := B1.five_free
  go_wp2
  refine bodyPost_ret (v := .agg #[.int .i64 2, .int .i64 0, .int .i64 q, .int .i64 h, .int .i64 0]) (by simp [results, Try.results10, go_sem, f1, f2]) rfl ⟨rfl, ?_⟩
  exact Below.new5 b0 (by omega) _ _ _ _ _
theorem rof_3 (n s0 s1 s2 s3 h high d o : Int) (last : Bool) (w : World) (q z : Int) (hw : wrap64 (high - n) = d)
    (c8 : ∀ w, Calls Try.prog 8 #[.agg #[.int .i64 n, .int .i64 s0, .int .i64 s1, .int .i64 s2, .int .i64 s3, .int .i64 h], .int .i64 high] w fun e w' => e = .returned (.bool true) ∧ Below w.heap.size w w') (c21 : ∀ w, Calls Try.prog 21 #[.agg #[.int .i64 n, .int .i64 s0, .int .i64 s1, .int .i64 s2, .int .i64 s3, .int .i64 h]] w fun e w' => e = .returned (.int .i64 o) ∧ Below w.heap.size w w')
    (hd : d < 0) (hd' : (d == 0) = false) (hq : wrap64 (-d) = q) (hh : h < q) (hz : wrap64 (d + h) = z) : Calls Try.prog 10 #[.agg #[.int .i64 n, .int .i64 s0, .int .i64 s1, .int .i64 s2, .int .i64 s3, .int .i64 h], .int .i64 high, .bool last] w fun e w' => e = .returned (.agg #[.int .i64 3, .int .i64 0, .int .i64 h, .int .i64 h, .int .i64 z]) ∧ Below w.heap.size w w' := by
  have B0 := (blk_new w #[.int .i64 n, .int .i64 s0, .int .i64 s1, .int .i64 s2, .int .i64 s3, .int .i64 h] 25).alloc (.cells #[.int .i64 0, .int .i64 0, .int .i64 0, .int .i64 0, .int .i64 0] 28)
  have B1 := blk_two w (.cells #[.int .i64 n, .int .i64 s0, .int .i64 s1, .int .i64 s2, .int .i64 s3, .int .i64 h] 25) #[.int .i64 0, .int .i64 0, .int .i64 0, .int .i64 0, .int .i64 0] 28
  have b0 := tbel2 w (.cells #[.int .i64 n, .int .i64 s0, .int .i64 s1, .int .i64 s2, .int .i64 s3, .int .i64 h] 25) (.cells #[.int .i64 0, .int .i64 0, .int .i64 0, .int .i64 0, .int .i64 0] 28)
  go_enter Try.func10, Try.ntmps10
  go_wp2_with fail
  refine (c8 _).mono ?_
  rintro e w1 ⟨rfl, b1⟩
  replace B0 := B0.old b1
  replace B1 := B1.old b1
  replace b0 := tstep b0 b1 b0.size
  clear b1
  have f0 := B0.six
  have f1 := B1.five
  have f2 := B1.five_free
  go_wp2_with fail
  refine (c21 _).mono ?_
  rintro e w2 ⟨rfl, b1⟩
  replace B0 := B0.old b1
  replace B1 := B1.old b1
  replace b0 := tstep b0 b1 b0.size
  clear b1
  have f0 := B0.six
  have f1 := B1.five
  have f2 := B1.five_free
  go_wp2
  refine bodyPost_ret (v := .agg #[.int .i64 3, .int .i64 0, .int .i64 h, .int .i64 h, .int .i64 z]) (by simp [results, Try.results10, go_sem, f1, f2]) rfl ⟨rfl, ?_⟩
  exact Below.new5 b0 (by omega) _ _ _ _ _
theorem rof9_any (t : T6) (high : Int) (last : Bool) (w : World) : Calls Try.prog 10 #[tot t, .int .i64 high, .bool last] w fun e w' => e = .returned (stg (ofG t high last)) ∧ Below w.heap.size w w' := by
  have c := rright9_any t high
  have co := rorder_any t
  have hc := ordT_cases t
  unfold ofG
  cases hr : rightG t high
  · rw [hr] at c
    exact rof_no t.n t.s0 t.s1 t.s2 t.s3 t.h high last w c
  · rw [hr] at c
    obtain ⟨hs, h1, h2⟩ := rightG_true hr
    obtain ⟨_, _, _, _, hn, hh⟩ := soundT_true hs
    have hn' := fitB_true hn
    have hh' := fitB_true hh
    have hw : wrap64 (high - t.n) = high - t.n := by unfold wrap64; omega
    rw [cond_true]
    by_cases g1 : 0 < high - t.n
    · rw [if_pos g1]
      have g0 : (high - t.n == 0) = false := by simp; omega
      unfold widenG
      by_cases h : 0 < ordT t ∨ (0 < t.s0 ∧ last = false)
      · rw [if_pos h]
        refine rof_y t.n t.s0 t.s1 t.s2 t.s3 t.h high _ _ last w _ hw c co g1 g0 ?_
        rcases hc with ⟨h1, h2⟩ | h1 | h1 | h1
        · rcases h with h | h
          · omega
          · exact .inl ⟨h1, h2, h⟩
        · exact .inr (.inl h1)
        · exact .inr (.inr (.inl h1))
        · exact .inr (.inr (.inr h1))
      · rw [if_neg h]
        have h0 : ordT t = 0 := by omega
        refine rof_n t.n t.s0 t.s1 t.s2 t.s3 t.h high _ _ last w hw c co g1 g0 h0 ?_
        by_cases hs : t.s0 ≤ 0
        · exact .inl hs
        · right
          cases last
          · exact absurd (.inr ⟨by omega, rfl⟩) h
          · exact ⟨by omega, rfl⟩
    · rw [if_neg g1]
      by_cases g2 : high - t.n < 0
      · rw [if_pos g2]
        have g0 : (high - t.n == 0) = false := by simp; omega
        unfold narrowG
        have q1 : wrap64 (-(high - t.n)) = -(high - t.n) := by unfold wrap64; omega
        have q2 : wrap64 (high - t.n + t.h) = t.h - -(high - t.n) := by unfold wrap64; omega
        by_cases g3 : -(high - t.n) ≤ t.h
        · rw [if_pos g3]
          exact rof_2 t.n t.s0 t.s1 t.s2 t.s3 t.h high _ _ last w _ hw c co g2 g0 q1 g3
        · rw [if_neg g3]
          exact rof_3 t.n t.s0 t.s1 t.s2 t.s3 t.h high _ _ last w _ _ hw c co g2 g0 q1 (by omega) q2
      · rw [if_neg g2]
        exact rof_z t.n t.s0 t.s1 t.s2 t.s3 t.h high _ _ last w hw c co (by simp; omega)
end Go.Proofs.Ytojphpncidjdiaa
