/- The walks of gset.widen, gset.Of. -/
import Derived.Test.YtojphpncidjdiaaGBase
namespace Go.Proofs.Ytojphpncidjdiaa
open Go.RowKit
set_option maxRecDepth 20000
set_option linter.unusedVariables false
set_option linter.unusedSimpArgs false

theorem widen_y (n s0 s1 s2 s3 h need o x : Int) (last : Bool) (w : World)
    (c : ∀ w, Calls Try.prog 35 #[.agg #[.int .i64 n, .int .i64 s0, .int .i64 s1, .int .i64 s2, .int .i64 s3, .int .i64 h]] w fun e w' => e = .returned (.int .i64 o) ∧ Below w.heap.size w w')
    (ho : (o = 0 ∧ x = s0 ∧ 0 < s0 ∧ last = false) ∨ (o = 1 ∧ x = s1) ∨ (o = 2 ∧ x = s2) ∨ (o = 3 ∧ x = s3)) :
    Calls Try.prog 19 #[.agg #[.int .i64 n, .int .i64 s0, .int .i64 s1, .int .i64 s2, .int .i64 s3, .int .i64 h], .int .i64 need, .bool last] w fun e w' => e = .returned (.agg #[.int .i64 1, .int .i64 o, .int .i64 need, .int .i64 x, .int .i64 0]) ∧ Below w.heap.size w w' := by
  have B0 := (blk_new w #[.int .i64 n, .int .i64 s0, .int .i64 s1, .int .i64 s2, .int .i64 s3, .int .i64 h] 25).alloc (.cells #[.int .i64 0, .int .i64 0, .int .i64 0, .int .i64 0, .int .i64 0] 28)
  have B1 := blk_two w (.cells #[.int .i64 n, .int .i64 s0, .int .i64 s1, .int .i64 s2, .int .i64 s3, .int .i64 h] 25) #[.int .i64 0, .int .i64 0, .int .i64 0, .int .i64 0, .int .i64 0] 28
  have b0 := tbel2 w (.cells #[.int .i64 n, .int .i64 s0, .int .i64 s1, .int .i64 s2, .int .i64 s3, .int .i64 h] 25) (.cells #[.int .i64 0, .int .i64 0, .int .i64 0, .int .i64 0, .int .i64 0] 28)
  rcases ho with ⟨rfl, rfl, hs, rfl⟩ | ⟨rfl, rfl⟩ | ⟨rfl, rfl⟩ | ⟨rfl, rfl⟩
  all_goals
    go_enter Try.func19, Try.ntmps19
    go_wp2_with fail
    refine (c _).mono ?_
    rintro e w1 ⟨rfl, b1⟩
    replace B0 := B0.old b1
    replace B1 := B1.old b1
    replace b0 := tstep b0 b1 b0.size
    clear b1
    have f0 := B0.six
    have f1 := B1.five
    have f2 := B1.five_free
    go_wp2
    refine bodyPost_ret (v := .agg #[.int .i64 1, .int .i64 _, .int .i64 need, .int .i64 _, .int .i64 0]) (by simp [results, Try.results19, go_sem, f1, f2]) rfl ⟨rfl, ?_⟩
    exact Below.new5 b0 (by omega) _ _ _ _ _
theorem widen_n (n s0 s1 s2 s3 h need : Int) (last : Bool) (w : World)
    (c : ∀ w, Calls Try.prog 35 #[.agg #[.int .i64 n, .int .i64 s0, .int .i64 s1, .int .i64 s2, .int .i64 s3, .int .i64 h]] w fun e w' => e = .returned (.int .i64 0) ∧ Below w.heap.size w w')
    (ho : s0 ≤ 0 ∨ last = true) :
    Calls Try.prog 19 #[.agg #[.int .i64 n, .int .i64 s0, .int .i64 s1, .int .i64 s2, .int .i64 s3, .int .i64 h], .int .i64 need, .bool last] w fun e w' => e = .returned (.agg #[.int .i64 0, .int .i64 0, .int .i64 0, .int .i64 0, .int .i64 need]) ∧ Below w.heap.size w w' := by
  have B0 := (blk_new w #[.int .i64 n, .int .i64 s0, .int .i64 s1, .int .i64 s2, .int .i64 s3, .int .i64 h] 25).alloc (.cells #[.int .i64 0, .int .i64 0, .int .i64 0, .int .i64 0, .int .i64 0] 28)
  have B1 := blk_two w (.cells #[.int .i64 n, .int .i64 s0, .int .i64 s1, .int .i64 s2, .int .i64 s3, .int .i64 h] 25) #[.int .i64 0, .int .i64 0, .int .i64 0, .int .i64 0, .int .i64 0] 28
  have b0 := tbel2 w (.cells #[.int .i64 n, .int .i64 s0, .int .i64 s1, .int .i64 s2, .int .i64 s3, .int .i64 h] 25) (.cells #[.int .i64 0, .int .i64 0, .int .i64 0, .int .i64 0, .int .i64 0] 28)
  have ho : s0 ≤ 0 ∨ (0 < s0 ∧ last = true) := by
    rcases ho with h | h
    · exact .inl h
    · by_cases hs : s0 ≤ 0
      · exact .inl hs
      · exact .inr ⟨by omega, h⟩
  rcases ho with hs | ⟨hs, rfl⟩
  all_goals
    go_enter Try.func19, Try.ntmps19
    go_wp2_with fail
    refine (c _).mono ?_
    rintro e w1 ⟨rfl, b1⟩
    replace B0 := B0.old b1
    replace B1 := B1.old b1
    replace b0 := tstep b0 b1 b0.size
    clear b1
    have f0 := B0.six
    have f1 := B1.five
    have f2 := B1.five_free
    go_wp2
    refine bodyPost_ret (v := .agg #[.int .i64 0, .int .i64 0, .int .i64 0, .int .i64 0, .int .i64 need]) (by simp [results, Try.results19, go_sem, f1, f2]) rfl ⟨rfl, ?_⟩
    exact Below.new5 b0 (by omega) _ _ _ _ _
theorem widen_any (t : T6) (need : Int) (last : Bool) (w : World) : Calls Try.prog 19 #[tot t, .int .i64 need, .bool last] w fun e w' => e = .returned (stg (widenG t need last)) ∧ Below w.heap.size w w' := by
  have c := order_any t
  have hc := ordT_cases t
  unfold stg widenG
  obtain ⟨o, ho⟩ : ∃ o, o = ordT t := ⟨_, rfl⟩
  rw [← ho] at c hc ⊢
  by_cases h : 0 < o ∨ (0 < t.s0 ∧ last = false)
  · rw [if_pos h]
    refine widen_y t.n t.s0 t.s1 t.s2 t.s3 t.h need o _ last w c ?_
    rcases hc with ⟨h1, h2⟩ | h1 | h1 | h1
    · rcases h with h | h
      · omega
      · exact .inl ⟨h1, h2, h⟩
    · exact .inr (.inl h1)
    · exact .inr (.inr (.inl h1))
    · exact .inr (.inr (.inr h1))
  · rw [if_neg h]
    have h0 : o = 0 := by omega
    rw [h0] at c
    refine widen_n t.n t.s0 t.s1 t.s2 t.s3 t.h need last w c ?_
    by_cases hs : t.s0 ≤ 0
    · exact .inl hs
    · right
      cases last
      · exact absurd (.inr ⟨by omega, rfl⟩) h
      · rfl
set_option maxHeartbeats 1000000 in
theorem of_walk (n s0 s1 s2 s3 h high : Int) (last r : Bool) (w : World) (v0 v1 v2 v3 v4 : Int) (hn : 0 ≤ n) (hn' : n ≤ 1125899906842624) (hh : -1125899906842624 ≤ high) (hh' : high ≤ 1125899906842624)
    (c7 : ∀ w, Calls Try.prog 7 #[.agg #[.int .i64 n, .int .i64 s0, .int .i64 s1, .int .i64 s2, .int .i64 s3, .int .i64 h], .int .i64 high] w fun e w' => e = .returned (.bool true) ∧ Below w.heap.size w w')
    (hc : (0 < high - n ∧ ∀ w, Calls Try.prog 19 #[.agg #[.int .i64 n, .int .i64 s0, .int .i64 s1, .int .i64 s2, .int .i64 s3, .int .i64 h], .int .i64 (high - n), .bool last] w fun e w' => e = .returned (.agg #[.int .i64 v0, .int .i64 v1, .int .i64 v2, .int .i64 v3, .int .i64 v4]) ∧ Below w.heap.size w w') ∨
      (high - n < 0 ∧ ∀ w, Calls Try.prog 20 #[.agg #[.int .i64 n, .int .i64 s0, .int .i64 s1, .int .i64 s2, .int .i64 s3, .int .i64 h], .int .i64 (-(high - n))] w fun e w' => e = .returned (.agg #[.int .i64 v0, .int .i64 v1, .int .i64 v2, .int .i64 v3, .int .i64 v4]) ∧ Below w.heap.size w w') ∨
      (high - n = 0 ∧ v0 = 0 ∧ v1 = 0 ∧ v2 = 0 ∧ v3 = 0 ∧ v4 = 0)) :
    Calls Try.prog 9 #[.agg #[.int .i64 n, .int .i64 s0, .int .i64 s1, .int .i64 s2, .int .i64 s3, .int .i64 h], .int .i64 high, .bool last] w fun e w' => e = .returned (.agg #[.int .i64 v0, .int .i64 v1, .int .i64 v2, .int .i64 v3, .int .i64 v4]) ∧ Below w.heap.size w w' := by
  have B0 := (blk_new w #[.int .i64 n, .int .i64 s0, .int .i64 s1, .int .i64 s2, .int .i64 s3, .int .i64 h] 25).alloc (.cells #[.int .i64 0, .int .i64 0, .int .i64 0, .int .i64 0, .int .i64 0] 28)
  have B1 := blk_two w (.cells #[.int .i64 n, .int .i64 s0, .int .i64 s1, .int .i64 s2, .int .i64 s3, .int .i64 h] 25) #[.int .i64 0, .int .i64 0, .int .i64 0, .int .i64 0, .int .i64 0] 28
  have b0 := tbel2 w (.cells #[.int .i64 n, .int .i64 s0, .int .i64 s1, .int .i64 s2, .int .i64 s3, .int .i64 h] 25) (.cells #[.int .i64 0, .int .i64 0, .int .i64 0, .int .i64 0, .int .i64 0] 28)
  obtain ⟨d, hd⟩ : ∃ d, d = high - n := ⟨_, rfl⟩
  have hw : wrap64 (high - n) = d := by rw [hd]; unfold wrap64; omega
  have hw' : wrap64 (-d) = -d := by rw [hd]; unfold wrap64; omega
  rw [← hd] at hc
  clear hd hn hn' hh hh'
  go_enter Try.func9, Try.ntmps9
  go_wp2_with fail
  refine (c7 _).mono ?_
  rintro e w1 ⟨rfl, b1⟩
  replace B0 := B0.old b1
  replace B1 := B1.old b1
  replace b0 := tstep b0 b1 b0.size
  clear b1
  have f0 := B0.six
  have f1 := B1.five
  have f2 := B1.five_free
  rcases hc with ⟨hd, c⟩ | ⟨hd, c⟩ | ⟨rfl, rfl, rfl, rfl, rfl, rfl⟩
  · go_wp2_with fail
    refine (c _).mono ?_
    rintro e w2 ⟨rfl, b1⟩
    replace B0 := B0.old b1
    replace B1 := B1.old b1
    replace b0 := tstep b0 b1 b0.size
    clear b1
    have f0 := B0.six
    have f1 := B1.five
    have f2 := B1.five_free
    go_wp2
    refine bodyPost_ret (v := .agg #[.int .i64 v0, .int .i64 v1, .int .i64 v2, .int .i64 v3, .int .i64 v4]) (by simp [results, Try.results9, go_sem, f1, f2]) rfl ⟨rfl, ?_⟩
    exact Below.new5 b0 (by omega) _ _ _ _ _
  · go_wp2_with fail
    refine (c _).mono ?_
    rintro e w2 ⟨rfl, b1⟩
    replace B0 := B0.old b1
    replace B1 := B1.old b1
    replace b0 := tstep b0 b1 b0.size
    clear b1
    have f0 := B0.six
    have f1 := B1.five
    have f2 := B1.five_free
    go_wp2
    refine bodyPost_ret (v := .agg #[.int .i64 v0, .int .i64 v1, .int .i64 v2, .int .i64 v3, .int .i64 v4]) (by simp [results, Try.results9, go_sem, f1, f2]) rfl ⟨rfl, ?_⟩
    exact Below.new5 b0 (by omega) _ _ _ _ _
  · go_wp2
    refine bodyPost_ret (v := .agg #[.int .i64 0, .int .i64 0, .int .i64 0, .int .i64 0, .int .i64 0]) (by simp [results, Try.results9, go_sem, f1, f2]) rfl ⟨rfl, ?_⟩
    exact Below.new5 b0 (by omega) _ _ _ _ _
theorem of_no (n s0 s1 s2 s3 h high : Int) (last : Bool) (w : World)
    (c7 : ∀ w, Calls Try.prog 7 #[.agg #[.int .i64 n, .int .i64 s0, .int .i64 s1, .int .i64 s2, .int .i64 s3, .int .i64 h], .int .i64 high] w fun e w' => e = .returned (.bool false) ∧ Below w.heap.size w w') :
    Calls Try.prog 9 #[.agg #[.int .i64 n, .int .i64 s0, .int .i64 s1, .int .i64 s2, .int .i64 s3, .int .i64 h], .int .i64 high, .bool last] w fun e w' => e = .returned (.agg #[.int .i64 0, .int .i64 0, .int .i64 0, .int .i64 0, .int .i64 0]) ∧ Below w.heap.size w w' := by
  have B0 := (blk_new w #[.int .i64 n, .int .i64 s0, .int .i64 s1, .int .i64 s2, .int .i64 s3, .int .i64 h] 25).alloc (.cells #[.int .i64 0, .int .i64 0, .int .i64 0, .int .i64 0, .int .i64 0] 28)
  have B1 := blk_two w (.cells #[.int .i64 n, .int .i64 s0, .int .i64 s1, .int .i64 s2, .int .i64 s3, .int .i64 h] 25) #[.int .i64 0, .int .i64 0, .int .i64 0, .int .i64 0, .int .i64 0] 28
  have b0 := tbel2 w (.cells #[.int .i64 n, .int .i64 s0, .int .i64 s1, .int .i64 s2, .int .i64 s3, .int .i64 h] 25) (.cells #[.int .i64 0, .int .i64 0, .int .i64 0, .int .i64 0, .int .i64 0] 28)
  go_enter Try.func9, Try.ntmps9
  go_wp2_with fail
  refine (c7 _).mono ?_
  rintro e w1 ⟨rfl, b1⟩
  replace B0 := B0.old b1
  replace B1 := B1.old b1
  replace b0 := tstep b0 b1 b0.size
  clear b1
  have f0 := B0.six
  have f1 := B1.five
  have f2 := B1.five_free
  go_wp2
  refine bodyPost_ret (v := .agg #[.int .i64 0, .int .i64 0, .int .i64 0, .int .i64 0, .int .i64 0]) (by simp [results, Try.results9, go_sem, f1, f2]) rfl ⟨rfl, ?_⟩
  exact Below.new5 b0 (by omega) _ _ _ _ _
theorem rightG_true {t : T6} {high : Int} (h : rightG t high = true) : soundT t = true ∧ -1125899906842624 ≤ high ∧ high ≤ 1125899906842624 := by
  simp [rightG] at h; exact ⟨h.1.1, h.1.2, h.2⟩
theorem g_of_any (t : T6) (high : Int) (last : Bool) (w : World) : Calls Try.prog 9 #[tot t, .int .i64 high, .bool last] w fun e w' => e = .returned (stg (ofG t high last)) ∧ Below w.heap.size w w' := by
  have c := right_any t high
  unfold ofG
  cases hr : rightG t high
  · rw [hr] at c
    exact of_no t.n t.s0 t.s1 t.s2 t.s3 t.h high last w c
  · rw [hr] at c
    obtain ⟨hs, h1, h2⟩ := rightG_true hr
    obtain ⟨_, _, _, _, hn, hh⟩ := soundT_true hs
    have hn' := fitB_true hn
    have hh' := fitB_true hh
    refine of_walk t.n t.s0 t.s1 t.s2 t.s3 t.h high last true w _ _ _ _ _ hn'.1 hn'.2 h1 h2 c ?_
    by_cases g1 : 0 < high - t.n
    · rw [cond_true, if_pos g1]
      exact .inl ⟨g1, widen_any t _ last⟩
    · by_cases g2 : high - t.n < 0
      · rw [cond_true, if_neg g1, if_pos g2]
        exact .inr (.inl ⟨g2, fun w => narrow_any t _ w hh'.1 hh'.2 (by omega) (by omega)⟩)
      · rw [cond_true, if_neg g1, if_neg g2]
        exact .inr (.inr ⟨by omega, rfl, rfl, rfl, rfl, rfl⟩)
end Go.Proofs.Ytojphpncidjdiaa
