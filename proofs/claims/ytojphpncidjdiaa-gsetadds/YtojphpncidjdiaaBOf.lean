/- The contracts of package bad and of the document's answers: Cube, Quarter, Of. -/
import Derived.Test.YtojphpncidjdiaaBRat
namespace Go.Proofs.Ytojphpncidjdiaa
open Go.RowKit
set_option maxRecDepth 20000
set_option linter.unusedVariables false

theorem crules_lies (w : World) : Calls Try.prog 48 #[] w fun e w' => e = .returned (.slice (some ⟨w.heap.size, 0, none⟩) 3 3) ∧ Below w.heap.size w w' ∧ w.heap.size < w'.heap.size ∧ w'.cell? ⟨w.heap.size, 0, none⟩ = some (.func (.func 58) #[] #[]) ∧ w'.cell? ⟨w.heap.size, 1, none⟩ = some (.func (.func 59) #[] #[]) ∧ w'.cell? ⟨w.heap.size, 2, none⟩ = some (.func (.func 60) #[] #[]) ∧ w'.cell? ⟨w.heap.size, 3, none⟩ = some (.func (.func 61) #[] #[]) ∧ w'.cell? ⟨w.heap.size, 5, none⟩ = some (.func (.func 62) #[] #[]) := by
  refine (crules_any w).mono ?_
  rintro e w' ⟨rfl, rfl⟩
  refine ⟨rfl, b_bel1 _ _, by simp, by simp [go_sem], by simp [go_sem], by simp [go_sem], by simp [go_sem], by simp [go_sem]⟩
theorem rrules_lies (w : World) : Calls Try.prog 50 #[] w fun e w' => e = .returned (.slice (some ⟨w.heap.size, 0, none⟩) 5 5) ∧ Below w.heap.size w w' ∧ w.heap.size < w'.heap.size ∧ w'.cell? ⟨w.heap.size, 0, none⟩ = some (.func (.func 63) #[] #[]) ∧ w'.cell? ⟨w.heap.size, 1, none⟩ = some (.func (.func 64) #[] #[]) ∧ w'.cell? ⟨w.heap.size, 2, none⟩ = some (.func (.func 65) #[] #[]) ∧ w'.cell? ⟨w.heap.size, 3, none⟩ = some (.func (.func 66) #[] #[]) ∧ w'.cell? ⟨w.heap.size, 4, none⟩ = some (.func (.func 67) #[] #[]) ∧ w'.cell? ⟨w.heap.size, 5, none⟩ = some (.func (.func 68) #[] #[]) ∧ w'.cell? ⟨w.heap.size, 6, none⟩ = some (.func (.func 69) #[] #[]) ∧ w'.cell? ⟨w.heap.size, 7, none⟩ = some (.func (.func 70) #[] #[]) ∧ w'.cell? ⟨w.heap.size, 9, none⟩ = some (.func (.func 71) #[] #[]) := by
  refine (rrules_any w).mono ?_
  rintro e w' ⟨rfl, rfl⟩
  refine ⟨rfl, b_bel1 _ _, by simp, by simp [go_sem], by simp [go_sem], by simp [go_sem], by simp [go_sem], by simp [go_sem], by simp [go_sem], by simp [go_sem], by simp [go_sem], by simp [go_sem]⟩
theorem capply_any (b : Nat) (r : Int) (w : World) (lb : b < w.heap.size) (c0 : w.cell? ⟨b, 0, none⟩ = some (.func (.func 58) #[] #[])) (c1 : w.cell? ⟨b, 1, none⟩ = some (.func (.func 59) #[] #[]))
    (c2 : w.cell? ⟨b, 2, none⟩ = some (.func (.func 60) #[] #[])) (c3 : w.cell? ⟨b, 3, none⟩ = some (.func (.func 61) #[] #[])) (c5 : w.cell? ⟨b, 5, none⟩ = some (.func (.func 62) #[] #[])) :
    Calls Try.prog 47 #[.slice (some ⟨b, 0, none⟩) 3 3, .int .i64 r] w fun e w' => e = .returned (.int .i64 (cubeR r)) ∧ Below w.heap.size w w' := by
  by_cases h1 : 1290 < r
  · rw [show cubeR r = 10000 by unfold cubeR; rw [if_pos h1]]
    exact capply_hi b r w c0 c1 h1
  · by_cases h2 : r < 1
    · rw [show cubeR r = 0 by unfold cubeR; rw [if_neg h1, if_pos h2]]
      exact capply_lo b r w c0 c1 c2 c3 lb h2
    · exact capply_mid b r _ w c0 c1 c2 c3 c5 lb (by omega) (by omega) (cube_mid r (by omega) (by omega))
theorem cube_any (r : Int) (w : World) :
    Calls Try.prog 36 #[.int .i64 r] w fun e w' => e = .returned (.int .i64 (cubeR r)) ∧ Below w.heap.size w w' := by
  obtain ⟨x, hx⟩ : ∃ x, x = cubeR r := ⟨_, rfl⟩
  have c := fun b w lb => capply_any b r w lb
  rw [← hx] at c ⊢
  clear hx
  go_enter Try.func36, Try.ntmps36
  go_wp2_with (first | (go_at_call 48; refine (crules_lies _).mono ?_; rintro e w1 ⟨rfl, s1, l1, k0, k1, k2, k3, k5⟩) | (go_at_call 47; refine (c _ _ l1 k0 k1 k2 k3 k5).mono ?_; rintro e w2 ⟨rfl, b2⟩))
  go_ret
  exact ⟨rfl, s1.trans (b2.mono s1.size)⟩
theorem rapply_any (b : Nat) (n h : Int) (w : World) (hn : b_inR n) (hh : b_inR h) (lb : b < w.heap.size) (c0 : w.cell? ⟨b, 0, none⟩ = some (.func (.func 63) #[] #[])) (c1 : w.cell? ⟨b, 1, none⟩ = some (.func (.func 64) #[] #[])) (c2 : w.cell? ⟨b, 2, none⟩ = some (.func (.func 65) #[] #[])) (c3 : w.cell? ⟨b, 3, none⟩ = some (.func (.func 66) #[] #[])) (c4 : w.cell? ⟨b, 4, none⟩ = some (.func (.func 67) #[] #[])) (c5 : w.cell? ⟨b, 5, none⟩ = some (.func (.func 68) #[] #[])) (c6 : w.cell? ⟨b, 6, none⟩ = some (.func (.func 69) #[] #[])) (c7 : w.cell? ⟨b, 7, none⟩ = some (.func (.func 70) #[] #[])) (c9 : w.cell? ⟨b, 9, none⟩ = some (.func (.func 71) #[] #[])) :
    Calls Try.prog 49 #[.slice (some ⟨b, 0, none⟩) 5 5, .agg #[.int .i64 n, .int .i64 h]] w fun e w' => e = .returned (.int .i64 (ratioR n h)) ∧ Below w.heap.size w w' := by
  obtain ⟨n1, n2⟩ := hn
  obtain ⟨m1, m2⟩ := hh
  by_cases h1 : n < 1
  · rw [show ratioR n h = 0 by unfold ratioR; rw [if_pos h1]]
    exact rapply_0 b n h w lb c0 c1 c2 c3 c4 c5 c6 c7 c9 h1
  · by_cases h2 : h < 1
    · rw [show ratioR n h = 1291 by unfold ratioR; rw [if_neg h1, if_pos h2]]
      exact rapply_1 b n h w lb c0 c1 c2 c3 c4 c5 c6 c7 c9 (by omega) h2
    · by_cases h3 : n ≤ 7230584
      · rw [← ratio_small n h (by omega) h3 (by omega)]
        exact rapply_2 b n h w lb c0 c1 c2 c3 c4 c5 c6 c7 c9 (by omega) (by omega) h3
      · by_cases h4 : 1663497 ≤ h
        · rw [← ratio_big n h (by omega) n2 h4 m2]
          refine rapply_3 b n h w lb c0 c1 c2 c3 c4 c5 c6 c7 c9 (by omega) (by omega) (by omega) h4 _ rfl ?_
          rw [Int.tdiv_eq_ediv_of_nonneg (by omega), w64 (h / 297) (by omega) (by omega)]; omega
        · rw [show ratioR n h = n by unfold ratioR; rw [if_neg h1, if_neg h2, if_neg h3, if_neg h4]]
          exact rapply_4 b n h w lb c0 c1 c2 c3 c4 c5 c6 c7 c9 (by omega) (by omega) (by omega) (by omega)
theorem quarter_any (n h : Int) (w : World) (hn : b_inR n) (hh : b_inR h) :
    Calls Try.prog 37 #[.int .i64 n, .int .i64 h] w fun e w' => e = .returned (.int .i64 (quarterR n h)) ∧ Below w.heap.size w w' := by
  obtain ⟨x, hx⟩ : ∃ x, x = ratioR n h := ⟨_, rfl⟩
  obtain ⟨y, hy⟩ : ∃ y, y = quarterR n h := ⟨_, rfl⟩
  have c := fun b w lb => rapply_any b n h w hn hh lb
  have e := quarter_min n h
  rw [← hx] at c e
  rw [← hy] at e ⊢
  clear hx hy
  go_enter Try.func37, Try.ntmps37
  go_wp2_with (first | (go_at_call 50; refine (rrules_lies _).mono ?_; rintro e w1 ⟨rfl, s1, l1, k0, k1, k2, k3, k4, k5, k6, k7, k9⟩) | (go_at_call 49; refine (c _ _ l1 k0 k1 k2 k3 k4 k5 k6 k7 k9).mono ?_; rintro e w2 ⟨rfl, b2⟩))
  all_goals go_ret
  · refine ⟨?_, s1.trans (b2.mono s1.size)⟩
    rw [show y = 1291 by omega]; rfl
  · refine ⟨?_, s1.trans (b2.mono s1.size)⟩
    rw [show y = x by omega]; rfl
theorem b_of_any (n h : Int) (w : World) (hn : b_inR n) (hh : b_inR h) :
    Calls Try.prog 22 #[.int .i64 n, .int .i64 h] w fun e w' => e = .returned (.int .i64 (ofR n h)) ∧ Below w.heap.size w w' := by
  unfold ofR
  go_enter Try.func22, Try.ntmps22
  go_wp2_with (first | (go_at_call 37; refine (quarter_any n h _ hn hh).mono ?_; rintro e w1 ⟨rfl, b1⟩) | (go_at_call 36; refine (cube_any _ _).mono ?_; rintro e w2 ⟨rfl, b2⟩))
  go_ret
  exact ⟨rfl, b1.trans (b2.mono b1.size)⟩
/-! ### The document's answers -/
theorem rcube_any (r : Int) (w : World) :
    Calls Try.prog 38 #[.int .i64 r] w fun e w' => e = .returned (.int .i64 (cubeR r)) ∧ w' = w := by
  by_cases h1 : 1290 < r
  · rw [show cubeR r = 10000 by unfold cubeR; rw [if_pos h1]]
    go_enter Try.func38, Try.ntmps38
    go_wp2
    go_ret
    exact ⟨rfl, rfl⟩
  · by_cases h2 : r < 1
    · rw [show cubeR r = 0 by unfold cubeR; rw [if_neg h1, if_pos h2]]
      go_enter Try.func38, Try.ntmps38
      go_wp2
      go_ret
      exact ⟨rfl, rfl⟩
    · rw [← cube_mid r (by omega) (by omega)]
      go_enter Try.func38, Try.ntmps38
      go_wp2
      go_ret
      exact ⟨rfl, rfl⟩
theorem rquarter_0 (n h : Int) (w : World) (h1 : n < 1) : Calls Try.prog 39 #[.int .i64 n, .int .i64 h] w fun e w' => e = .returned (.int .i64 0) ∧ w' = w := by
  go_enter Try.func39, Try.ntmps39
  go_wp2
  go_ret
  exact ⟨rfl, rfl⟩
theorem rquarter_1 (n h : Int) (w : World) (h1 : 1 ≤ n) (h2 : h < 1) : Calls Try.prog 39 #[.int .i64 n, .int .i64 h] w fun e w' => e = .returned (.int .i64 1291) ∧ w' = w := by
  go_enter Try.func39, Try.ntmps39
  go_wp2
  go_ret
  exact ⟨rfl, rfl⟩
theorem rquarter_2h (n h : Int) (w : World) (h1 : 1 ≤ n) (h2 : 1 ≤ h) (h3 : n ≤ 7230584) (hy : 1290 < 297 * n / h) :
    Calls Try.prog 39 #[.int .i64 n, .int .i64 h] w fun e w' => e = .returned (.int .i64 1291) ∧ w' = w := by
  go_enter Try.func39, Try.ntmps39
  go_wp2
  go_ret
  exact ⟨rfl, rfl⟩
theorem rquarter_2l (n h : Int) (w : World) (h1 : 1 ≤ n) (h2 : 1 ≤ h) (h3 : n ≤ 7230584) (hy : 297 * n / h ≤ 1290) :
    Calls Try.prog 39 #[.int .i64 n, .int .i64 h] w fun e w' => e = .returned (.int .i64 (297 * n / h)) ∧ w' = w := by
  go_enter Try.func39, Try.ntmps39
  go_wp2
  go_ret
  exact ⟨rfl, rfl⟩
theorem rquarter_3h (n h d x : Int) (w : World) (h1 : 7230584 < n) (h2 : 1 ≤ h) (h3 : 1663497 ≤ h) (hd : wrap64 (h.tdiv 297) = d) (hz : 1 ≤ d) (hx : wrap64 (n.tdiv d) = x) (hy : 1290 < x) :
    Calls Try.prog 39 #[.int .i64 n, .int .i64 h] w fun e w' => e = .returned (.int .i64 1291) ∧ w' = w := by
  go_enter Try.func39, Try.ntmps39
  go_wp2
  go_ret
  exact ⟨rfl, rfl⟩
theorem rquarter_3l (n h d x : Int) (w : World) (h1 : 7230584 < n) (h2 : 1 ≤ h) (h3 : 1663497 ≤ h) (hd : wrap64 (h.tdiv 297) = d) (hz : 1 ≤ d) (hx : wrap64 (n.tdiv d) = x) (hy : x ≤ 1290) :
    Calls Try.prog 39 #[.int .i64 n, .int .i64 h] w fun e w' => e = .returned (.int .i64 x) ∧ w' = w := by
  subst hx
  go_enter Try.func39, Try.ntmps39
  go_wp2
  go_ret
  exact ⟨rfl, rfl⟩
theorem rquarter_4 (n h : Int) (w : World) (h1 : 7230584 < n) (h2 : 1 ≤ h) (h3 : h < 1663497) : Calls Try.prog 39 #[.int .i64 n, .int .i64 h] w fun e w' => e = .returned (.int .i64 1291) ∧ w' = w := by
  go_enter Try.func39, Try.ntmps39
  go_wp2
  go_ret
  exact ⟨rfl, rfl⟩
theorem rquarter_any (n h : Int) (w : World) (hn : b_inR n) (hh : b_inR h) :
    Calls Try.prog 39 #[.int .i64 n, .int .i64 h] w fun e w' => e = .returned (.int .i64 (quarterR n h)) ∧ w' = w := by
  obtain ⟨n1, n2⟩ := hn
  obtain ⟨m1, m2⟩ := hh
  by_cases h1 : n < 1
  · have e : ratioR n h = 0 := by unfold ratioR; rw [if_pos h1]
    rw [show quarterR n h = 0 by unfold quarterR; rw [e]; rfl]
    exact rquarter_0 n h w h1
  · by_cases h2 : h < 1
    · have e : ratioR n h = 1291 := by unfold ratioR; rw [if_neg h1, if_pos h2]
      rw [show quarterR n h = 1291 by unfold quarterR; rw [e]; rfl]
      exact rquarter_1 n h w (by omega) h2
    · by_cases h3 : n ≤ 7230584
      · have hx : ratioR n h = 297 * n / h := by unfold ratioR; rw [if_neg h1, if_neg h2, if_pos h3]
        unfold quarterR
        rw [hx]
        split
        · exact rquarter_2h n h w (by omega) (by omega) h3 (by assumption)
        · exact rquarter_2l n h w (by omega) (by omega) h3 (by omega)
      · by_cases h4 : 1663497 ≤ h
        · have hx := ratio_big n h (by omega) n2 h4 m2
          have hz : 1 ≤ wrap64 (h.tdiv 297) := by
            rw [Int.tdiv_eq_ediv_of_nonneg (by omega), w64 (h / 297) (by omega) (by omega)]; omega
          unfold quarterR
          split
          · exact rquarter_3h n h _ _ w (by omega) (by omega) h4 rfl hz hx (by assumption)
          · exact rquarter_3l n h _ _ w (by omega) (by omega) h4 rfl hz hx (by omega)
        · have e : ratioR n h = n := by unfold ratioR; rw [if_neg h1, if_neg h2, if_neg h3, if_neg h4]
          rw [show quarterR n h = 1291 by unfold quarterR; rw [e, if_pos (by omega)]]
          exact rquarter_4 n h w (by omega) (by omega) (by omega)
theorem b_rof_any (n h : Int) (w : World) (hn : b_inR n) (hh : b_inR h) :
    Calls Try.prog 24 #[.int .i64 n, .int .i64 h] w fun e w' => e = .returned (.int .i64 (ofR n h)) ∧ w' = w := by
  unfold ofR
  go_enter Try.func24, Try.ntmps24
  go_wp2_with (first | (go_at_call 39; refine (rquarter_any n h _ hn hh).mono ?_; rintro e w1 ⟨rfl, rfl⟩) | (go_at_call 38; refine (rcube_any _ _).mono ?_; rintro e w2 ⟨rfl, rfl⟩))
  go_ret
  exact ⟨rfl, rfl⟩
end Go.Proofs.Ytojphpncidjdiaa
