/- The walks of gset.badness, gset.Bad and of the document's Bad. -/
import Derived.Test.YtojphpncidjdiaaGBase
import Derived.Test.YtojphpncidjdiaaBOf
namespace Go.Proofs.Ytojphpncidjdiaa
open Go.RowKit
set_option maxRecDepth 20000
set_option linter.unusedVariables false
set_option linter.unusedSimpArgs false

theorem badness_any (need has more : Int) (w : World) (hn : inR need) (hh : -9223372036854775808 ≤ has) (hh' : has ≤ 1152921504606846976) (h0 : 0 ≤ more) (h1 : more ≤ 1125899906842624) :
    Calls Try.prog 23 #[.int .i64 need, .int .i64 has, .int .i64 more] w fun e w' => e = .returned (.int .i64 (ofR need (has + more))) ∧ Below w.heap.size w w' := by
  have c := fun w => b_of_any need (has + more) w hn ⟨by omega, by omega⟩
  obtain ⟨x, hx⟩ : ∃ x, x = has + more := ⟨_, rfl⟩
  obtain ⟨y, hy⟩ : ∃ y, y = 9223372036854775807 - more := ⟨_, rfl⟩
  have e1 : wrap64 (9223372036854775807 - more) = y := by rw [hy]; unfold wrap64; omega
  have e2 : wrap64 (has + more) = x := by rw [hx]; unfold wrap64; omega
  have l1 : has ≤ y := by omega
  rw [← hx] at c ⊢
  clear hx hy hn hh hh' h0 h1
  go_enter Try.func23, Try.ntmps23
  go_wp2_with (with_reducible refine (c _).mono ?_; rintro e w1 ⟨rfl, b1⟩)
  go_ret
  exact ⟨rfl, b1⟩
/-- What max and min make of the spare. -/
def Clamp (x m : Int) : Prop := (x < 0 ∧ m = 0) ∨ (x = 0 ∧ m = 0) ∨ (1 ≤ x ∧ x < 1125899906842624 ∧ m = x) ∨ (x = 1125899906842624 ∧ m = 1125899906842624) ∨ (1125899906842624 < x ∧ m = 1125899906842624)
theorem clamp (x : Int) : Clamp x (spareG x) := by
  unfold Clamp spareG
  split
  · omega
  · split <;> omega
theorem bad_0 (how ord bye off left spare m : Int) (last : Bool) (w : World) (hc : Clamp spare m) (hh : how = 0) (hl : (left == 0) = true ∨ ((left == 0) = false ∧ last = true)) :
    Calls Try.prog 12 #[.agg #[.int .i64 how, .int .i64 ord, .int .i64 bye, .int .i64 off, .int .i64 left], .int .i64 spare, .bool last] w fun e w' => e = .returned (.int .i64 0) ∧ Below w.heap.size w w' := by
  subst hh
  rcases hc with ⟨h1, rfl⟩ | ⟨rfl, rfl⟩ | ⟨h1, h2, rfl⟩ | ⟨rfl, rfl⟩ | ⟨h1, rfl⟩ <;> rcases hl with hl | ⟨hl, rfl⟩
  all_goals
    go_enter Try.func12, Try.ntmps12
    go_wp2
    go_ret
    exact ⟨rfl, tbel1 w _⟩
theorem bad_0n (how ord bye off left spare m : Int) (last : Bool) (w : World) (hc : Clamp spare m) (hh : how = 0) (hl : (left == 0) = false) (hs : last = false) (c : ∀ w, Calls Try.prog 22 #[.int .i64 left, .int .i64 m] w fun e w' => e = .returned (.int .i64 (ofR left m)) ∧ Below w.heap.size w w') :
    Calls Try.prog 12 #[.agg #[.int .i64 how, .int .i64 ord, .int .i64 bye, .int .i64 off, .int .i64 left], .int .i64 spare, .bool last] w fun e w' => e = .returned (.int .i64 (ofR left m)) ∧ Below w.heap.size w w' := by
  subst hh
  subst hs
  rcases hc with ⟨h1, rfl⟩ | ⟨rfl, rfl⟩ | ⟨h1, h2, rfl⟩ | ⟨rfl, rfl⟩ | ⟨h1, rfl⟩
  all_goals
    go_enter Try.func12, Try.ntmps12
    go_wp2_with (with_reducible refine (c _).mono ?_; rintro e w1 ⟨rfl, b1⟩)
    go_ret
    exact ⟨rfl, tstep (tbel1 w _) b1 (by simp)⟩
theorem bad_1 (how ord bye off left spare m : Int) (last : Bool) (w : World) (hc : Clamp spare m) (hh : how = 1) (ho : 0 < ord) :
    Calls Try.prog 12 #[.agg #[.int .i64 how, .int .i64 ord, .int .i64 bye, .int .i64 off, .int .i64 left], .int .i64 spare, .bool last] w fun e w' => e = .returned (.int .i64 0) ∧ Below w.heap.size w w' := by
  subst hh
  rcases hc with ⟨h1, rfl⟩ | ⟨rfl, rfl⟩ | ⟨h1, h2, rfl⟩ | ⟨rfl, rfl⟩ | ⟨h1, rfl⟩
  all_goals
    go_enter Try.func12, Try.ntmps12
    go_wp2
    go_ret
    exact ⟨rfl, tbel1 w _⟩
theorem bad_1n (how ord bye off left spare m : Int) (last : Bool) (w : World) (hc : Clamp spare m) (x : Int) (hh : how = 1) (ho : ord ≤ 0) (c : ∀ w, Calls Try.prog 23 #[.int .i64 bye, .int .i64 off, .int .i64 m] w fun e w' => e = .returned (.int .i64 x) ∧ Below w.heap.size w w') :
    Calls Try.prog 12 #[.agg #[.int .i64 how, .int .i64 ord, .int .i64 bye, .int .i64 off, .int .i64 left], .int .i64 spare, .bool last] w fun e w' => e = .returned (.int .i64 x) ∧ Below w.heap.size w w' := by
  subst hh
  rcases hc with ⟨h1, rfl⟩ | ⟨rfl, rfl⟩ | ⟨h1, h2, rfl⟩ | ⟨rfl, rfl⟩ | ⟨h1, rfl⟩
  all_goals
    go_enter Try.func12, Try.ntmps12
    go_wp2_with (with_reducible refine (c _).mono ?_; rintro e w1 ⟨rfl, b1⟩)
    go_ret
    exact ⟨rfl, tstep (tbel1 w _) b1 (by simp)⟩
theorem bad_2 (how ord bye off left spare m : Int) (last : Bool) (w : World) (hc : Clamp spare m) (x : Int) (hh : how = 2) (c : ∀ w, Calls Try.prog 23 #[.int .i64 bye, .int .i64 off, .int .i64 0] w fun e w' => e = .returned (.int .i64 x) ∧ Below w.heap.size w w') :
    Calls Try.prog 12 #[.agg #[.int .i64 how, .int .i64 ord, .int .i64 bye, .int .i64 off, .int .i64 left], .int .i64 spare, .bool last] w fun e w' => e = .returned (.int .i64 x) ∧ Below w.heap.size w w' := by
  subst hh
  rcases hc with ⟨h1, rfl⟩ | ⟨rfl, rfl⟩ | ⟨h1, h2, rfl⟩ | ⟨rfl, rfl⟩ | ⟨h1, rfl⟩
  all_goals
    go_enter Try.func12, Try.ntmps12
    go_wp2_with (with_reducible refine (c _).mono ?_; rintro e w1 ⟨rfl, b1⟩)
    go_ret
    exact ⟨rfl, tstep (tbel1 w _) b1 (by simp)⟩
theorem bad_3 (how ord bye off left spare m : Int) (last : Bool) (w : World) (hc : Clamp spare m) (d0 : (how == 0) = false) (d1 : (how == 1) = false) (d2 : (how == 2) = false) :
    Calls Try.prog 12 #[.agg #[.int .i64 how, .int .i64 ord, .int .i64 bye, .int .i64 off, .int .i64 left], .int .i64 spare, .bool last] w fun e w' => e = .returned (.int .i64 10000) ∧ Below w.heap.size w w' := by
  rcases hc with ⟨h1, rfl⟩ | ⟨rfl, rfl⟩ | ⟨h1, h2, rfl⟩ | ⟨rfl, rfl⟩ | ⟨h1, rfl⟩
  all_goals
    go_enter Try.func12, Try.ntmps12
    go_wp2
    go_ret
    exact ⟨rfl, tbel1 w _⟩
theorem rbad_0 (how ord bye off left spare m : Int) (last : Bool) (w : World) (hc : Clamp spare m) (hh : how = 0) (hl : (left == 0) = true) :
    Calls Try.prog 13 #[.agg #[.int .i64 how, .int .i64 ord, .int .i64 bye, .int .i64 off, .int .i64 left], .int .i64 spare, .bool last] w fun e w' => e = .returned (.int .i64 0) ∧ Below w.heap.size w w' := by
  subst hh
  rcases hc with ⟨h1, rfl⟩ | ⟨rfl, rfl⟩ | ⟨h1, h2, rfl⟩ | ⟨rfl, rfl⟩ | ⟨h1, rfl⟩
  all_goals
    go_enter Try.func13, Try.ntmps13
    go_wp2
    go_ret
    exact ⟨rfl, tbel1 w _⟩
theorem rbad_0l (how ord bye off left spare m : Int) (last : Bool) (w : World) (hc : Clamp spare m) (hh : how = 0) (hl : (left == 0) = false) (hs : last = true) :
    Calls Try.prog 13 #[.agg #[.int .i64 how, .int .i64 ord, .int .i64 bye, .int .i64 off, .int .i64 left], .int .i64 spare, .bool last] w fun e w' => e = .returned (.int .i64 0) ∧ Below w.heap.size w w' := by
  subst hh
  subst hs
  rcases hc with ⟨h1, rfl⟩ | ⟨rfl, rfl⟩ | ⟨h1, h2, rfl⟩ | ⟨rfl, rfl⟩ | ⟨h1, rfl⟩
  all_goals
    go_enter Try.func13, Try.ntmps13
    go_wp2
    go_ret
    exact ⟨rfl, tbel1 w _⟩
theorem rbad_0n (how ord bye off left spare m : Int) (last : Bool) (w : World) (hc : Clamp spare m) (hh : how = 0) (hl : (left == 0) = false) (hs : last = false) (c : ∀ w, Calls Try.prog 24 #[.int .i64 left, .int .i64 m] w fun e w' => e = .returned (.int .i64 (ofR left m)) ∧ w' = w) :
    Calls Try.prog 13 #[.agg #[.int .i64 how, .int .i64 ord, .int .i64 bye, .int .i64 off, .int .i64 left], .int .i64 spare, .bool last] w fun e w' => e = .returned (.int .i64 (ofR left m)) ∧ Below w.heap.size w w' := by
  subst hh
  subst hs
  rcases hc with ⟨h1, rfl⟩ | ⟨rfl, rfl⟩ | ⟨h1, h2, rfl⟩ | ⟨rfl, rfl⟩ | ⟨h1, rfl⟩
  all_goals
    go_enter Try.func13, Try.ntmps13
    go_wp2_with (with_reducible refine (c _).mono ?_; rintro e w1 ⟨rfl, rfl⟩)
    go_ret
    exact ⟨rfl, tbel1 w _⟩
theorem rbad_1 (how ord bye off left spare m : Int) (last : Bool) (w : World) (hc : Clamp spare m) (hh : how = 1) (ho : 0 < ord) :
    Calls Try.prog 13 #[.agg #[.int .i64 how, .int .i64 ord, .int .i64 bye, .int .i64 off, .int .i64 left], .int .i64 spare, .bool last] w fun e w' => e = .returned (.int .i64 0) ∧ Below w.heap.size w w' := by
  subst hh
  rcases hc with ⟨h1, rfl⟩ | ⟨rfl, rfl⟩ | ⟨h1, h2, rfl⟩ | ⟨rfl, rfl⟩ | ⟨h1, rfl⟩
  all_goals
    go_enter Try.func13, Try.ntmps13
    go_wp2
    go_ret
    exact ⟨rfl, tbel1 w _⟩
theorem rbad_1n (how ord bye off left spare m : Int) (last : Bool) (w : World) (hc : Clamp spare m) (y : Int) (hh : how = 1) (ho : ord ≤ 0) (hy : wrap64 (off + m) = y) (c : ∀ w, Calls Try.prog 24 #[.int .i64 bye, .int .i64 y] w fun e w' => e = .returned (.int .i64 (ofR bye y)) ∧ w' = w) :
    Calls Try.prog 13 #[.agg #[.int .i64 how, .int .i64 ord, .int .i64 bye, .int .i64 off, .int .i64 left], .int .i64 spare, .bool last] w fun e w' => e = .returned (.int .i64 (ofR bye y)) ∧ Below w.heap.size w w' := by
  subst hh
  rcases hc with ⟨h1, rfl⟩ | ⟨rfl, rfl⟩ | ⟨h1, h2, rfl⟩ | ⟨rfl, rfl⟩ | ⟨h1, rfl⟩
  all_goals (try rw [Int.add_zero] at hy)
  all_goals
    go_enter Try.func13, Try.ntmps13
    go_wp2_with (with_reducible refine (c _).mono ?_; rintro e w1 ⟨rfl, rfl⟩)
    go_ret
    exact ⟨rfl, tbel1 w _⟩
theorem rbad_2 (how ord bye off left spare m : Int) (last : Bool) (w : World) (hc : Clamp spare m) (hh : how = 2) (c : ∀ w, Calls Try.prog 24 #[.int .i64 bye, .int .i64 off] w fun e w' => e = .returned (.int .i64 (ofR bye off)) ∧ w' = w) :
    Calls Try.prog 13 #[.agg #[.int .i64 how, .int .i64 ord, .int .i64 bye, .int .i64 off, .int .i64 left], .int .i64 spare, .bool last] w fun e w' => e = .returned (.int .i64 (ofR bye off)) ∧ Below w.heap.size w w' := by
  subst hh
  rcases hc with ⟨h1, rfl⟩ | ⟨rfl, rfl⟩ | ⟨h1, h2, rfl⟩ | ⟨rfl, rfl⟩ | ⟨h1, rfl⟩
  all_goals
    go_enter Try.func13, Try.ntmps13
    go_wp2_with (with_reducible refine (c _).mono ?_; rintro e w1 ⟨rfl, rfl⟩)
    go_ret
    exact ⟨rfl, tbel1 w _⟩
theorem rbad_3 (how ord bye off left spare m : Int) (last : Bool) (w : World) (hc : Clamp spare m) (d0 : (how == 0) = false) (d1 : (how == 1) = false) (d2 : (how == 2) = false) :
    Calls Try.prog 13 #[.agg #[.int .i64 how, .int .i64 ord, .int .i64 bye, .int .i64 off, .int .i64 left], .int .i64 spare, .bool last] w fun e w' => e = .returned (.int .i64 10000) ∧ Below w.heap.size w w' := by
  rcases hc with ⟨h1, rfl⟩ | ⟨rfl, rfl⟩ | ⟨h1, h2, rfl⟩ | ⟨rfl, rfl⟩ | ⟨h1, rfl⟩
  all_goals
    go_enter Try.func13, Try.ntmps13
    go_wp2
    go_ret
    exact ⟨rfl, tbel1 w _⟩
theorem inR_b {x : Int} (h : inR x) : b_inR x := h
theorem spare_in (x : Int) : b_inR (spareG x) := by have := spareG_bd x; unfold b_inR; omega
theorem bad_any (s : S5) (spare : Int) (last : Bool) (w : World) (hs : inS s) (ho : s.off ≤ 1152921504606846976) :
    Calls Try.prog 12 #[stg s, .int .i64 spare, .bool last] w fun e w' => e = .returned (.int .i64 (badG s spare last)) ∧ Below w.heap.size w w' := by
  obtain ⟨how, ord, bye, off, left⟩ := s
  obtain ⟨_, _, hb, hf, hl⟩ := hs
  unfold stg badG
  dsimp only at *
  have hc := clamp spare
  have bd := spareG_bd spare
  by_cases h0 : how = 0
  · rw [if_pos h0]
    by_cases hz : left = 0
    · rw [if_pos (.inl hz)]
      exact bad_0 how ord bye off left spare _ last w hc h0 (.inl (by simpa using hz))
    · cases last
      · rw [if_neg (by simp [hz])]
        exact bad_0n how ord bye off left spare _ false w hc h0 (by simpa using hz) rfl (fun w => b_of_any left _ w hl (spare_in _))
      · rw [if_pos (.inr rfl)]
        exact bad_0 how ord bye off left spare _ true w hc h0 (.inr ⟨by simpa using hz, rfl⟩)
  · rw [if_neg h0]
    by_cases h1 : how = 1
    · rw [if_pos h1]
      by_cases hord : 0 < ord
      · rw [if_pos hord]
        exact bad_1 how ord bye off left spare _ last w hc h1 hord
      · rw [if_neg hord]
        exact bad_1n how ord bye off left spare _ last w hc _ h1 (by omega) (fun w => badness_any bye off _ w hb hf.1 ho bd.1 bd.2)
    · rw [if_neg h1]
      by_cases h2 : how = 2
      · rw [if_pos h2]
        refine bad_2 how ord bye off left spare _ last w hc _ h2 (fun w => ?_)
        have := badness_any bye off 0 w hb hf.1 ho (by omega) (by omega)
        rwa [Int.add_zero] at this
      · rw [if_neg h2]
        exact bad_3 how ord bye off left spare _ last w hc (by simpa using h0) (by simpa using h1) (by simpa using h2)
theorem rbad_any (s : S5) (spare : Int) (last : Bool) (w : World) (hs : inS s) (ho : s.off ≤ 1152921504606846976) :
    Calls Try.prog 13 #[stg s, .int .i64 spare, .bool last] w fun e w' => e = .returned (.int .i64 (badG s spare last)) ∧ Below w.heap.size w w' := by
  obtain ⟨how, ord, bye, off, left⟩ := s
  obtain ⟨_, _, hb, hf, hl⟩ := hs
  unfold stg badG
  dsimp only at *
  have hc := clamp spare
  have bd := spareG_bd spare
  by_cases h0 : how = 0
  · rw [if_pos h0]
    by_cases hz : left = 0
    · rw [if_pos (.inl hz)]
      exact rbad_0 how ord bye off left spare _ last w hc h0 (by simpa using hz)
    · cases last
      · rw [if_neg (by simp [hz])]
        exact rbad_0n how ord bye off left spare _ false w hc h0 (by simpa using hz) rfl (fun w => b_rof_any left _ w hl (spare_in _))
      · rw [if_pos (.inr rfl)]
        exact rbad_0l how ord bye off left spare _ true w hc h0 (by simpa using hz) rfl
  · rw [if_neg h0]
    by_cases h1 : how = 1
    · rw [if_pos h1]
      by_cases hord : 0 < ord
      · rw [if_pos hord]
        exact rbad_1 how ord bye off left spare _ last w hc h1 hord
      · rw [if_neg hord]
        have hf' := hf.1
        exact rbad_1n how ord bye off left spare _ last w hc _ h1 (by omega) (by unfold wrap64; omega) (fun w => b_rof_any bye _ w hb ⟨by omega, by omega⟩)
    · rw [if_neg h1]
      by_cases h2 : how = 2
      · rw [if_pos h2]
        exact rbad_2 how ord bye off left spare _ last w hc h2 (fun w => b_rof_any bye _ w hb hf)
      · rw [if_neg h2]
        exact rbad_3 how ord bye off left spare _ last w hc (by simpa using h0) (by simpa using h1) (by simpa using h2)
end Go.Proofs.Ytojphpncidjdiaa
