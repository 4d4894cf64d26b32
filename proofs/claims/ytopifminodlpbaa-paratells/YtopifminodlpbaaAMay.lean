/- May of package vlist, and what it searches for: firm, must. -/
import Derived.Test.YtopifminodlpbaaAPos
namespace Go.Proofs.Ytopifminodlpbaa
open Go.RowKit
set_option maxRecDepth 20000
set_option linter.unusedVariables false
set_option linter.unusedSimpArgs false

theorem hasV_iff {l : List I7} {n : Int} : hasV l n = true ↔ 0 ≤ n ∧ n < l.length := by simp [hasV]
/-- Whether the list may break there. -/
theorem vmay_any (v : Value) (l : List I7) (n : Int) (w : World) (h : VAt w v l) (hl : l.length ≤ 1000000) :
    Calls Try.prog 21 #[v, .int .i64 n] w fun e w' => e = .returned (.bool (mayV l n)) ∧ Below w.heap.size w w' := by
  unfold mayV
  by_cases h0 : n < 1
  · rw [if_pos h0]
    clear h
    go_enter Try.func21, Try.ntmps21
    go_wp2
    go_ret
    exact ⟨rfl, Below.refl _ _⟩
  · rw [if_neg h0]
    have c := vat_any v l n w h hl
    by_cases h1 : n < l.length
    · rw [if_pos h1]
      have e := hasV_yes (l := l) (n := n) (by omega) h1
      rw [e] at c
      by_cases k2 : (atV l n).k = 2
      · rw [if_pos k2]
        obtain ⟨m, rfl⟩ : ∃ m : Nat, n = (m : Int) + 1 := ⟨(n - 1).toNat, by omega⟩
        have hm : m < l.length := by omega
        have em : (m : Int) + 1 - 1 = m := by omega
        rcases h with ⟨_, rfl⟩ | ⟨p, a, cap, rfl, g2, g3, g4, g5⟩
        · simp at hm
        rw [em, atV_in hm]
        have d := fun w' => loose_any (l.getD m zeroI) w'
        have H5 := Lib.hid g5
        have H2 := Lib.hid g2
        generalize looseI (l.getD m zeroI) = z at *
        obtain ⟨y, hy⟩ : ∃ y, y = l.getD m zeroI := ⟨_, rfl⟩
        rw [← hy] at d
        have HY := Lib.hid hy
        clear hy g5 g2 e
        generalize atV l ((m : Int) + 1) = x at *
        obtain ⟨x0, x1, x2, x3, x4, x5, x6⟩ := x
        obtain ⟨y0, y1, y2, y3, y4, y5, y6⟩ := y
        unfold itm at c d
        dsimp only at c d k2
        subst k2
        go_enter Try.func21, Try.ntmps21
        go_wp2_with fail
        refine c.mono ?_
        rintro e w1 ⟨rfl, b1⟩
        clear c
        have b1' := b1.alloc b1.size (.cells #[.int .i64 2, .int .i64 x1, .int .i64 x2, .int .i64 x3, .int .i64 x4, .int .i64 x5, .int .i64 x6] 28)
        obtain ⟨b, off, rfl, hB, d0, d1, d2, d3, d4, d5, d6⟩ := (H5.out.carry b1').item hm
        rw [← HY.out] at d0 d1 d2 d3 d4 d5 d6
        dsimp only at d0 d1 d2 d3 d4 d5 d6
        have B0 := H2.out.old b1'
        have hp := B0.lt
        have q0 := B0.cell 0
        simp only [List.getElem?_toArray, List.getElem?_cons_zero] at q0
        clear B0 H5 H2 HY
        go_wp2_with fail
        refine (d _).mono ?_
        rintro e w2 ⟨rfl, b2⟩
        replace b2 := tstep b1' b2 b1'.size
        clear d
        go_wp2
        go_ret
        exact ⟨rfl, b2⟩
      · rw [if_neg k2]
        clear h e
        by_cases k3 : (atV l n).k = 3
        · rw [if_pos k3]
          have d := fun w' => forbids_any (atV l n) w'
          generalize forbidsI (atV l n) = z at *
          generalize atV l n = x at *
          obtain ⟨x0, x1, x2, x3, x4, x5, x6⟩ := x
          unfold itm at c d
          dsimp only at c d k2 k3
          subst k3
          go_enter Try.func21, Try.ntmps21
          go_wp2_with fail
          refine c.mono ?_
          rintro e w1 ⟨rfl, b1⟩
          clear c
          go_wp2_with fail
          refine (d _).mono ?_
          rintro e w2 ⟨rfl, b2⟩
          replace b2 := tstep (b1.alloc b1.size _) b2 (b1.alloc b1.size _).size
          clear d
          go_wp2
          go_ret
          exact ⟨rfl, b2⟩
        · rw [if_neg k3]
          generalize atV l n = x at *
          obtain ⟨x0, x1, x2, x3, x4, x5, x6⟩ := x
          unfold itm at c
          dsimp only at c k2 k3
          have f2 : (x0 == 2) = false := by simpa using k2
          have f3 : (x0 == 3) = false := by simpa using k3
          go_enter Try.func21, Try.ntmps21
          go_wp2_with fail
          refine c.mono ?_
          rintro e w1 ⟨rfl, b1⟩
          clear c
          go_wp2
          go_ret
          exact ⟨rfl, b1.alloc b1.size _⟩
    · rw [if_neg h1]
      have e := hasV_no (l := l) (n := n) (.inr (by omega))
      rw [e] at c
      have d := fun w' (hb : Below w.heap.size w w') => vlen_any v l w' (h.carry hb)
      have f : (n == (l.length : Int)) = decide (n = (l.length : Int)) := by
        by_cases h : n = (l.length : Int) <;> simp [h]
      clear h e
      generalize atV l n = x at *
      obtain ⟨x0, x1, x2, x3, x4, x5, x6⟩ := x
      unfold itm at c
      dsimp only at c
      generalize decide (n = (l.length : Int)) = q at *
      go_enter Try.func21, Try.ntmps21
      go_wp2_with fail
      refine c.mono ?_
      rintro e w1 ⟨rfl, b1⟩
      clear c
      go_wp2_with fail
      refine (d _ (b1.alloc b1.size _)).mono ?_
      rintro e w2 ⟨rfl, rfl⟩
      clear d
      go_wp2
      go_ret
      exact ⟨by first | rfl | (rw [f]; done), b1.alloc b1.size _⟩
end Go.Proofs.Ytopifminodlpbaa
