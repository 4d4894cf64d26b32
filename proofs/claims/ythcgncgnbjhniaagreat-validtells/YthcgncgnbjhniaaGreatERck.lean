/- The document's Check of a geometry. -/
import Derived.Test.YthcgncgnbjhniaaGreatEChk
namespace Go.Proofs.YthcgncgnbjhniaaGreat
open Go.RowKit
set_option maxRecDepth 20000
set_option linter.unusedVariables false
set_option linter.unusedSimpArgs false

def oneL (g : G19) : List Int := [g.wide, g.high, g.first]
def noughtL (g : G19) : List Int := [g.gap, g.rule, g.sep, g.nmost, g.tmost, g.bmost, g.grid]
def manyL (g : G19) : List Int := [g.tmany, g.bmany, g.club, g.widow, g.split, g.later, g.spare]
theorem one_at (g : G19) (j : Nat) (hj : j < 3) : (#[.int .i64 g.wide, .int .i64 g.high, .int .i64 g.first] : Array Value)[j]? = some (.int .i64 ((oneL g).getD j 0)) := by
  have : j = 0 ∨ j = 1 ∨ j = 2 := by omega
  rcases this with rfl | rfl | rfl <;> rfl
theorem nought_at (g : G19) (j : Nat) (hj : j < 7) : (#[.int .i64 g.gap, .int .i64 g.rule, .int .i64 g.sep, .int .i64 g.nmost, .int .i64 g.tmost, .int .i64 g.bmost, .int .i64 g.grid] : Array Value)[j]? = some (.int .i64 ((noughtL g).getD j 0)) := by
  have : j = 0 ∨ j = 1 ∨ j = 2 ∨ j = 3 ∨ j = 4 ∨ j = 5 ∨ j = 6 := by omega
  rcases this with rfl | rfl | rfl | rfl | rfl | rfl | rfl <;> rfl
theorem many_at (g : G19) (j : Nat) (hj : j < 7) : (#[.int .i64 g.tmany, .int .i64 g.bmany, .int .i64 g.club, .int .i64 g.widow, .int .i64 g.split, .int .i64 g.later, .int .i64 g.spare] : Array Value)[j]? = some (.int .i64 ((manyL g).getD j 0)) := by
  have : j = 0 ∨ j = 1 ∨ j = 2 ∨ j = 3 ∨ j = 4 ∨ j = 5 ∨ j = 6 := by omega
  rcases this with rfl | rfl | rfl | rfl | rfl | rfl | rfl <;> rfl
def fitOne (g : G19) (k : Nat) : Prop := 1 ≤ (oneL g).getD k 0 ∧ (oneL g).getD k 0 ≤ 1073741823
def fitNought (g : G19) (k : Nat) : Prop := 0 ≤ (noughtL g).getD k 0 ∧ (noughtL g).getD k 0 ≤ 1073741823
def fitMany (g : G19) (k : Nat) : Prop := 0 ≤ (manyL g).getD k 0 ∧ (manyL g).getD k 0 ≤ 1048576 ∧ (k < 2 → (manyL g).getD k 0 ≤ 4)
def fitLast (g : G19) : Prop := g.first ≤ g.high ∧ g.grid ≤ g.first ∧ g.grid ≤ 536870912 ∧ g.rule ≤ 536870912 ∧ g.sep ≤ 536870912
theorem fit_all (g : G19) (h1 : ∀ k, k < 3 → fitOne g k) (h2 : ∀ k, k < 7 → fitNought g k) (h3 : ∀ k, k < 7 → fitMany g k) (h4 : fitLast g) : fitsE g 17 = true := by
  rw [fitsE_iff]
  have a0 := h1 0 (by omega)
  have a1 := h1 1 (by omega)
  have a2 := h1 2 (by omega)
  have b0 := h2 0 (by omega)
  have b1 := h2 1 (by omega)
  have b2 := h2 2 (by omega)
  have b3 := h2 3 (by omega)
  have b4 := h2 4 (by omega)
  have b5 := h2 5 (by omega)
  have b6 := h2 6 (by omega)
  have c0 := h3 0 (by omega)
  have c1 := h3 1 (by omega)
  have c2 := h3 2 (by omega)
  have c3 := h3 3 (by omega)
  have c4 := h3 4 (by omega)
  have c5 := h3 5 (by omega)
  have c6 := h3 6 (by omega)
  simp only [fitOne, fitNought, fitMany, oneL, noughtL, manyL, List.getD_cons_zero, List.getD_cons_succ] at a0 a1 a2 b0 b1 b2 b3 b4 b5 b6 c0 c1 c2 c3 c4 c5 c6
  unfold fitLast at h4
  unfold restE
  omega
theorem fit_each (g : G19) (h : fitsE g 17 = true) : (∀ k, k < 3 → fitOne g k) ∧ (∀ k, k < 7 → fitNought g k) ∧ (∀ k, k < 7 → fitMany g k) ∧ fitLast g := by
  rw [fitsE_iff] at h
  unfold restE at h
  refine ⟨fun k hk => ?_, fun k hk => ?_, fun k hk => ?_, ?_⟩
  · have : k = 0 ∨ k = 1 ∨ k = 2 := by omega
    rcases this with rfl | rfl | rfl <;> simp only [fitOne, oneL, List.getD_cons_zero, List.getD_cons_succ] <;> omega
  · have : k = 0 ∨ k = 1 ∨ k = 2 ∨ k = 3 ∨ k = 4 ∨ k = 5 ∨ k = 6 := by omega
    rcases this with rfl | rfl | rfl | rfl | rfl | rfl | rfl <;> simp only [fitNought, noughtL, List.getD_cons_zero, List.getD_cons_succ] <;> omega
  · have : k = 0 ∨ k = 1 ∨ k = 2 ∨ k = 3 ∨ k = 4 ∨ k = 5 ∨ k = 6 := by omega
    rcases this with rfl | rfl | rfl | rfl | rfl | rfl | rfl <;> simp only [fitMany, manyL, List.getD_cons_zero, List.getD_cons_succ] <;> omega
  · unfold fitLast; omega
theorem no_one {g : G19} {k : Nat} (hk : k < 3) (h : ¬ fitOne g k) : fitsE g 17 = false := by
  rw [← Bool.not_eq_true]; exact fun e => h ((fit_each g e).1 k hk)
theorem no_nought {g : G19} {k : Nat} (hk : k < 7) (h : ¬ fitNought g k) : fitsE g 17 = false := by
  rw [← Bool.not_eq_true]; exact fun e => h ((fit_each g e).2.1 k hk)
theorem no_many {g : G19} {k : Nat} (hk : k < 7) (h : ¬ fitMany g k) : fitsE g 17 = false := by
  rw [← Bool.not_eq_true]; exact fun e => h ((fit_each g e).2.2.1 k hk)
theorem no_last {g : G19} (h : ¬ fitLast g) : fitsE g 17 = false := by
  rw [← Bool.not_eq_true]; exact fun e => h (fit_each g e).2.2.2
theorem up_to {P : Nat → Prop} {j : Nat} (h : ∀ k, k < j → P k) (hj : P j) : ∀ k, k < j + 1 → P k := fun k hk => by
  by_cases e : k = j
  · rw [e]; exact hj
  · exact h k (by omega)
theorem rcheck_cols (g : G19) (w : World) (hn : btwE g.cols 1 8 = false) :
    Calls Tryz.prog 11 #[.agg (geoC g)] w fun e' w' => e' = .returned (.int .i64 6) ∧ Below w.heap.size w w' := by
  have D := geo_new w g
  have b0 := tbel1 w (.cells (geoC g) 24)
  obtain ⟨q0, _⟩ := D.cells
  rw [btwE_not] at hn
  rcases Int.lt_or_le g.cols 1 with h | h
  all_goals
    go_enter Tryz.func11, Tryz.ntmps11
    go_upto_region 1 with (fail)
    generalize w.alloc _ = U at *
    go_wp2
    go_ret
    exact ⟨rfl, b0⟩
set_option maxHeartbeats 4000000 in
theorem rcheck_rest (g : G19) (w : World) (hn : btwE g.cols 1 8 = true) :
    Calls Tryz.prog 11 #[.agg (geoC g)] w fun e' w' => e' = .returned (.int .i64 (bif fitsE g 17 then 0 else 7)) ∧ Below w.heap.size w w' := by
  have D := geo_new w g
  have b0 := tbel1 w (.cells (geoC g) 24)
  obtain ⟨z, hz⟩ : ∃ z, fitsE g 17 = z := ⟨_, rfl⟩
  rw [hz]
  have HZ := Lib.hid hz
  clear hz
  rw [btwE_iff] at hn
  obtain ⟨hn1, hn2⟩ := hn
  have q := D.cells
  go_enter Tryz.func11, Tryz.ntmps11
  go_upto_region 1 with (fail)
  generalize w.alloc _ = U at *
  obtain ⟨q0, q1, q2, q3, q4, q5, q6, q7, q8, q9, q10, q11, q12, q13, q14, q15, q16, q17, q18⟩ := q
  have B1 := blk_new U #[.int .i64 g.wide, .int .i64 g.high, .int .i64 g.first] 67
  have D1 : GeoAt (U.alloc (.cells #[.int .i64 g.wide, .int .i64 g.high, .int .i64 g.first] 67)) w.heap.size g := D.alloc _
  have b1 := tstep b0 (tbel1 U (.cells #[.int .i64 g.wide, .int .i64 g.high, .int .i64 g.first] 67)) b0.size
  go_wp2_with fail
  clear q0 q1 q2 q3 q4 q5 q6 q7 q8 q9 q10 q11 q12 q13 q14 q15 q16 q17 q18 hn1 hn2 D
  generalize U.alloc _ = V at *
  generalize U.heap.size = G1 at *
  go_loopw [4] (fun i wr => wr = V ∧ ∃ j : Nat, j ≤ 3 ∧ i = .int .i64 j ∧ Hid (∀ k, k < j → fitOne g k)) (fun i _ => 3 - (intOf i).toNat)
  case atStart => exact ⟨rfl, 0, Nat.zero_le _, rfl, Lib.hid fun k hk => absurd hk (Nat.not_lt_zero k)⟩
  case round =>
    obtain ⟨hwr, j, hj, rfl, HQ⟩ := hrel
    replace hwr := hwr.symm
    subst hwr
    by_cases hlt : j < 3
    · have q := (B1.cell j).trans (one_at g j hlt)
      have hfit : Hid (fitOne g j ↔ 1 ≤ (oneL g).getD j 0 ∧ (oneL g).getD j 0 ≤ 1073741823) := Lib.hid Iff.rfl
      generalize (oneL g).getD j 0 = n at *
      by_cases h1 : 1 ≤ n
      · by_cases h2 : n ≤ 1073741823
        · have HE : Hid (∀ k, k < j + 1 → fitOne g k) := Lib.hid (up_to HQ.out (hfit.out.2 ⟨h1, h2⟩))
          go_wp2
          go_roundw
          case rel => exact ⟨trivial, j + 1, by omega, by go_num, HE⟩
          case measure => simp [intOf]; omega
        · have HE : Hid (z = false) := Lib.hid (HZ.out.symm.trans (no_one hlt fun h => h2 (hfit.out.1 h).2))
          go_wp2
          go_ret
          exact ⟨by rw [HE.out]; rfl, b1⟩
      · have HE : Hid (z = false) := Lib.hid (HZ.out.symm.trans (no_one hlt fun h => h1 (hfit.out.1 h).1))
        go_wp2
        go_ret
        exact ⟨by rw [HE.out]; rfl, b1⟩
    · have ej : j = 3 := by omega
      subst ej
      rw [show ((3 : Nat) : Int) = (3 : Int) from rfl]
      obtain ⟨q0, q1, q2, q3, q4, q5, q6, q7, q8, q9, q10, q11, q12, q13, q14, q15, q16, q17, q18⟩ := D1.cells
      have B2 := blk_new V #[.int .i64 g.gap, .int .i64 g.rule, .int .i64 g.sep, .int .i64 g.nmost, .int .i64 g.tmost, .int .i64 g.bmost, .int .i64 g.grid] 68
      have D2 : GeoAt (V.alloc (.cells #[.int .i64 g.gap, .int .i64 g.rule, .int .i64 g.sep, .int .i64 g.nmost, .int .i64 g.tmost, .int .i64 g.bmost, .int .i64 g.grid] 68)) w.heap.size g := D1.alloc _
      have b2 := tstep b1 (tbel1 V (.cells #[.int .i64 g.gap, .int .i64 g.rule, .int .i64 g.sep, .int .i64 g.nmost, .int .i64 g.tmost, .int .i64 g.bmost, .int .i64 g.grid] 68)) b1.size
      go_wp2_with fail
      clear q0 q1 q2 q3 q4 q5 q6 q7 q8 q9 q10 q11 q12 q13 q14 q15 q16 q17 q18 D1 B1 b1
      generalize V.alloc _ = V2 at *
      generalize V.heap.size = G2 at *
      go_loopw [6] (fun i wr => wr = V2 ∧ ∃ j : Nat, j ≤ 7 ∧ i = .int .i64 j ∧ Hid (∀ k, k < j → fitNought g k)) (fun i _ => 7 - (intOf i).toNat)
      case atStart => exact ⟨rfl, 0, Nat.zero_le _, rfl, Lib.hid fun k hk => absurd hk (Nat.not_lt_zero k)⟩
      case round =>
        obtain ⟨hwr, j, hj, rfl, HQ2⟩ := hrel
        replace hwr := hwr.symm
        subst hwr
        by_cases hlt : j < 7
        · have q := (B2.cell j).trans (nought_at g j hlt)
          have hfit : Hid (fitNought g j ↔ 0 ≤ (noughtL g).getD j 0 ∧ (noughtL g).getD j 0 ≤ 1073741823) := Lib.hid Iff.rfl
          generalize (noughtL g).getD j 0 = n at *
          by_cases h1 : 0 ≤ n
          · by_cases h2 : n ≤ 1073741823
            · have HE : Hid (∀ k, k < j + 1 → fitNought g k) := Lib.hid (up_to HQ2.out (hfit.out.2 ⟨h1, h2⟩))
              go_wp2
              go_roundw
              case rel => exact ⟨trivial, j + 1, by omega, by go_num, HE⟩
              case measure => simp [intOf]; omega
            · have HE : Hid (z = false) := Lib.hid (HZ.out.symm.trans (no_nought hlt fun h => h2 (hfit.out.1 h).2))
              go_wp2
              go_ret
              exact ⟨by rw [HE.out]; rfl, b2⟩
          · have HE : Hid (z = false) := Lib.hid (HZ.out.symm.trans (no_nought hlt fun h => h1 (hfit.out.1 h).1))
            go_wp2
            go_ret
            exact ⟨by rw [HE.out]; rfl, b2⟩
        · have ej : j = 7 := by omega
          subst ej
          rw [show ((7 : Nat) : Int) = (7 : Int) from rfl]
          obtain ⟨q0, q1, q2, q3, q4, q5, q6, q7, q8, q9, q10, q11, q12, q13, q14, q15, q16, q17, q18⟩ := D2.cells
          have B3 := blk_new V2 #[.int .i64 g.tmany, .int .i64 g.bmany, .int .i64 g.club, .int .i64 g.widow, .int .i64 g.split, .int .i64 g.later, .int .i64 g.spare] 69
          have D3 : GeoAt (V2.alloc (.cells #[.int .i64 g.tmany, .int .i64 g.bmany, .int .i64 g.club, .int .i64 g.widow, .int .i64 g.split, .int .i64 g.later, .int .i64 g.spare] 69)) w.heap.size g := D2.alloc _
          have b3 := tstep b2 (tbel1 V2 (.cells #[.int .i64 g.tmany, .int .i64 g.bmany, .int .i64 g.club, .int .i64 g.widow, .int .i64 g.split, .int .i64 g.later, .int .i64 g.spare] 69)) b2.size
          go_wp2_with fail
          clear q0 q1 q2 q3 q4 q5 q6 q7 q8 q9 q10 q11 q12 q13 q14 q15 q16 q17 q18 D2 B2 b2
          generalize V2.alloc _ = V3 at *
          generalize V2.heap.size = G3 at *
          go_loopw [8] (fun i wr => wr = V3 ∧ ∃ j : Nat, j ≤ 7 ∧ i = .int .i64 j ∧ Hid (∀ k, k < j → fitMany g k)) (fun i _ => 7 - (intOf i).toNat)
          case atStart => exact ⟨rfl, 0, Nat.zero_le _, rfl, Lib.hid fun k hk => absurd hk (Nat.not_lt_zero k)⟩
          case round =>
            obtain ⟨hwr, j, hj, rfl, HQ3⟩ := hrel
            replace hwr := hwr.symm
            subst hwr
            by_cases hlt : j < 7
            · have q := (B3.cell j).trans (many_at g j hlt)
              have hfit : Hid (fitMany g j ↔ 0 ≤ (manyL g).getD j 0 ∧ (manyL g).getD j 0 ≤ 1048576 ∧ (j < 2 → (manyL g).getD j 0 ≤ 4)) := Lib.hid Iff.rfl
              generalize (manyL g).getD j 0 = n at *
              by_cases h1 : 0 ≤ n
              · by_cases h2 : n ≤ 1048576
                · by_cases h3 : j < 2
                  · by_cases h4 : n ≤ 4
                    · have HE : Hid (∀ k, k < j + 1 → fitMany g k) := Lib.hid (up_to HQ3.out (hfit.out.2 ⟨h1, h2, fun _ => h4⟩))
                      go_wp2
                      go_roundw
                      case rel => exact ⟨trivial, j + 1, by omega, by go_num, HE⟩
                      case measure => simp [intOf]; omega
                    · have HE : Hid (z = false) := Lib.hid (HZ.out.symm.trans (no_many hlt fun h => h4 ((hfit.out.1 h).2.2 h3)))
                      go_wp2
                      go_ret
                      exact ⟨by rw [HE.out]; rfl, b3⟩
                  · have HE : Hid (∀ k, k < j + 1 → fitMany g k) := Lib.hid (up_to HQ3.out (hfit.out.2 ⟨h1, h2, fun h => absurd h h3⟩))
                    go_wp2
                    go_roundw
                    case rel => exact ⟨trivial, j + 1, by omega, by go_num, HE⟩
                    case measure => simp [intOf]; omega
                · have HE : Hid (z = false) := Lib.hid (HZ.out.symm.trans (no_many hlt fun h => h2 (hfit.out.1 h).2.1))
                  go_wp2
                  go_ret
                  exact ⟨by rw [HE.out]; rfl, b3⟩
              · have HE : Hid (z = false) := Lib.hid (HZ.out.symm.trans (no_many hlt fun h => h1 (hfit.out.1 h).1))
                go_wp2
                go_ret
                exact ⟨by rw [HE.out]; rfl, b3⟩
            · have ej : j = 7 := by omega
              subst ej
              rw [show ((7 : Nat) : Int) = (7 : Int) from rfl]
              obtain ⟨q0, q1, q2, q3, q4, q5, q6, q7, q8, q9, q10, q11, q12, q13, q14, q15, q16, q17, q18⟩ := D3.cells
              clear B3
              by_cases h1 : g.first ≤ g.high
              · by_cases h2 : g.grid ≤ g.first
                · by_cases h3 : g.grid ≤ 536870912
                  · by_cases h4 : g.rule ≤ 536870912
                    · by_cases h5 : g.sep ≤ 536870912
                      · have HE : Hid (z = true) := Lib.hid (HZ.out.symm.trans (fit_all g HQ.out HQ2.out HQ3.out ⟨h1, h2, h3, h4, h5⟩))
                        go_wp2
                        go_ret
                        exact ⟨by rw [HE.out]; rfl, b3⟩
                      · have HE : Hid (z = false) := Lib.hid (HZ.out.symm.trans (no_last fun h => h5 h.2.2.2.2))
                        go_wp2
                        go_ret
                        exact ⟨by rw [HE.out]; rfl, b3⟩
                    · have HE : Hid (z = false) := Lib.hid (HZ.out.symm.trans (no_last fun h => h4 h.2.2.2.1))
                      go_wp2
                      go_ret
                      exact ⟨by rw [HE.out]; rfl, b3⟩
                  · have HE : Hid (z = false) := Lib.hid (HZ.out.symm.trans (no_last fun h => h3 h.2.2.1))
                    go_wp2
                    go_ret
                    exact ⟨by rw [HE.out]; rfl, b3⟩
                · have HE : Hid (z = false) := Lib.hid (HZ.out.symm.trans (no_last fun h => h2 h.2.1))
                  go_wp2
                  go_ret
                  exact ⟨by rw [HE.out]; rfl, b3⟩
              · have HE : Hid (z = false) := Lib.hid (HZ.out.symm.trans (no_last fun h => h1 h.1))
                go_wp2
                go_ret
                exact ⟨by rw [HE.out]; rfl, b3⟩
theorem rgcheck_any (g : G19) (w : World) :
    Calls Tryz.prog 11 #[.agg (geoC g)] w fun e' w' => e' = .returned (.int .i64 (errE g)) ∧ Below w.heap.size w w' := by
  unfold errE
  cases h : btwE g.cols 1 8
  · exact rcheck_cols g w h
  · exact rcheck_rest g w h
end Go.Proofs.YthcgncgnbjhniaaGreat
