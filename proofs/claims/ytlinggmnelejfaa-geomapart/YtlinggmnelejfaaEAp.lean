/- The walk of GeomApart. -/
import Derived.Test.YtlinggmnelejfaaEAs
import Derived.Test.YtlinggmnelejfaaEAn
namespace Go.Proofs.Ytlinggmnelejfaa
open Go.RowKit
set_option maxRecDepth 20000
set_option linter.unusedVariables false

theorem gapart_in (g : G19) (n : Int) (w : World) (hr : rightE g = true) (n0 : 0 ≤ n) (n1 : n ≤ 1099511627776) :
    Calls Try.prog 5 #[.agg (geoC g), .int .i64 n] w fun e w' => e = .returned (.bool true) ∧ Below w.heap.size w w' := by
  have kc := rightE_cols hr
  have kw := rightE_wide hr
  have hn : inR n := by unfold inR; omega
  have hn1 : inR (n + 1) := by unfold inR; omega
  have x0 := xE_in n hr
  have x1 := xE_in (n + 1) hr
  have s0 := sideE_in n hr
  have s1 := sideE_in (n + 1) hr
  have c1 := fun x => gcheck_any g x
  rw [errE_yes hr] at c1
  have c2 := fun x => gpage_any g n x hn
  have c3 := fun x => gpage_any g (n + 1) x hn1
  have c4 := fun x => gx_any g (n + 1) x hn1
  have c5 := fun x => gx_any g n x hn
  have c6 := fun x => gcol_any g n x
  have c7 := fun x => ghigh_any g (colE g n) x
  have e0 : xE g n = sideE g n * (g.wide + g.gap) := by unfold xE; rw [hr]; rfl
  have e1 : xE g (n + 1) = sideE g (n + 1) * (g.wide + g.gap) := by unfold xE; rw [hr]; rfl
  have p0 : pageE g n = n / g.cols ∧ sideE g n = n % g.cols := by unfold pageE sideE; rw [hr, cond_true, cond_true, show max n 0 = n by omega]; exact ⟨rfl, rfl⟩
  have p1 : pageE g (n + 1) = (n + 1) / g.cols ∧ sideE g (n + 1) = (n + 1) % g.cols := by unfold pageE sideE; rw [hr, cond_true, cond_true, show max (n + 1) 0 = n + 1 by omega]; exact ⟨rfl, rfl⟩
  have f0 : pageE g n * g.cols + sideE g n = n := by rw [p0.1, p0.2]; exact Int.ediv_mul_add_emod n g.cols
  have f1 : pageE g (n + 1) * g.cols + sideE g (n + 1) = n + 1 := by rw [p1.1, p1.2]; exact Int.ediv_mul_add_emod (n + 1) g.cols
  have a0 : 0 ≤ pageE g n := by rw [p0.1]; exact Int.ediv_nonneg n0 (by omega)
  have a1 : 0 ≤ pageE g n * g.cols := Int.mul_nonneg a0 (by omega)
  have top : (pageE g n = 0 ∧ highE g (colE g n) = g.first) ∨ (1 ≤ pageE g n ∧ highE g (colE g n) = g.high) := by
    have k0 : colE g n = min n g.cols := by unfold colE; rw [hr, cond_true, show max n 0 = n by omega]
    have h0 : highE g (colE g n) = if colE g n < g.cols then g.first else g.high := by unfold highE; rw [hr, cond_true]
    by_cases hz : pageE g n = 0
    · refine .inl ⟨hz, ?_⟩
      rw [hz, Int.zero_mul] at f0
      rw [h0, if_pos (by omega)]
    · refine .inr ⟨by omega, ?_⟩
      have : 1 * g.cols ≤ pageE g n * g.cols := Int.mul_le_mul_of_nonneg_right (by omega) (by omega)
      rw [h0, if_neg (by omega)]
  have nx : (pageE g (n + 1) = pageE g n ∧ sideE g (n + 1) = sideE g n + 1) ∨ (pageE g (n + 1) = pageE g n + 1 ∧ sideE g (n + 1) = 0) := by
    by_cases hl : sideE g n + 1 < g.cols
    · left
      have := (Int.ediv_emod_unique (a := n + 1) (b := g.cols) (r := sideE g n + 1) (q := pageE g n) (by omega)).2 ⟨by rw [Int.mul_comm]; omega, by omega, hl⟩
      exact ⟨p1.1.trans this.1, p1.2.trans this.2⟩
    · right
      have := (Int.ediv_emod_unique (a := n + 1) (b := g.cols) (r := 0) (q := pageE g n + 1) (by omega)).2 ⟨by rw [Int.mul_comm, Int.add_mul]; omega, by omega, by omega⟩
      exact ⟨p1.1.trans this.1, p1.2.trans this.2⟩
  rw [e0] at c5
  rw [e1] at c4
  generalize pageE g n = a at *
  generalize sideE g n = b at *
  generalize pageE g (n + 1) = c at *
  generalize sideE g (n + 1) = d at *
  generalize colE g n = k at *
  generalize highE g k = h at *
  rcases nx with ⟨rfl, rfl⟩ | ⟨rfl, rfl⟩
  · refine gapart_same g n c b (b + 1) (b * (g.wide + g.gap)) ((b + 1) * (g.wide + g.gap)) k h w ⟨n0, n1⟩ kw ?_ ?_ ?_ ?_ ?_ ?_ x1 x0 top c1 c2 c3 c4 c5 c6 c7
    · omega
    · omega
    · omega
    · simp; omega
    · simp; omega
    · rw [Int.add_mul, Int.one_mul]; simp; omega
  · rw [Int.zero_mul] at c4
    refine gapart_next g n a b (a + 1) 0 (b * (g.wide + g.gap)) k h w ⟨n0, n1⟩ kw ?_ ?_ ?_ ?_ ?_ ?_ ?_ x0 top c1 c2 c3 c4 c5 c6 c7
    · omega
    · omega
    · omega
    · simp; omega
    · simp; omega
    · simp; omega
    · rw [Int.add_mul] at f1 ⊢; omega
theorem geomApart_walk (cols : Int) (h_cols : (Lit.int .i64 cols).wf = true) (wide : Int) (h_wide : (Lit.int .i64 wide).wf = true) (gap : Int) (h_gap : (Lit.int .i64 gap).wf = true) (high : Int) (h_high : (Lit.int .i64 high).wf = true) (first : Int) (h_first : (Lit.int .i64 first).wf = true) (grid : Int) (h_grid : (Lit.int .i64 grid).wf = true) (rule : Int) (h_rule : (Lit.int .i64 rule).wf = true) (sep : Int) (h_sep : (Lit.int .i64 sep).wf = true) (nmost : Int) (h_nmost : (Lit.int .i64 nmost).wf = true) (tmost : Int) (h_tmost : (Lit.int .i64 tmost).wf = true) (bmost : Int) (h_bmost : (Lit.int .i64 bmost).wf = true) (tmany : Int) (h_tmany : (Lit.int .i64 tmany).wf = true) (bmany : Int) (h_bmany : (Lit.int .i64 bmany).wf = true) (club : Int) (h_club : (Lit.int .i64 club).wf = true) (widow : Int) (h_widow : (Lit.int .i64 widow).wf = true) (split : Int) (h_split : (Lit.int .i64 split).wf = true) (later : Int) (h_later : (Lit.int .i64 later).wf = true) (spare : Int) (h_spare : (Lit.int .i64 spare).wf = true) (bal : Bool) (n : Int) (hn : (Lit.int .i64 n).wf = true) (w : World) :
    Calls Try.prog 5 #[.agg #[.int .i64 cols, .int .i64 wide, .int .i64 gap, .int .i64 high, .int .i64 first, .int .i64 grid, .int .i64 rule, .int .i64 sep, .int .i64 nmost, .int .i64 tmost, .int .i64 bmost, .int .i64 tmany, .int .i64 bmany, .int .i64 club, .int .i64 widow, .int .i64 split, .int .i64 later, .int .i64 spare, .bool bal], .int .i64 n] w fun e w' => e = .returned (.bool true) ∧ Below w.heap.size w w' := by
  show Calls Try.prog 5 #[.agg (geoC ⟨cols, wide, gap, high, first, grid, rule, sep, nmost, tmost, bmost, tmany, bmany, club, widow, split, later, spare, bal⟩), .int .i64 n] w _
  generalize (⟨cols, wide, gap, high, first, grid, rule, sep, nmost, tmost, bmost, tmany, bmany, club, widow, split, later, spare, bal⟩ : G19) = g
  cases hr : rightE g
  · exact gapart_out g n _ w (.inl (errE_no hr)) (fun x => gcheck_any g x)
  · by_cases h : 0 ≤ n ∧ n ≤ 1099511627776
    · exact gapart_in g n w hr h.1 h.2
    · exact gapart_out g n _ w (.inr ⟨errE_yes hr, by omega⟩) (fun x => gcheck_any g x)
end Go.Proofs.Ytlinggmnelejfaa
