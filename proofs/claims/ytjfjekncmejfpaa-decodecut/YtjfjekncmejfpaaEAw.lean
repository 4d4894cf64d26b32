/- Check and valid of package geom. The document's Check of a geometry. The small functions of package geom and of the document. Page, X and Plain of package geom, and the document's. Plain of package geom; awake of layer 13. -/
import Derived.Test.YtjfjekncmejfpaaERng
import Derived.LoopN
import Derived.WalkSmall
import Derived.Deep.WholeRow
namespace Go.Proofs.Ytjfjekncmejfpaa
open Go.RowKit
set_option maxRecDepth 20000
set_option linter.unusedVariables false
set_option linter.unusedSimpArgs false

theorem info24 : (Try.prog.info? 26).map (·.size) = some 19 := by kernel_rfl
/-- A geometry is loaded whole. -/
theorem load_geo {o : Oper} {a : Act} {w : World} {g : G19} {b : Nat} (x : Operand) (ho : o.op = .load 26 x) (hx : a.eval x = .pointer (some ⟨b, 0, none⟩)) (h : GeoAt w b g) :
    (execOp a.eval o).run Try.prog w = .ok (.value (.agg (geoC g))) w := by
  unfold execOp
  simp only [ho, hx, Instr.loadAt, Instr.sureAddr, Sem.run_bind, Sem.run_pure, Result.andThen_ok, run_loadVar_row w b 26 26 (geoC g) (0, 0) _ h Try.underlying26 rfl info24]
theorem geo_new (w : World) (g : G19) : GeoAt (w.alloc (.cells (geoC g) 26)) w.heap.size g := blk_new w (geoC g) 26
theorem nums_at (g : G19) (j : Nat) (hj : j < 17) : (#[.int .i64 g.wide, .int .i64 g.high, .int .i64 g.gap, .int .i64 g.nmost, .int .i64 g.tmost, .int .i64 g.bmost, .int .i64 g.rule, .int .i64 g.sep, .int .i64 g.first, .int .i64 g.grid, .int .i64 g.tmany, .int .i64 g.bmany, .int .i64 g.club, .int .i64 g.widow, .int .i64 g.split, .int .i64 g.later, .int .i64 g.spare] : Array Value)[j]? = some (.int .i64 ((numsE g).getD j 0)) := by
  have : j = 0 ∨ j = 1 ∨ j = 2 ∨ j = 3 ∨ j = 4 ∨ j = 5 ∨ j = 6 ∨ j = 7 ∨ j = 8 ∨ j = 9 ∨ j = 10 ∨ j = 11 ∨ j = 12 ∨ j = 13 ∨ j = 14 ∨ j = 15 ∨ j = 16 := by omega
  rcases this with rfl | rfl | rfl | rfl | rfl | rfl | rfl | rfl | rfl | rfl | rfl | rfl | rfl | rfl | rfl | rfl | rfl <;> rfl
end Go.Proofs.Ytjfjekncmejfpaa
namespace Go.Proofs.Ytjfjekncmejfpaa
open Go.RowKit
set_option maxRecDepth 20000
set_option linter.unusedVariables false
set_option linter.unusedSimpArgs false

def oneL (g : G19) : List Int := [g.wide, g.high, g.first]
def noughtL (g : G19) : List Int := [g.gap, g.rule, g.sep, g.nmost, g.tmost, g.bmost, g.grid]
def manyL (g : G19) : List Int := [g.tmany, g.bmany, g.club, g.widow, g.split, g.later, g.spare]
theorem one_at (g : G19) (j : Nat) (hj : j < 3) : (#[.int .i64 g.wide, .int .i64 g.high, .int .i64 g.first] : Array Value)[j]? = some (.int .i64 ((oneL g).getD j 0)) := by
  have : j = 0 ∨ j = 1 ∨ j = 2 := by omega
  rcases this with rfl | rfl | rfl <;> rfl
theorem nought_at (g : G19) (j : Nat) (hj : j < 7) : (#[.int .i64 g.gap, .int .i64 g.rule, .int .i64 g.sep, .int .i64 g.nmost, .int .i64 g.tmost, .int .i64 g.bmost, .int .i64 g.grid] : Array Value)[j]? = some (.int .i64 ((noughtL g).getD j 0)) := by
  have : j = 0 ∨ j = 1 ∨ j = 2 ∨ j = 3 ∨ j = 4 ∨ j = 5 ∨ j = 6 := by omega
  rcases this with rfl | rfl | rfl | rfl | rfl | rfl | rfl <;> rfl
theorem many_at (g : G19) (j : Nat) (hj : j < 7) : (#[.int .i64 g.tmany, .int .i64 g.bmany, .int .i64 g.club, .int .i64 g.widow, .int .i64 g.split, .int .i64 g.later, .int .i64 g.spare] : Array Value)[j]? = some (.int .i64 ((manyL g).getD j 0)) := by
  have : j = 0 ∨ j = 1 ∨ j = 2 ∨ j = 3 ∨ j = 4 ∨ j = 5 ∨ j = 6 := by omega
  rcases this with rfl | rfl | rfl | rfl | rfl | rfl | rfl <;> rfl
def fitOne (g : G19) (k : Nat) : Prop := 1 ≤ (oneL g).getD k 0 ∧ (oneL g).getD k 0 ≤ 1073741823
def fitNought (g : G19) (k : Nat) : Prop := 0 ≤ (noughtL g).getD k 0 ∧ (noughtL g).getD k 0 ≤ 1073741823
def fitMany (g : G19) (k : Nat) : Prop := 0 ≤ (manyL g).getD k 0 ∧ (manyL g).getD k 0 ≤ 1048576 ∧ (k < 2 → (manyL g).getD k 0 ≤ 4)
def fitLast (g : G19) : Prop := g.first ≤ g.high ∧ g.grid ≤ g.first ∧ g.grid ≤ 536870912 ∧ g.rule ≤ 536870912 ∧ g.sep ≤ 536870912
theorem fit_all (g : G19) (h1 : ∀ k, k < 3 → fitOne g k) (h2 : ∀ k, k < 7 → fitNought g k) (h3 : ∀ k, k < 7 → fitMany g k) (h4 : fitLast g) : fitsE g 17 = true := by
  rw [fitsE_iff]
  have a0 := h1 0 (by omega)
  have a1 := h1 1 (by omega)
  have a2 := h1 2 (by omega)
  have b0 := h2 0 (by omega)
  have b1 := h2 1 (by omega)
  have b2 := h2 2 (by omega)
  have b3 := h2 3 (by omega)
  have b4 := h2 4 (by omega)
  have b5 := h2 5 (by omega)
  have b6 := h2 6 (by omega)
  have c0 := h3 0 (by omega)
  have c1 := h3 1 (by omega)
  have c2 := h3 2 (by omega)
  have c3 := h3 3 (by omega)
  have c4 := h3 4 (by omega)
  have c5 := h3 5 (by omega)
  have c6 := h3 6 (by omega)
  simp only [fitOne, fitNought, fitMany, oneL, noughtL, manyL, List.getD_cons_zero, List.getD_cons_succ] at a0 a1 a2 b0 b1 b2 b3 b4 b5 b6 c0 c1 c2 c3 c4 c5 c6
  unfold fitLast at h4
  unfold restE
  omega
theorem fit_each (g : G19) (h : fitsE g 17 = true) : (∀ k, k < 3 → fitOne g k) ∧ (∀ k, k < 7 → fitNought g k) ∧ (∀ k, k < 7 → fitMany g k) ∧ fitLast g := by
  rw [fitsE_iff] at h
  unfold restE at h
  refine ⟨fun k hk => ?_, fun k hk => ?_, fun k hk => ?_, ?_⟩
  · have : k = 0 ∨ k = 1 ∨ k = 2 := by omega
    rcases this with rfl | rfl | rfl <;> simp only [fitOne, oneL, List.getD_cons_zero, List.getD_cons_succ] <;> omega
  · have : k = 0 ∨ k = 1 ∨ k = 2 ∨ k = 3 ∨ k = 4 ∨ k = 5 ∨ k = 6 := by omega
    rcases this with rfl | rfl | rfl | rfl | rfl | rfl | rfl <;> simp only [fitNought, noughtL, List.getD_cons_zero, List.getD_cons_succ] <;> omega
  · have : k = 0 ∨ k = 1 ∨ k = 2 ∨ k = 3 ∨ k = 4 ∨ k = 5 ∨ k = 6 := by omega
    rcases this with rfl | rfl | rfl | rfl | rfl | rfl | rfl <;> simp only [fitMany, manyL, List.getD_cons_zero, List.getD_cons_succ] <;> omega
  · unfold fitLast; omega
theorem no_one {g : G19} {k : Nat} (hk : k < 3) (h : ¬ fitOne g k) : fitsE g 17 = false := by
  rw [← Bool.not_eq_true]; exact fun e => h ((fit_each g e).1 k hk)
theorem no_nought {g : G19} {k : Nat} (hk : k < 7) (h : ¬ fitNought g k) : fitsE g 17 = false := by
  rw [← Bool.not_eq_true]; exact fun e => h ((fit_each g e).2.1 k hk)
theorem no_many {g : G19} {k : Nat} (hk : k < 7) (h : ¬ fitMany g k) : fitsE g 17 = false := by
  rw [← Bool.not_eq_true]; exact fun e => h ((fit_each g e).2.2.1 k hk)
theorem no_last {g : G19} (h : ¬ fitLast g) : fitsE g 17 = false := by
  rw [← Bool.not_eq_true]; exact fun e => h (fit_each g e).2.2.2
theorem up_to {P : Nat → Prop} {j : Nat} (h : ∀ k, k < j → P k) (hj : P j) : ∀ k, k < j + 1 → P k := fun k hk => by
  by_cases e : k = j
  · rw [e]; exact hj
  · exact h k (by omega)
end Go.Proofs.Ytjfjekncmejfpaa
namespace Go.Proofs.Ytjfjekncmejfpaa
open Go.RowKit
set_option maxRecDepth 20000
set_option linter.unusedVariables false
set_option linter.unusedSimpArgs false

theorem errE_yes {g : G19} (h : rightE g = true) : errE g = 0 := by
  have := errE_right g
  rw [h] at this
  simpa using this
theorem errE_no {g : G19} (h : rightE g = false) : (errE g != 0) = true := by
  have := errE_right g
  rw [h] at this
  simp [bne, this]
theorem rightE_cols {g : G19} (h : rightE g = true) : 1 ≤ g.cols ∧ g.cols ≤ 8 := ((rightE_iff g).1 h).1
theorem rightE_wide {g : G19} (h : rightE g = true) : (1 ≤ g.wide ∧ g.wide ≤ 1073741823) ∧ (0 ≤ g.gap ∧ g.gap ≤ 1073741823) := by
  have := ((rightE_iff g).1 h).2
  unfold restE at this
  omega

end Go.Proofs.Ytjfjekncmejfpaa
namespace Go.Proofs.Ytjfjekncmejfpaa
open Go.RowKit
set_option maxRecDepth 20000
set_option linter.unusedVariables false
set_option linter.unusedSimpArgs false

theorem sideE_in {g : G19} (n : Int) (h : rightE g = true) : 0 ≤ sideE g n ∧ sideE g n < g.cols := by
  have := rightE_cols h
  unfold sideE
  rw [h, cond_true]
  exact ⟨Int.emod_nonneg _ (by omega), Int.emod_lt_of_pos _ (by omega)⟩
theorem xE_in {g : G19} (n : Int) (h : rightE g = true) : 0 ≤ sideE g n * (g.wide + g.gap) ∧ sideE g n * (g.wide + g.gap) ≤ 17179869168 := by
  have h1 := sideE_in n h
  have h2 := rightE_cols h
  have h3 := rightE_wide h
  have h4 : 0 ≤ sideE g n * (g.wide + g.gap) := Int.mul_nonneg h1.1 (by omega)
  have h5 : sideE g n * (g.wide + g.gap) ≤ 8 * 2147483646 := Int.mul_le_mul (by omega) (by omega) (by omega) (by omega)
  omega
end Go.Proofs.Ytjfjekncmejfpaa
namespace Go.Proofs.Ytjfjekncmejfpaa
open Go.RowKit
set_option maxRecDepth 20000
set_option linter.unusedVariables false
set_option linter.unusedSimpArgs false

def zeroG : G19 := ⟨0, 0, 0, 0, 0, 0, 0, 0, 0, 0, 0, 0, 0, 0, 0, 0, 0, 0, false⟩
theorem geo_one (g : G19) : (geoC g).all (·.oneCell') = true := by kernel_rfl
theorem geo_size (g : G19) : (geoC g).size = 19 := rfl
theorem store_geo {ops : Array Oper} {rest : List Oper} {o : Oper} {a : Act} {w : World} {Q : Exit → Act → World → Prop} {b : Nat} {g h : G19} (hgd : o.guard = none) (x y : Operand) (ho : o.op = .store 26 x y)
    (hx : a.eval x = .pointer (some ⟨b, 0, none⟩)) (hy : a.eval y = .agg (geoC g)) (hb : GeoAt w b h) (hk : wpList Try.prog ops Q rest (a.put o.dst undef) (w.setRow b (geoC g))) : wpList Try.prog ops Q (o :: rest) a w :=
  wpList_store_row hgd 26 x y ho b (geoC g) hx hy 26 (geoC h) hb info24 rfl (geo_one g) hk
theorem GeoAt.row {w : World} {b : Nat} {h : G19} (H : GeoAt w b h) (g : G19) : GeoAt (w.setRow b (geoC g)) b g := Blk.row H (geoC g)
theorem GeoAt.row_other {w : World} {b c : Nat} {h : G19} (H : GeoAt w b h) (hb : b ≠ c) (ds : Array Value) : GeoAt (w.setRow c ds) b h := Blk.row_other H hb ds
theorem alloc_geo {ops : Array Oper} {rest : List Oper} {o : Oper} {a : Act} {w : World} {Q : Exit → Act → World → Prop} (hgd : o.guard = none) (ho : o.op = .alloc 26)
    (hk : wpList Try.prog ops Q rest (a.put o.dst (.pointer (some ⟨w.heap.size, 0, none⟩))) (w.alloc (.cells (geoC zeroG) 26))) : wpList Try.prog ops Q (o :: rest) a w :=
  wpList_plain hgd fun K hK => by
    have e : (execOp a.eval o).run Try.prog w = .ok (.value (.pointer (some ⟨w.heap.size, 0, none⟩))) (w.alloc (.cells (geoC zeroG) 26)) := by
      unfold execOp
      simp only [ho]
      simp [go_sem, newVar, geoC, zeroG]
    unfold Oper.wp
    rw [e]
    exact hK _ _ hk
/-- A new variable that holds a geometry. -/
theorem make_geo {ops : Array Oper} {rest : List Oper} {o p : Oper} {a : Act} {w : World} {Q : Exit → Act → World → Prop} {g : G19} (hgd : o.guard = none) (ho : o.op = .alloc 26) (hgp : p.guard = none) (x y : Operand) (hp : p.op = .store 26 x y)
    (hx : (a.put o.dst (.pointer (some ⟨w.heap.size, 0, none⟩))).eval x = .pointer (some ⟨w.heap.size, 0, none⟩)) (hy : (a.put o.dst (.pointer (some ⟨w.heap.size, 0, none⟩))).eval y = .agg (geoC g))
    (hk : wpList Try.prog ops Q rest ((a.put o.dst (.pointer (some ⟨w.heap.size, 0, none⟩))).put p.dst undef) (w.alloc (.cells (geoC g) 26))) : wpList Try.prog ops Q (o :: p :: rest) a w := by
  refine alloc_geo hgd ho ?_
  refine store_geo hgp x y hp hx hy (geo_new w zeroG) ?_
  rw [World.setRow_alloc_new]
  exact hk
def wakeG : G19 := ⟨2, 100, 5, 100, 100, 0, 0, 0, 100, 100, 100, 4, 4, 0, 0, 0, 0, 0, false⟩
theorem wakeG_facts : pageE wakeG 5 = 2 ∧ sideE wakeG 5 = 1 ∧ errE wakeG = 0 ∧ xE wakeG 5 = 105 ∧ highE wakeG 0 = 100 ∧ colE wakeG 7 = 2 := by decide
theorem wakeG_set {w : World} {b : Nat} (h : GeoAt w b (plainE 2 100)) : GeoAt (w.setCell ⟨b, 2, none⟩ (.int .i64 5)) b wakeG := Blk.set h 2 _
end Go.Proofs.Ytjfjekncmejfpaa
