/- '==' and '!=' of items, floats and geometries. The same lists: items, notes, floats, of package slices and the document's. -/
import Derived.Test.YthcgncgnbjhniaaGreatJSnp
import Derived.Test.YthcgncgnbjhniaaGreatNSame
namespace Go.Proofs.YthcgncgnbjhniaaGreat
open Go.RowKit
set_option maxRecDepth 20000
set_option linter.unusedVariables false
set_option linter.unusedSimpArgs false

theorem run_neq_F (x y : F3) (w : World) : Sem.run Tryz.prog (binOp .neq 48 (.agg #[.int .i64 x.c, .int .i64 x.h, .int .i64 x.p]) (.agg #[.int .i64 y.c, .int .i64 y.h, .int .i64 y.p])) w = .ok (.bool (!isB (x = y))) w := by
  obtain ⟨a0, a1, a2⟩ := x
  obtain ⟨b0, b1, b2⟩ := y
  by_cases h : (⟨a0, a1, a2⟩ : F3) = ⟨b0, b1, b2⟩
  · rw [isB_yes h]
    injection h with h0 h1 h2
    subst h0 h1 h2
    simp [go_sem]
  · rw [isB_no h]
    simp only [F3.mk.injEq] at h
    simp [go_sem]
    intro e0 e1 e2
    exact h ⟨e0, e1, e2⟩
set_option maxHeartbeats 1000000 in
theorem run_neq_I (x y : I7) (w : World) : Sem.run Tryz.prog (binOp .neq 46 (.agg #[.int .i64 x.k, .int .i64 x.h, .int .i64 x.f, .int .i64 x.s, .int .i64 x.o, .int .i64 x.r, .int .i64 x.n]) (.agg #[.int .i64 y.k, .int .i64 y.h, .int .i64 y.f, .int .i64 y.s, .int .i64 y.o, .int .i64 y.r, .int .i64 y.n])) w = .ok (.bool (!isB (x = y))) w := by
  obtain ⟨a0, a1, a2, a3, a4, a5, a6⟩ := x
  obtain ⟨b0, b1, b2, b3, b4, b5, b6⟩ := y
  by_cases h : (⟨a0, a1, a2, a3, a4, a5, a6⟩ : I7) = ⟨b0, b1, b2, b3, b4, b5, b6⟩
  · rw [isB_yes h]
    injection h with h0 h1 h2 h3 h4 h5 h6
    subst h0 h1 h2 h3 h4 h5 h6
    simp [go_sem]
  · rw [isB_no h]
    simp only [I7.mk.injEq] at h
    simp [go_sem]
    intro e0 e1 e2 e3 e4 e5 e6
    exact h ⟨e0, e1, e2, e3, e4, e5, e6⟩
set_option maxHeartbeats 4000000 in
theorem run_eql_G (x y : G19) (w : World) : Sem.run Tryz.prog (binOp .eql 24 (.agg (geoC x)) (.agg (geoC y))) w = .ok (.bool (isB (x = y))) w := by
  obtain ⟨a0, a1, a2, a3, a4, a5, a6, a7, a8, a9, a10, a11, a12, a13, a14, a15, a16, a17, a18⟩ := x
  obtain ⟨b0, b1, b2, b3, b4, b5, b6, b7, b8, b9, b10, b11, b12, b13, b14, b15, b16, b17, b18⟩ := y
  by_cases h : (⟨a0, a1, a2, a3, a4, a5, a6, a7, a8, a9, a10, a11, a12, a13, a14, a15, a16, a17, a18⟩ : G19) = ⟨b0, b1, b2, b3, b4, b5, b6, b7, b8, b9, b10, b11, b12, b13, b14, b15, b16, b17, b18⟩
  · rw [isB_yes h]
    injection h with h0 h1 h2 h3 h4 h5 h6 h7 h8 h9 h10 h11 h12 h13 h14 h15 h16 h17 h18
    subst h0 h1 h2 h3 h4 h5 h6 h7 h8 h9 h10 h11 h12 h13 h14 h15 h16 h17 h18
    unfold geoC
    simp [go_sem]
  · rw [isB_no h]
    simp only [G19.mk.injEq] at h
    unfold geoC
    simp [go_sem]
    intro e0 e1 e2 e3 e4 e5 e6 e7 e8 e9 e10 e11 e12 e13 e14 e15 e16 e17 e18
    exact h ⟨e0, e1, e2, e3, e4, e5, e6, e7, e8, e9, e10, e11, e12, e13, e14, e15, e16, e17, e18⟩
theorem list_ext {α : Type} {l m : List α} (d : α) (h : l.length = m.length) (hp : ∀ k, k < l.length → l.getD k d = m.getD k d) : l = m := List.ext_getElem? fun k => by
  rcases Nat.lt_or_ge k l.length with h1 | h1
  · have := hp k h1
    have h' : k < m.length := by omega
    simpa [h1, h'] using this
  · rw [List.getElem?_eq_none h1, List.getElem?_eq_none (by omega)]
theorem getD_snoc4 {α : Type} {l m : List α} {d : α} {k : Nat} (hp : ∀ j, j < k → l.getD j d = m.getD j d) (h : l.getD k d = m.getD k d) : ∀ j, j < k + 1 → l.getD j d = m.getD j d := fun j hj => by
  rcases Nat.lt_or_ge j k with h1 | h1
  · exact hp j h1
  · obtain rfl : j = k := by omega
    exact h
end Go.Proofs.YthcgncgnbjhniaaGreat
namespace Go.Proofs.YthcgncgnbjhniaaGreat
open Go.RowKit
set_option maxRecDepth 20000
set_option linter.unusedVariables false
set_option linter.unusedSimpArgs false

theorem els7 {w : World} {a : Option Addr} {n : Nat} {F : Nat → I7} (h : Els 7 encI w a n F) {k : Nat} (hk : k < n) : ∃ b off, a = some ⟨b, off, none⟩ ∧ b < w.heap.size ∧ w.cell? ⟨b, off + k * 7, none⟩ = some (.int .i64 (F k).k) ∧ w.cell? ⟨b, off + k * 7 + 1, none⟩ = some (.int .i64 (F k).h) ∧ w.cell? ⟨b, off + k * 7 + 2, none⟩ = some (.int .i64 (F k).f) ∧ w.cell? ⟨b, off + k * 7 + 3, none⟩ = some (.int .i64 (F k).s) ∧ w.cell? ⟨b, off + k * 7 + 4, none⟩ = some (.int .i64 (F k).o) ∧ w.cell? ⟨b, off + k * 7 + 5, none⟩ = some (.int .i64 (F k).r) ∧ w.cell? ⟨b, off + k * 7 + 6, none⟩ = some (.int .i64 (F k).n) := by
  obtain ⟨b, off, rfl, hb, h0⟩ := h k 0 hk (by omega)
  have each : ∀ j, j < 7 → w.cell? ⟨b, off + k * 7 + j, none⟩ = (encI (F k))[j]? := fun j hj => by
    obtain ⟨b', off', e, _, hc⟩ := h k j hk hj
    cases e
    rw [Nat.add_assoc]
    exact hc
  exact ⟨b, off, rfl, hb, each 0 (by omega), each 1 (by omega), each 2 (by omega), each 3 (by omega), each 4 (by omega), each 5 (by omega), each 6 (by omega)⟩
theorem els3 {w : World} {a : Option Addr} {n : Nat} {F : Nat → F3} (h : Els 3 encF w a n F) {k : Nat} (hk : k < n) : ∃ b off, a = some ⟨b, off, none⟩ ∧ b < w.heap.size ∧ w.cell? ⟨b, off + k * 3, none⟩ = some (.int .i64 (F k).c) ∧ w.cell? ⟨b, off + k * 3 + 1, none⟩ = some (.int .i64 (F k).h) ∧ w.cell? ⟨b, off + k * 3 + 2, none⟩ = some (.int .i64 (F k).p) := by
  obtain ⟨b, off, rfl, hb, h0⟩ := h k 0 hk (by omega)
  have each : ∀ j, j < 3 → w.cell? ⟨b, off + k * 3 + j, none⟩ = (encF (F k))[j]? := fun j hj => by
    obtain ⟨b', off', e, _, hc⟩ := h k j hk hj
    cases e
    rw [Nat.add_assoc]
    exact hc
  exact ⟨b, off, rfl, hb, each 0 (by omega), each 1 (by omega), each 2 (by omega)⟩
theorem els2 {w : World} {a : Option Addr} {n : Nat} {F : Nat → H2} (h : Els 2 encH w a n F) {k : Nat} (hk : k < n) : ∃ b off, a = some ⟨b, off, none⟩ ∧ b < w.heap.size ∧ w.cell? ⟨b, off + k * 2, none⟩ = some (.slice (F k).la (F k).ll (F k).lc) ∧ w.cell? ⟨b, off + k * 2 + 1, none⟩ = some (.slice (F k).pa (F k).pl (F k).pc) := by
  obtain ⟨b, off, rfl, hb, h0⟩ := h k 0 hk (by omega)
  have each : ∀ j, j < 2 → w.cell? ⟨b, off + k * 2 + j, none⟩ = (encH (F k))[j]? := fun j hj => by
    obtain ⟨b', off', e, _, hc⟩ := h k j hk hj
    cases e
    rw [Nat.add_assoc]
    exact hc
  exact ⟨b, off, rfl, hb, each 0 (by omega), each 1 (by omega)⟩
theorem sameN_isB (x y : N2) : sameN x.l x.p y.l y.p = isB (x = y) := by
  obtain ⟨a, b⟩ := x
  obtain ⟨c, d⟩ := y
  unfold sameN
  dsimp only
  refine (isB_bool ?_).symm
  simp only [N2.mk.injEq, Bool.and_eq_true, decide_eq_true_eq]
/-- Notes of at most so many numbers. -/
def Short (l : List N2) : Prop := ∀ k, (l.getD k zeroN).l.length ≤ 1000000 ∧ (l.getD k zeroN).p.length ≤ 1000000
end Go.Proofs.YthcgncgnbjhniaaGreat
