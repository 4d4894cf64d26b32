/- Vertical lists in memory; Len and At of package vlist. -/
import Derived.Test.YtnajjgohodnfhaaAMath
import Derived.LoopN
namespace Go.Proofs.Ytnajjgohodnfhaa
open Go.RowKit
set_option maxRecDepth 20000
set_option linter.unusedVariables false
set_option linter.unusedSimpArgs false

/-- A vertical list of the items l: nil, or a pointer to a struct that holds a slice. -/
def VAt (w : World) (v : Value) (l : List I7) : Prop :=
  (v = .pointer none ∧ l = []) ∨ ∃ p a cap, v = .pointer (some ⟨p, 0, none⟩) ∧ Blk w p #[.slice a l.length cap] 42 ∧ l.length ≤ cap ∧ cap ≤ maxLen ∧ Els 7 encI w a l.length fun k => l.getD k zeroI
theorem VAt.carry {w w' : World} {v : Value} {l : List I7} (h : VAt w v l) (hb : Below w.heap.size w w') : VAt w' v l := by
  rcases h with h | ⟨p, a, cap, h1, h2, h3, h4, h5⟩
  · exact .inl h
  · exact .inr ⟨p, a, cap, h1, h2.old hb, h3, h4, h5.carry hb⟩
theorem vlen_any (v : Value) (l : List I7) (w : World) (h : VAt w v l) :
    Calls Try.prog 12 #[v] w fun e w' => e = .returned (.int .i64 l.length) ∧ w' = w := by
  rcases h with ⟨rfl, rfl⟩ | ⟨p, a, cap, rfl, h2, h3, h4, h5⟩
  · go_enter Try.func12, Try.ntmps12
    go_wp2
    go_ret
    exact ⟨rfl, rfl⟩
  · have hp := h2.lt
    have q0 := h2.cell 0
    simp only [List.getElem?_toArray, List.getElem?_cons_zero] at q0
    clear h5 h2
    go_enter Try.func12, Try.ntmps12
    go_wp2
    go_ret
    exact ⟨rfl, rfl⟩
theorem below_set7 {B b : Nat} {w x : World} (h : Below B w x) (hb : B ≤ b) (v0 v1 v2 v3 v4 v5 v6 : Value) : Below B w (((((((x.setCell ⟨b, 0, none⟩ v0).setCell ⟨b, 1, none⟩ v1).setCell ⟨b, 2, none⟩ v2).setCell ⟨b, 3, none⟩ v3).setCell ⟨b, 4, none⟩ v4).setCell ⟨b, 5, none⟩ v5).setCell ⟨b, 6, none⟩ v6) :=
  (below_set6 h hb v0 v1 v2 v3 v4 v5).setCell (p := ⟨b, 6, none⟩) hb v6
/-- An item of a list, cell by cell. -/
theorem Els.item {w : World} {a : Option Addr} {l : List I7} {k : Nat} (h : Els 7 encI w a l.length fun k => l.getD k zeroI) (hk : k < l.length) : ∃ b off, a = some ⟨b, off, none⟩ ∧ b < w.heap.size ∧ w.cell? ⟨b, off + k * 7, none⟩ = some (.int .i64 (l.getD k zeroI).k) ∧ w.cell? ⟨b, off + k * 7 + 1, none⟩ = some (.int .i64 (l.getD k zeroI).h) ∧ w.cell? ⟨b, off + k * 7 + 2, none⟩ = some (.int .i64 (l.getD k zeroI).f) ∧ w.cell? ⟨b, off + k * 7 + 3, none⟩ = some (.int .i64 (l.getD k zeroI).s) ∧ w.cell? ⟨b, off + k * 7 + 4, none⟩ = some (.int .i64 (l.getD k zeroI).o) ∧ w.cell? ⟨b, off + k * 7 + 5, none⟩ = some (.int .i64 (l.getD k zeroI).r) ∧ w.cell? ⟨b, off + k * 7 + 6, none⟩ = some (.int .i64 (l.getD k zeroI).n) := by
  obtain ⟨b, off, rfl, hB, h0⟩ := h k 0 hk (by omega)
  have g : ∀ j, j < 7 → w.cell? ⟨b, off + (k * 7 + j), none⟩ = (encI (l.getD k zeroI))[j]? := fun j hj => by
    obtain ⟨b', off', e, _, hc⟩ := h k j hk hj
    cases e
    exact hc
  exact ⟨b, off, rfl, hB, h0, g 1 (by omega), g 2 (by omega), g 3 (by omega), g 4 (by omega), g 5 (by omega), g 6 (by omega)⟩
/-- What At tells. -/
theorem vat_any (v : Value) (l : List I7) (n : Int) (w : World) (h : VAt w v l) (hl : l.length ≤ 1000000) :
    Calls Try.prog 11 #[v, .int .i64 n] w fun e w' => e = .returned (.tuple #[itm (atV l n), .bool (hasV l n)]) ∧ Below w.heap.size w w' := by
  have c := fun w' (hb : Below w.heap.size w w') => vlen_any v l w' (h.carry hb)
  by_cases h0 : n < 0
  · have e := hasV_no (l := l) (.inl h0)
    rw [atV_out e, e]
    clear c h e
    unfold itm zeroI
    go_enter Try.func11, Try.ntmps11
    go_wp2
    refine bodyPost_ret (v := .tuple #[.agg #[.int .i64 0, .int .i64 0, .int .i64 0, .int .i64 0, .int .i64 0, .int .i64 0, .int .i64 0], .bool false]) (by simp [results, Try.results11, go_sem, *]) rfl ⟨rfl, ?_⟩
    exact tbel1 w _
  · by_cases h1 : (l.length : Int) ≤ n
    · have e := hasV_no (l := l) (.inr h1)
      rw [atV_out e, e]
      clear h e
      unfold itm zeroI
      go_enter Try.func11, Try.ntmps11
      go_wp2_with fail
      refine (c _ (tbel1 w _)).mono ?_
      rintro e w1 ⟨rfl, rfl⟩
      clear c
      go_wp2
      refine bodyPost_ret (v := .tuple #[.agg #[.int .i64 0, .int .i64 0, .int .i64 0, .int .i64 0, .int .i64 0, .int .i64 0, .int .i64 0], .bool false]) (by simp [results, Try.results11, go_sem, *]) rfl ⟨rfl, ?_⟩
      exact tbel1 w _
    · obtain ⟨k, rfl⟩ : ∃ k : Nat, n = k := ⟨n.toNat, by omega⟩
      have hk : k < l.length := by omega
      rw [atV_in hk, hasV_yes (by omega) (by omega)]
      rcases h with ⟨_, rfl⟩ | ⟨p, a, cap, rfl, h2, h3, h4, h5⟩
      · simp at hk
      obtain ⟨b, off, rfl, hB, d0, d1, d2, d3, d4, d5, d6⟩ := (h5.carry (tbel1 w (.cells #[.int .i64 0, .int .i64 0, .int .i64 0, .int .i64 0, .int .i64 0, .int .i64 0, .int .i64 0] 31))).item hk
      have B0 := h2.old (tbel1 w (.cells #[.int .i64 0, .int .i64 0, .int .i64 0, .int .i64 0, .int .i64 0, .int .i64 0, .int .i64 0] 31))
      have hp := B0.lt
      have q0 := B0.cell 0
      simp only [List.getElem?_toArray, List.getElem?_cons_zero] at q0
      clear h5 h2 B0
      generalize l.getD k zeroI = x at *
      obtain ⟨x0, x1, x2, x3, x4, x5, x6⟩ := x
      unfold itm
      dsimp only at *
      go_enter Try.func11, Try.ntmps11
      go_wp2_with fail
      refine (c _ (tbel1 w _)).mono ?_
      rintro e w1 ⟨rfl, rfl⟩
      clear c
      go_wp2
      refine bodyPost_ret (v := .tuple #[.agg #[.int .i64 x0, .int .i64 x1, .int .i64 x2, .int .i64 x3, .int .i64 x4, .int .i64 x5, .int .i64 x6], .bool true]) (by simp [results, Try.results11, go_sem, *]) rfl ⟨rfl, ?_⟩
      exact tbel1 w _
end Go.Proofs.Ytnajjgohodnfhaa
