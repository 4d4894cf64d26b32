/- Vertical lists in memory; Len and At of package vlist. -/
import Derived.Test.YtopifminodlpbaaAMath
import Derived.Test.YtopifminodlpbaaIFlt
import Derived.LoopN
namespace Go.Proofs.Ytopifminodlpbaa
open Go.RowKit
set_option maxRecDepth 20000
set_option linter.unusedVariables false
set_option linter.unusedSimpArgs false

/-- A vertical list of the items l: nil, or a pointer to a struct that holds a slice. -/
def VAt (w : World) (v : Value) (l : List I7) : Prop :=
  (v = .pointer none ∧ l = []) ∨ ∃ p a cap, v = .pointer (some ⟨p, 0, none⟩) ∧ Blk w p #[.slice a l.length cap] 41 ∧ l.length ≤ cap ∧ cap ≤ maxLen ∧ Els 7 encI w a l.length fun k => l.getD k zeroI
theorem VAt.carry {w w' : World} {v : Value} {l : List I7} (h : VAt w v l) (hb : Below w.heap.size w w') : VAt w' v l := by
  rcases h with h | ⟨p, a, cap, h1, h2, h3, h4, h5⟩
  · exact .inl h
  · exact .inr ⟨p, a, cap, h1, h2.old hb, h3, h4, h5.carry hb⟩
theorem vlen_any (v : Value) (l : List I7) (w : World) (h : VAt w v l) :
    Calls Try.prog 26 #[v] w fun e w' => e = .returned (.int .i64 l.length) ∧ w' = w := by
  rcases h with ⟨rfl, rfl⟩ | ⟨p, a, cap, rfl, h2, h3, h4, h5⟩
  · go_enter Try.func26, Try.ntmps26
    go_wp2
    go_ret
    exact ⟨rfl, rfl⟩
  · have hp := h2.lt
    have q0 := h2.cell 0
    simp only [List.getElem?_toArray, List.getElem?_cons_zero] at q0
    clear h5 h2
    go_enter Try.func26, Try.ntmps26
    go_wp2
    go_ret
    exact ⟨rfl, rfl⟩
/-- What At tells. -/
theorem vat_any (v : Value) (l : List I7) (n : Int) (w : World) (h : VAt w v l) (hl : l.length ≤ 1000000) :
    Calls Try.prog 20 #[v, .int .i64 n] w fun e w' => e = .returned (.tuple #[itm (atV l n), .bool (hasV l n)]) ∧ Below w.heap.size w w' := by
  have c := fun w' (hb : Below w.heap.size w w') => vlen_any v l w' (h.carry hb)
  by_cases h0 : n < 0
  · have e := hasV_no (l := l) (.inl h0)
    rw [atV_out e, e]
    clear c h e
    unfold itm zeroI
    go_enter Try.func20, Try.ntmps20
    go_wp2
    refine bodyPost_ret (v := .tuple #[.agg #[.int .i64 0, .int .i64 0, .int .i64 0, .int .i64 0, .int .i64 0, .int .i64 0, .int .i64 0], .bool false]) (by simp [results, Try.results20, go_sem, *]) rfl ⟨rfl, ?_⟩
    exact tbel1 w _
  · by_cases h1 : (l.length : Int) ≤ n
    · have e := hasV_no (l := l) (.inr h1)
      rw [atV_out e, e]
      clear h e
      unfold itm zeroI
      go_enter Try.func20, Try.ntmps20
      go_wp2_with fail
      refine (c _ (tbel1 w _)).mono ?_
      rintro e w1 ⟨rfl, rfl⟩
      clear c
      go_wp2
      refine bodyPost_ret (v := .tuple #[.agg #[.int .i64 0, .int .i64 0, .int .i64 0, .int .i64 0, .int .i64 0, .int .i64 0, .int .i64 0], .bool false]) (by simp [results, Try.results20, go_sem, *]) rfl ⟨rfl, ?_⟩
      exact tbel1 w _
    · obtain ⟨k, rfl⟩ : ∃ k : Nat, n = k := ⟨n.toNat, by omega⟩
      have hk : k < l.length := by omega
      rw [atV_in hk, hasV_yes (by omega) (by omega)]
      rcases h with ⟨_, rfl⟩ | ⟨p, a, cap, rfl, h2, h3, h4, h5⟩
      · simp at hk
      obtain ⟨b, off, rfl, hB, d0, d1, d2, d3, d4, d5, d6⟩ := (h5.carry (tbel1 w (.cells #[.int .i64 0, .int .i64 0, .int .i64 0, .int .i64 0, .int .i64 0, .int .i64 0, .int .i64 0] 28))).item hk
      have B0 := h2.old (tbel1 w (.cells #[.int .i64 0, .int .i64 0, .int .i64 0, .int .i64 0, .int .i64 0, .int .i64 0, .int .i64 0] 28))
      have hp := B0.lt
      have q0 := B0.cell 0
      simp only [List.getElem?_toArray, List.getElem?_cons_zero] at q0
      clear h5 h2 B0
      generalize l.getD k zeroI = x at *
      obtain ⟨x0, x1, x2, x3, x4, x5, x6⟩ := x
      unfold itm
      dsimp only at *
      go_enter Try.func20, Try.ntmps20
      go_wp2_with fail
      refine (c _ (tbel1 w _)).mono ?_
      rintro e w1 ⟨rfl, rfl⟩
      clear c
      go_wp2
      refine bodyPost_ret (v := .tuple #[.agg #[.int .i64 x0, .int .i64 x1, .int .i64 x2, .int .i64 x3, .int .i64 x4, .int .i64 x5, .int .i64 x6], .bool true]) (by simp [results, Try.results20, go_sem, *]) rfl ⟨rfl, ?_⟩
      exact tbel1 w _
end Go.Proofs.Ytopifminodlpbaa
