/- Items, and whether a kind is among others: slices.Index, slices.Contains, item.is. -/
import Derived.Test.YtniipfpfilenmaaSSum
import Derived.Test.YtniipfpfilenmaaTRow
import Derived.Test.YtniipfpfilenmaaBlk
namespace Go.Proofs.Ytniipfpfilenmaa
open Go.RowKit
set_option maxRecDepth 20000
set_option linter.unusedVariables false
set_option linter.unusedSimpArgs false

/-- An item. -/
structure I7 where
  k : Int
  h : Int
  f : Int
  s : Int
  o : Int
  r : Int
  n : Int
def itm (x : I7) : Value := .agg #[.int .i64 x.k, .int .i64 x.h, .int .i64 x.f, .int .i64 x.s, .int .i64 x.o, .int .i64 x.r, .int .i64 x.n]
def inI (x : I7) : Prop := inR x.k ∧ inR x.h ∧ inR x.f ∧ inR x.s ∧ inR x.o ∧ inR x.r ∧ inR x.n
/-- Is v among l? -/
def hasK (l : List Int) (v : Int) : Bool := decide (v ∈ l)
theorem hasK_take {l : List Int} {k : Nat} {v : Int} (hk : k < l.length) (h : hasK (l.take k) v = false) (hv : v ≠ l.getD k 0) : hasK (l.take (k + 1)) v = false := by
  unfold hasK at *
  rw [List.getD_eq_getElem?_getD, List.getElem?_eq_getElem hk, Option.getD_some] at hv
  rw [List.take_add_one, List.getElem?_eq_getElem hk]
  rw [decide_eq_false_iff_not] at h ⊢
  intro hm
  rcases List.mem_append.1 hm with h1 | h1
  · exact h h1
  · exact hv (List.mem_singleton.1 h1)
theorem hasK_at {l : List Int} {k : Nat} {v : Int} (hk : k < l.length) (hv : v = l.getD k 0) : hasK l v = true := by
  unfold hasK
  rw [List.getD_eq_getElem?_getD, List.getElem?_eq_getElem hk] at hv
  simp at hv ⊢
  rw [hv]
  exact List.getElem_mem hk

end Go.Proofs.Ytniipfpfilenmaa
