/- Items, and whether a kind is among others: slices.Index, slices.Contains, item.is. -/
import Derived.Test.YtopifminodlpbaaSSum
import Derived.Test.YtopifminodlpbaaTRow
import Derived.Test.YtopifminodlpbaaBlk
namespace Go.Proofs.Ytopifminodlpbaa
open Go.RowKit
set_option maxRecDepth 20000
set_option linter.unusedVariables false
set_option linter.unusedSimpArgs false

/-- An item. -/
structure I7 where
  k : Int
  h : Int
  f : Int
  s : Int
  o : Int
  r : Int
  n : Int
def itm (x : I7) : Value := .agg #[.int .i64 x.k, .int .i64 x.h, .int .i64 x.f, .int .i64 x.s, .int .i64 x.o, .int .i64 x.r, .int .i64 x.n]
def inI (x : I7) : Prop := inR x.k ∧ inR x.h ∧ inR x.f ∧ inR x.s ∧ inR x.o ∧ inR x.r ∧ inR x.n
/-- Is v among l? -/
def hasK (l : List Int) (v : Int) : Bool := decide (v ∈ l)
theorem hasK_take {l : List Int} {k : Nat} {v : Int} (hk : k < l.length) (h : hasK (l.take k) v = false) (hv : v ≠ l.getD k 0) : hasK (l.take (k + 1)) v = false := by
  unfold hasK at *
  rw [List.getD_eq_getElem?_getD, List.getElem?_eq_getElem hk, Option.getD_some] at hv
  rw [List.take_add_one, List.getElem?_eq_getElem hk]
  rw [decide_eq_false_iff_not] at h ⊢
  intro hm
  rcases List.mem_append.1 hm with h1 | h1
  · exact h h1
  · exact hv (List.mem_singleton.1 h1)
theorem hasK_at {l : List Int} {k : Nat} {v : Int} (hk : k < l.length) (hv : v = l.getD k 0) : hasK l v = true := by
  unfold hasK
  rw [List.getD_eq_getElem?_getD, List.getElem?_eq_getElem hk] at hv
  simp at hv ⊢
  rw [hv]
  exact List.getElem_mem hk

theorem index_any (a : Option Addr) (cap : Nat) (l : List Int) (v : Int) (w : World) (hn : l.length ≤ 1000000) (hr : IRow w.heap.size w a l) :
    Calls Try.prog 35 #[.slice a l.length cap, .int .i64 v] w fun e w' => ∃ i : Int, e = .returned (.int .i64 i) ∧ decide (0 ≤ i) = hasK l v ∧ w' = w := by
  go_enter Try.func35, Try.ntmps35
  go_wp2_with fail
  go_loopw [8] (fun i wr => ∃ k : Nat, k ≤ l.length ∧ i = .int .i64 k ∧ wr = w ∧ Hid (hasK (l.take k) v = false)) (fun i _ => l.length - (intOf i).toNat)
  case atStart => exact ⟨0, Nat.zero_le _, rfl, rfl, Lib.hid (by simp [hasK])⟩
  case round =>
    obtain ⟨k, hk, rfl, rfl, HN⟩ := hrel
    by_cases hlt : k < l.length
    · obtain ⟨hyin, b, off, rfl, hB, hck⟩ := hr k hlt
      have HR := Lib.hid hr
      clear hr
      obtain ⟨y, hy⟩ : ∃ y, y = l.getD k 0 := ⟨_, rfl⟩
      rw [← hy] at hck hyin
      have HY := Lib.hid hy
      clear hy
      by_cases he : v = y
      · subst he
        go_wp2
        go_ret
        exact ⟨k, rfl, by rw [hasK_at hlt HY.out]; simp, rfl⟩
      · go_wp2
        go_roundw
        case rel => exact ⟨k + 1, by omega, by go_num, trivial, Lib.hid (hasK_take hlt HN.out (by rw [← HY.out]; exact he))⟩
        case measure => simp [intOf]; omega
    · have hh : hasK l v = false := by have := HN.out; rwa [List.take_of_length_le (by omega)] at this
      go_wp2
      go_ret
      exact ⟨-1, rfl, by rw [hh]; rfl, rfl⟩
theorem contains_any (a : Option Addr) (cap : Nat) (l : List Int) (v : Int) (w : World) (hn : l.length ≤ 1000000) (hr : IRow w.heap.size w a l) :
    Calls Try.prog 34 #[.slice a l.length cap, .int .i64 v] w fun e w' => e = .returned (.bool (hasK l v)) ∧ w' = w := by
  have c := index_any a cap l v w hn hr
  clear hr
  go_enter Try.func34, Try.ntmps34
  go_wp2_with fail
  refine c.mono ?_
  rintro e w1 ⟨i, rfl, hi, rfl⟩
  have HI := Lib.hid hi
  clear hi
  go_wp2
  go_ret
  exact ⟨by rw [← HI.out]; rfl, rfl⟩
theorem is_any (x : I7) (a : Option Addr) (cap : Nat) (l : List Int) (w : World) (hn : l.length ≤ 1000000) (hr : IRow w.heap.size w a l) :
    Calls Try.prog 33 #[itm x, .slice a l.length cap] w fun e w' => e = .returned (.bool (hasK l x.k)) ∧ Below w.heap.size w w' := by
  have c := fun w' (h : Below w.heap.size w w') => contains_any a cap l x.k w' hn ((hr.carry h (Nat.le_refl _)).mono h.size)
  clear hr
  unfold itm
  obtain ⟨k, h, f, s, o, r, n⟩ := x
  go_enter Try.func33, Try.ntmps33
  go_wp2_with fail
  refine (c _ (tbel1 w _)).mono ?_
  rintro e w1 ⟨rfl, rfl⟩
  go_wp2
  go_ret
  exact ⟨rfl, tbel1 w _⟩
end Go.Proofs.Ytopifminodlpbaa
