/- Of of package figure, and the document's. -/
import Derived.Test.YtniipfpfilenmaaUHi
import Derived.Test.YtniipfpfilenmaaNSt
namespace Go.Proofs.Ytniipfpfilenmaa
open Go.RowKit
set_option maxRecDepth 20000
set_option linter.unusedVariables false
set_option linter.unusedSimpArgs false

/-- The indices of the floats of class c among the first k. -/
def ofFU (l : List F3) (c : Int) : Nat → List Int
  | 0 => []
  | k + 1 => if (l.getD k zeroF).c = c then ofFU l c k ++ [(k : Int)] else ofFU l c k
def ofF (l : List F3) (c : Int) : List Int := ofFU l c l.length
theorem ofFU_len (l : List F3) (c : Int) (k : Nat) : (ofFU l c k).length ≤ k := by
  induction k with
  | zero => simp [ofFU]
  | succ k ih => unfold ofFU; split <;> (try simp) <;> omega
theorem ofFU_mem (l : List F3) (c : Int) (k : Nat) : ∀ x ∈ ofFU l c k, 0 ≤ x ∧ x < k := by
  induction k with
  | zero => simp [ofFU]
  | succ k ih =>
    unfold ofFU
    intro x hx
    split at hx
    · rcases List.mem_append.1 hx with h | h
      · have := ih x h; omega
      · have := List.mem_singleton.1 h; omega
    · have := ih x hx; omega
theorem ofFU_in (l : List F3) (c : Int) (k : Nat) (hk : k ≤ 1000000) : ∀ j, inR ((ofFU l c k).getD j 0) := fun j => by
  rcases Nat.lt_or_ge j (ofFU l c k).length with h | h
  · rw [List.getD_eq_getElem?_getD, List.getElem?_eq_getElem h, Option.getD_some]
    have := ofFU_mem l c k _ (List.getElem_mem h)
    unfold inR
    omega
  · rw [List.getD_eq_getElem?_getD, List.getElem?_eq_none h]
    simp [inR]
theorem OwnN.alloc {w : World} {base : Nat} {v : Value} {l : List Int} (h : OwnN w base v l) (o : Obj) : OwnN (w.alloc o) base v l := ⟨h.own.alloc _, h.ins⟩
theorem cell_one_two (w : World) (o : Obj) (x : Value) (t : TypeId) : ∀ j u, [x][j]? = some u → ((w.alloc o).alloc (.cells #[x] t)).cell? ((⟨w.heap.size + 1, 0, none⟩ : Addr).add j) = some u := by
  have := cell_one_new (w.alloc o) x t
  rwa [World.size_alloc] at this
end Go.Proofs.Ytniipfpfilenmaa
