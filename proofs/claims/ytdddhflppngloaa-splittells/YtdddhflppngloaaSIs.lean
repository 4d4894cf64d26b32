/- A slice of numbers as the frame hands it over. -/
import Derived.Test.YtdddhflppngloaaSSum
import Derived.OpenShut
namespace Go.Proofs.Ytdddhflppngloaa
open Go.RowKit
set_option maxRecDepth 20000
set_option linter.unusedVariables false

def IsRow (k : IntKind) (w : World) (a : Option Addr) (len cap : Nat) (zs : List Int) : Prop :=
  (a = none ∧ len = 0 ∧ cap = 0 ∧ zs = []) ∨
  ∃ x, a = some x ∧ len ≤ cap ∧ cap ≤ maxLen ∧ zs.length = cap ∧ (∀ i, i < zs.length → w.cell? (x.add i) = some (.int k (zs.getD i 0))) ∧ ∀ n ∈ zs, (Lit.int k n).wf = true
theorem swfR {x : Int} (h : (Lit.int .i64 x).wf = true) : inR x := by
  simp [Lit.wf, IntKind.min, IntKind.max, IntKind.signed, IntKind.bits] at h
  exact h
theorem IsRow.irow {w : World} {a : Option Addr} {len cap : Nat} {zs : List Int} (h : IsRow .i64 w a len cap zs) : ∃ l : List Int, l.length = len ∧ IRow w.heap.size w a l ∧ len ≤ cap ∧ cap ≤ maxLen := by
  rcases h with ⟨rfl, rfl, rfl, _⟩ | ⟨x, rfl, hl, hm, hz, hc, hwf⟩
  · exact ⟨[], rfl, fun k hk => absurd hk (by simp), Nat.le_refl _, by decide⟩
  · refine ⟨zs.take len, by simp; omega, fun k hk => ?_, hl, hm⟩
    have hk' : k < len := by rw [List.length_take] at hk; omega
    rw [take_getD hk]
    obtain ⟨b, off, rfl, hc'⟩ := ints_at hc (by omega)
    have hg : zs.getD k 0 ∈ zs := by
      rw [List.getD_eq_getElem?_getD, List.getElem?_eq_getElem (by omega)]; simp
    exact ⟨swfR (hwf _ hg), b, off, rfl, World.block_lt_of_cell? _ _ (hc' 0 (by omega)), hc' k (by omega)⟩
end Go.Proofs.Ytdddhflppngloaa
