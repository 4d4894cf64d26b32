/- A slice of numbers as the frame hands it over. What a law's walk is told of a struct of slices of integers that came in. Nothing of a program is in it. -/
import Derived.Test.YtjfjekncmejfpaaSSum
import Derived.OpenShut
import Derived.Test.YtjfjekncmejfpaaFLeaf
namespace Go.Proofs.Ytjfjekncmejfpaa
open Go.RowKit
set_option maxRecDepth 20000
set_option linter.unusedVariables false

def IsRow (k : IntKind) (w : World) (a : Option Addr) (len cap : Nat) (zs : List Int) : Prop :=
  (a = none ∧ len = 0 ∧ cap = 0 ∧ zs = []) ∨
  ∃ x, a = some x ∧ len ≤ cap ∧ cap ≤ maxLen ∧ zs.length = cap ∧ (∀ i, i < zs.length → w.cell? (x.add i) = some (.int k (zs.getD i 0))) ∧ ∀ n ∈ zs, (Lit.int k n).wf = true
theorem swfR {x : Int} (h : (Lit.int .i64 x).wf = true) : inR x := by
  simp [Lit.wf, IntKind.min, IntKind.max, IntKind.signed, IntKind.bits] at h
  exact h
theorem IsRow.irow {w : World} {a : Option Addr} {len cap : Nat} {zs : List Int} (h : IsRow .i64 w a len cap zs) : ∃ l : List Int, l.length = len ∧ IRow w.heap.size w a l ∧ len ≤ cap ∧ cap ≤ maxLen := by
  rcases h with ⟨rfl, rfl, rfl, _⟩ | ⟨x, rfl, hl, hm, hz, hc, hwf⟩
  · exact ⟨[], rfl, fun k hk => absurd hk (by simp), Nat.le_refl _, by decide⟩
  · refine ⟨zs.take len, by simp; omega, fun k hk => ?_, hl, hm⟩
    have hk' : k < len := by rw [List.length_take] at hk; omega
    rw [take_getD hk]
    obtain ⟨b, off, rfl, hc'⟩ := ints_at hc (by omega)
    have hg : zs.getD k 0 ∈ zs := by
      rw [List.getD_eq_getElem?_getD, List.getElem?_eq_getElem (by omega)]; simp
    exact ⟨swfR (hwf _ hg), b, off, rfl, World.block_lt_of_cell? _ _ (hc' 0 (by omega)), hc' k (by omega)⟩
end Go.Proofs.Ytjfjekncmejfpaa
namespace Go.Proofs.Ytjfjekncmejfpaa
open Go.RowKit
set_option linter.unusedVariables false

theorem Leafy.ints {H : Type} {enc : TypeId × Value → H} {P : Program} {w : World} {base : Nat} {held : Bool} {ts : List TypeId} {cs : List Value} (h : Leafy enc P w base (fun _ => true) held ts cs) (i : Nat) {u e : TypeId} {c : Value} {k : IntKind}
    (hu : ts[i]? = some u) (hs : P.underlying u = some (.slice e)) (hk : P.underlying e = some (.int k)) (h1 : P.cellsOf e = 1) (hc : cs[i]? = some c) : ∃ a len cap zs, c = .slice a len cap ∧ IsRow k w a len cap zs := by
  obtain ⟨n, y, hy⟩ := h i u c hu hc
  rcases Go.ChangeShapes.open_ints hs hk h1 hy with ⟨hcs, _⟩ | ⟨x, l, cp, zs, hcs, _, hl, hm, hz, _, hcell, hwz⟩
  · exact ⟨none, 0, 0, [], by simpa using hcs, .inl ⟨rfl, rfl, rfl, rfl⟩⟩
  · exact ⟨some x, l, cp, zs, by simpa using hcs, .inr ⟨_, rfl, hl, hm, by simpa using hz, hcell, hwz⟩⟩
end Go.Proofs.Ytjfjekncmejfpaa
