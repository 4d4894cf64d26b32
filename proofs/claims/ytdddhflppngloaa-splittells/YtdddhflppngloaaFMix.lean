/- What a law's walk is told of a struct of slices of integers that came in. Nothing of a program is in it. -/
import Derived.Test.YtdddhflppngloaaFLeaf
import Derived.Test.YtdddhflppngloaaSIs
namespace Go.Proofs.Ytdddhflppngloaa
open Go.RowKit
set_option maxRecDepth 20000
set_option linter.unusedVariables false

theorem Leafy.ints {H : Type} {enc : TypeId × Value → H} {P : Program} {w : World} {base : Nat} {held : Bool} {ts : List TypeId} {cs : List Value} (h : Leafy enc P w base (fun _ => true) held ts cs) (i : Nat) {u e : TypeId} {c : Value} {k : IntKind}
    (hu : ts[i]? = some u) (hs : P.underlying u = some (.slice e)) (hk : P.underlying e = some (.int k)) (h1 : P.cellsOf e = 1) (hc : cs[i]? = some c) : ∃ a len cap zs, c = .slice a len cap ∧ IsRow k w a len cap zs := by
  obtain ⟨n, y, hy⟩ := h i u c hu hc
  rcases Go.ChangeShapes.open_ints hs hk h1 hy with ⟨hcs, _⟩ | ⟨x, l, cp, zs, hcs, _, hl, hm, hz, _, hcell, hwz⟩
  · exact ⟨none, 0, 0, [], by simpa using hcs, .inl ⟨rfl, rfl, rfl, rfl⟩⟩
  · exact ⟨some x, l, cp, zs, by simpa using hcs, .inr ⟨_, rfl, hl, hm, by simpa using hz, hcell, hwz⟩⟩
end Go.Proofs.Ytdddhflppngloaa
