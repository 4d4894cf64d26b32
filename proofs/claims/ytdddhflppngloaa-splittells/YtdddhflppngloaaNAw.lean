/- awake of layer 11. -/
import Derived.Test.YtdddhflppngloaaNSt
import Derived.Test.YtdddhflppngloaaNHi
namespace Go.Proofs.Ytdddhflppngloaa
open Go.RowKit
set_option maxRecDepth 20000
set_option linter.unusedVariables false
set_option linter.unusedSimpArgs false

theorem row_blk {w : World} {g B : Nat} {T : TypeId} {l : List Int} (h : Blk w g (l.map (Value.int .i64)).toArray T) (hB : g < B) (ha : ∀ x ∈ l, inR x) : IRow B w (some ⟨g, 0, none⟩) l := fun k hk => by
  have e : l.getD k 0 = l[k] := by rw [List.getD_eq_getElem?_getD, List.getElem?_eq_getElem hk]; rfl
  refine ⟨by rw [e]; exact ha _ (List.getElem_mem hk), g, 0, rfl, hB, ?_⟩
  rw [h.cell, e]
  simp [hk]
theorem wake_facts : checkN [3, 4, 5] [7, 10000] = true ∧ mayN [3, 4, 5] [7, 10000] 1 = true ∧ mayN [3, 4, 5] [7, 10000] 2 = false ∧ highN [3, 4, 5] 1 3 = 9 ∧ penN [3, 4, 5] [7, 10000] 1 = 7 ∧ firstN [3, 4, 5] [7, 10000] 1 = 3 := by decide
end Go.Proofs.Ytdddhflppngloaa
