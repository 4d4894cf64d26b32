/- The other calls of package item, and the document's. -/
import Derived.Test.YtniipfpfilenmaaIMath
import Derived.Test.YtniipfpfilenmaaTSm
namespace Go.Proofs.Ytniipfpfilenmaa
open Go.RowKit
set_option maxRecDepth 20000
set_option linter.unusedVariables false
set_option linter.unusedSimpArgs false

def looseI (x : I7) : Bool := hasK [2, 3] x.k
def forcesI (x : I7) : Bool := hasK [3] x.k && decide (x.n ≤ -10000)
def forbidsI (x : I7) : Bool := hasK [3] x.k && decide (10000 ≤ x.n)
def totalI (x : I7) : T6 := if x.k = 1 then boxT x.h else if x.k = 2 then glueT x.h x.s x.o x.r else zeroT
theorem below_set6 {B b : Nat} {w x : World} (h : Below B w x) (hb : B ≤ b) (v0 v1 v2 v3 v4 v5 : Value) : Below B w ((((((x.setCell ⟨b, 0, none⟩ v0).setCell ⟨b, 1, none⟩ v1).setCell ⟨b, 2, none⟩ v2).setCell ⟨b, 3, none⟩ v3).setCell ⟨b, 4, none⟩ v4).setCell ⟨b, 5, none⟩ v5) :=
  (((((h.setCell (p := ⟨b, 0, none⟩) hb v0).setCell (p := ⟨b, 1, none⟩) hb v1).setCell (p := ⟨b, 2, none⟩) hb v2).setCell (p := ⟨b, 3, none⟩) hb v3).setCell (p := ⟨b, 4, none⟩) hb v4).setCell (p := ⟨b, 5, none⟩) hb v5
end Go.Proofs.Ytniipfpfilenmaa
