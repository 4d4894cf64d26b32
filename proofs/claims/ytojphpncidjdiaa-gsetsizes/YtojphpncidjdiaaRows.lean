/-
  No cell of these rows narrows 'for every input' (looked for: loops, veiled, ifaces, maps, wideKeys, modest, calm, conditions, laid).
  DERIVED. THE GIVEN ROWS OF THIS SEAT. 4 by the template 'for every input the law returns true; each argument reads behind the call as it read before'; 0 by the template 'total and deterministic' (their statements: YtojphpncidjdiaaTotals.lean).
  GIVEN WITH THE SEED: the statements are not yours to turn. If you find one false, say at which input.
  Laid BY PROGRAM, IN A SANDBOX (cutbox-rows.mjs): the forced cells as the released guide's own fill.sh prints them over the translation 1d666cdbc26691c0… (all of the seat's roots in one cut). By AI agents, Wed Nov 11 2026. No macro, syntax, notation, axiom, sorry.
-/
import Derived.Test.YtojphpncidjdiaaChecked
import GoSem.Claim
import GoSem.ClaimJoined
import GoSem.ClaimMapViews
import Derived.JoinedTies
import Derived.KernelRfl
namespace Go.Proofs.Ytojphpncidjdiaa
/- THE CELL 'sum', in the pinned program and in every row, IS THE sha256 OF THE DUMP (.gsa) THAT YtojphpncidjdiaaProg.lean LOADS. Nothing in Lean hashes anything: it is a label: what it is worth is what the hold of that sum in a sandbox is worth. -/
noncomputable def Try.pinned : Pinned := { name := "ytojphpncidjdiaa", sum := "1d666cdbc26691c047e1e706298b4fdb4dbccfa3d27642fa3719c81d1927052c", checked := Try.checked }
namespace Rows
def none {H : Type} : Left H := { results := [], args := [] }

/-- 'tympanlaw09.GsetTells': WHATEVER THE INPUT: true; the input reads as it did. -/
def gsetTellsSpec : ChangeSpec := { name := "gsetTells", fn := fun _ => fun
  | [d1, d2, d3] => { results := [.lit (.bool true)], args := [d1, d2, d3] }
  | _ => none }
def gsetTellsRow : OpenClaim := { program := "ytojphpncidjdiaa", sum := "1d666cdbc26691c047e1e706298b4fdb4dbccfa3d27642fa3719c81d1927052c", func := "tympan/tympanlaw09.GsetTells", spec := "gsetTells", unfollowed := true, recurses := true, named := ["math/bits.divideError", "math/bits.overflowError"], apart := false }
def GsetTellsSaid : Prop := gsetTellsRow.holds Try.pinned (OpenSpec.ofChange gsetTellsSpec)

/-- ITS FALSE NEIGHBOUR: 'it returns false'. Refute it at one input. -/
def gsetTellsWrong : ChangeSpec := { name := "gsetTells", fn := fun _ => fun
  | [d1, d2, d3] => { results := [.lit (.bool false)], args := [d1, d2, d3] }
  | _ => none }
def GsetTellsWrongFalsely : Prop := gsetTellsRow.holds Try.pinned (OpenSpec.ofChange gsetTellsWrong)

/-- 'tympanlaw09.GsetBad': WHATEVER THE INPUT: true; the input reads as it did. -/
def gsetBadSpec : ChangeSpec := { name := "gsetBad", fn := fun _ => fun
  | [d1, d2, d3] => { results := [.lit (.bool true)], args := [d1, d2, d3] }
  | _ => none }
def gsetBadRow : OpenClaim := { program := "ytojphpncidjdiaa", sum := "1d666cdbc26691c047e1e706298b4fdb4dbccfa3d27642fa3719c81d1927052c", func := "tympan/tympanlaw09.GsetBad", spec := "gsetBad", unfollowed := true, recurses := true, named := ["math/bits.divideError", "math/bits.overflowError"], apart := false }
def GsetBadSaid : Prop := gsetBadRow.holds Try.pinned (OpenSpec.ofChange gsetBadSpec)

/-- ITS FALSE NEIGHBOUR: 'it returns false'. Refute it at one input. -/
def gsetBadWrong : ChangeSpec := { name := "gsetBad", fn := fun _ => fun
  | [d1, d2, d3] => { results := [.lit (.bool false)], args := [d1, d2, d3] }
  | _ => none }
def GsetBadWrongFalsely : Prop := gsetBadRow.holds Try.pinned (OpenSpec.ofChange gsetBadWrong)

/-- 'tympanlaw09.GsetSizes': WHATEVER THE INPUT: true; the input reads as it did. -/
def gsetSizesSpec : ChangeSpec := { name := "gsetSizes", fn := fun _ => fun
  | [d1, d2] => { results := [.lit (.bool true)], args := [d1, d2] }
  | _ => none }
def gsetSizesRow : OpenClaim := { program := "ytojphpncidjdiaa", sum := "1d666cdbc26691c047e1e706298b4fdb4dbccfa3d27642fa3719c81d1927052c", func := "tympan/tympanlaw09.GsetSizes", spec := "gsetSizes", unfollowed := true, recurses := true, named := ["math/bits.divideError", "math/bits.overflowError"], apart := false }
def GsetSizesSaid : Prop := gsetSizesRow.holds Try.pinned (OpenSpec.ofChange gsetSizesSpec)

/-- ITS FALSE NEIGHBOUR: 'it returns false'. Refute it at one input. -/
def gsetSizesWrong : ChangeSpec := { name := "gsetSizes", fn := fun _ => fun
  | [d1, d2] => { results := [.lit (.bool false)], args := [d1, d2] }
  | _ => none }
def GsetSizesWrongFalsely : Prop := gsetSizesRow.holds Try.pinned (OpenSpec.ofChange gsetSizesWrong)

/-- 'tympanlaw09.GsetAdds': WHATEVER THE INPUT: true; the input reads as it did. -/
def gsetAddsSpec : ChangeSpec := { name := "gsetAdds", fn := fun _ => fun
  | [d1, d2, d3] => { results := [.lit (.bool true)], args := [d1, d2, d3] }
  | _ => none }
def gsetAddsRow : OpenClaim := { program := "ytojphpncidjdiaa", sum := "1d666cdbc26691c047e1e706298b4fdb4dbccfa3d27642fa3719c81d1927052c", func := "tympan/tympanlaw09.GsetAdds", spec := "gsetAdds", unfollowed := true, recurses := true, named := ["math/bits.divideError", "math/bits.overflowError"], apart := false }
def GsetAddsSaid : Prop := gsetAddsRow.holds Try.pinned (OpenSpec.ofChange gsetAddsSpec)

/-- ITS FALSE NEIGHBOUR: 'it returns false'. Refute it at one input. -/
def gsetAddsWrong : ChangeSpec := { name := "gsetAdds", fn := fun _ => fun
  | [d1, d2, d3] => { results := [.lit (.bool false)], args := [d1, d2, d3] }
  | _ => none }
def GsetAddsWrongFalsely : Prop := gsetAddsRow.holds Try.pinned (OpenSpec.ofChange gsetAddsWrong)

/- THE SECOND FORM. 'bulk': how many values and letters a reading holds, each counted each time it is reached (what is shared counts as often as it is met; a slice's spare places count too). A statement '..UptoSaid' is the law's where the arguments, and the package variables that the reading takes, are together of bulk at most 1048576: NARROWER than '..Said'. Prove '..Said' where nothing that the law and all that it calls make is longer than what came in: it says more and counts as full. Else prove '..UptoSaid'. A law counts once. -/
mutual
def uptoBulk {H : Type} : DataW H → Nat
  | .lit (.string bytes) => bytes.length + 1
  | .lit _ => 1
  | .nil => 1
  | .ptr d => uptoBulk d + 1
  | .slice elems spare => uptoBulkAll elems + uptoBulkAll spare + 1
  | .agg parts => uptoBulkAll parts + 1
  | .iface _ d => uptoBulk d + 1
  | .map entries => uptoBulkEntries entries + 1
  | .held _ => 1
def uptoBulkAll {H : Type} : List (DataW H) → Nat
  | [] => 0
  | d :: r => uptoBulk d + uptoBulkAll r
def uptoBulkEntries {H : Type} : List (Lit × DataW H) → Nat
  | [] => 0
  | x :: r => uptoBulkEntry x + uptoBulkEntries r
def uptoBulkEntry {H : Type} : Lit × DataW H → Nat
  | (.string bytes, d) => bytes.length + uptoBulk d + 1
  | (_, d) => uptoBulk d + 1
 end
def uptoSmall : (H : Type) → List (DataW H) → Bool := fun _ ds => decide (uptoBulkAll ds ≤ 1048576)
def OpenSpec.upto (s : _root_.Go.ChangeSpec) : _root_.Go.OpenSpec := { _root_.Go.OpenSpec.ofChange s with cond := some uptoSmall }

/-- 'tympanlaw09.GsetTells', WHERE WHAT IT READS IS OF BULK AT MOST 1048576: true; the input reads as it did. -/
def gsetTellsUptoRow : OpenClaim := { program := "ytojphpncidjdiaa", sum := "1d666cdbc26691c047e1e706298b4fdb4dbccfa3d27642fa3719c81d1927052c", func := "tympan/tympanlaw09.GsetTells", spec := "gsetTells", unfollowed := true, recurses := true, named := ["math/bits.divideError", "math/bits.overflowError"], apart := false, narrowed := true }
def GsetTellsUptoSaid : Prop := gsetTellsUptoRow.holds Try.pinned (OpenSpec.upto gsetTellsSpec)

/-- 'tympanlaw09.GsetBad', WHERE WHAT IT READS IS OF BULK AT MOST 1048576: true; the input reads as it did. -/
def gsetBadUptoRow : OpenClaim := { program := "ytojphpncidjdiaa", sum := "1d666cdbc26691c047e1e706298b4fdb4dbccfa3d27642fa3719c81d1927052c", func := "tympan/tympanlaw09.GsetBad", spec := "gsetBad", unfollowed := true, recurses := true, named := ["math/bits.divideError", "math/bits.overflowError"], apart := false, narrowed := true }
def GsetBadUptoSaid : Prop := gsetBadUptoRow.holds Try.pinned (OpenSpec.upto gsetBadSpec)

/-- 'tympanlaw09.GsetSizes', WHERE WHAT IT READS IS OF BULK AT MOST 1048576: true; the input reads as it did. -/
def gsetSizesUptoRow : OpenClaim := { program := "ytojphpncidjdiaa", sum := "1d666cdbc26691c047e1e706298b4fdb4dbccfa3d27642fa3719c81d1927052c", func := "tympan/tympanlaw09.GsetSizes", spec := "gsetSizes", unfollowed := true, recurses := true, named := ["math/bits.divideError", "math/bits.overflowError"], apart := false, narrowed := true }
def GsetSizesUptoSaid : Prop := gsetSizesUptoRow.holds Try.pinned (OpenSpec.upto gsetSizesSpec)

/-- 'tympanlaw09.GsetAdds', WHERE WHAT IT READS IS OF BULK AT MOST 1048576: true; the input reads as it did. -/
def gsetAddsUptoRow : OpenClaim := { program := "ytojphpncidjdiaa", sum := "1d666cdbc26691c047e1e706298b4fdb4dbccfa3d27642fa3719c81d1927052c", func := "tympan/tympanlaw09.GsetAdds", spec := "gsetAdds", unfollowed := true, recurses := true, named := ["math/bits.divideError", "math/bits.overflowError"], apart := false, narrowed := true }
def GsetAddsUptoSaid : Prop := gsetAddsUptoRow.holds Try.pinned (OpenSpec.upto gsetAddsSpec)

end Rows
end Go.Proofs.Ytojphpncidjdiaa
