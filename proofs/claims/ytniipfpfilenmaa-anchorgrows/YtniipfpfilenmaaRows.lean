/-
  No cell of these rows narrows 'for every input' (looked for: loops, veiled, ifaces, maps, wideKeys, modest, calm, conditions, laid).
  DERIVED. THE GIVEN ROWS OF THIS SEAT. 3 by the template 'for every input the law returns true; each argument reads behind the call as it read before'; 0 by the template 'total and deterministic' (their statements: YtniipfpfilenmaaTotals.lean).
  GIVEN WITH THE SEED: the statements are not yours to turn. If you find one false, say at which input.
  Laid BY PROGRAM, IN A SANDBOX (cutbox-rows.mjs): the forced cells as the released guide's own fill.sh prints them over the translation 3a9bfb1a32842dcf… (all of the seat's roots in one cut). By AI agents, Wed Nov 11 2026. No macro, syntax, notation, axiom, sorry.
-/
import Derived.Test.YtniipfpfilenmaaChecked
import GoSem.Claim
import GoSem.ClaimJoined
import GoSem.ClaimMapViews
import Derived.JoinedTies
import Derived.KernelRfl
namespace Go.Proofs.Ytniipfpfilenmaa
/- THE CELL 'sum', in the pinned program and in every row, IS THE sha256 OF THE DUMP (.gsa) THAT YtniipfpfilenmaaProg.lean LOADS. Nothing in Lean hashes anything: it is a label: what it is worth is what the hold of that sum in a sandbox is worth. -/
noncomputable def Try.pinned : Pinned := { name := "ytniipfpfilenmaa", sum := "3a9bfb1a32842dcf5e3f62f0f2c3b66e80f297e84966c7b7ebf2823c722ee09d", checked := Try.checked }
namespace Rows
def none {H : Type} : Left H := { results := [], args := [] }

/-- 'tympanlaw21.AnchorTells': WHATEVER THE INPUT: true; the input reads as it did. -/
def anchorTellsSpec : ChangeSpec := { name := "anchorTells", fn := fun _ => fun
  | [d1, d2, d3] => { results := [.lit (.bool true)], args := [d1, d2, d3] }
  | _ => none }
def anchorTellsRow : OpenClaim := { program := "ytniipfpfilenmaa", sum := "3a9bfb1a32842dcf5e3f62f0f2c3b66e80f297e84966c7b7ebf2823c722ee09d", func := "tympan/tympanlaw21.AnchorTells", spec := "anchorTells", apart := false }
def AnchorTellsSaid : Prop := anchorTellsRow.holds Try.pinned (OpenSpec.ofChange anchorTellsSpec)

/-- ITS FALSE NEIGHBOUR: 'it returns false'. Refute it at one input. -/
def anchorTellsWrong : ChangeSpec := { name := "anchorTells", fn := fun _ => fun
  | [d1, d2, d3] => { results := [.lit (.bool false)], args := [d1, d2, d3] }
  | _ => none }
def AnchorTellsWrongFalsely : Prop := anchorTellsRow.holds Try.pinned (OpenSpec.ofChange anchorTellsWrong)

/-- 'tympanlaw21.AnchorGrows': WHATEVER THE INPUT: true; the input reads as it did. -/
def anchorGrowsSpec : ChangeSpec := { name := "anchorGrows", fn := fun _ => fun
  | [d1, d2, d3] => { results := [.lit (.bool true)], args := [d1, d2, d3] }
  | _ => none }
def anchorGrowsRow : OpenClaim := { program := "ytniipfpfilenmaa", sum := "3a9bfb1a32842dcf5e3f62f0f2c3b66e80f297e84966c7b7ebf2823c722ee09d", func := "tympan/tympanlaw21.AnchorGrows", spec := "anchorGrows", apart := false }
def AnchorGrowsSaid : Prop := anchorGrowsRow.holds Try.pinned (OpenSpec.ofChange anchorGrowsSpec)

/-- ITS FALSE NEIGHBOUR: 'it returns false'. Refute it at one input. -/
def anchorGrowsWrong : ChangeSpec := { name := "anchorGrows", fn := fun _ => fun
  | [d1, d2, d3] => { results := [.lit (.bool false)], args := [d1, d2, d3] }
  | _ => none }
def AnchorGrowsWrongFalsely : Prop := anchorGrowsRow.holds Try.pinned (OpenSpec.ofChange anchorGrowsWrong)

/-- 'tympanlaw21.AnchorNone': WHATEVER THE INPUT: true; the input reads as it did. -/
def anchorNoneSpec : ChangeSpec := { name := "anchorNone", fn := fun _ => fun
  | [d1, d2] => { results := [.lit (.bool true)], args := [d1, d2] }
  | _ => none }
def anchorNoneRow : OpenClaim := { program := "ytniipfpfilenmaa", sum := "3a9bfb1a32842dcf5e3f62f0f2c3b66e80f297e84966c7b7ebf2823c722ee09d", func := "tympan/tympanlaw21.AnchorNone", spec := "anchorNone", apart := false }
def AnchorNoneSaid : Prop := anchorNoneRow.holds Try.pinned (OpenSpec.ofChange anchorNoneSpec)

/-- ITS FALSE NEIGHBOUR: 'it returns false'. Refute it at one input. -/
def anchorNoneWrong : ChangeSpec := { name := "anchorNone", fn := fun _ => fun
  | [d1, d2] => { results := [.lit (.bool false)], args := [d1, d2] }
  | _ => none }
def AnchorNoneWrongFalsely : Prop := anchorNoneRow.holds Try.pinned (OpenSpec.ofChange anchorNoneWrong)

/- THE SECOND FORM. 'bulk': how many values and letters a reading holds, each counted each time it is reached (what is shared counts as often as it is met; a slice's spare places count too). A statement '..UptoSaid' is the law's where the arguments, and the package variables that the reading takes, are together of bulk at most 1048576: NARROWER than '..Said'. Prove '..Said' where nothing that the law and all that it calls make is longer than what came in: it says more and counts as full. Else prove '..UptoSaid'. A law counts once. -/
mutual
def uptoBulk {H : Type} : DataW H → Nat
  | .lit (.string bytes) => bytes.length + 1
  | .lit _ => 1
  | .nil => 1
  | .ptr d => uptoBulk d + 1
  | .slice elems spare => uptoBulkAll elems + uptoBulkAll spare + 1
  | .agg parts => uptoBulkAll parts + 1
  | .iface _ d => uptoBulk d + 1
  | .map entries => uptoBulkEntries entries + 1
  | .held _ => 1
def uptoBulkAll {H : Type} : List (DataW H) → Nat
  | [] => 0
  | d :: r => uptoBulk d + uptoBulkAll r
def uptoBulkEntries {H : Type} : List (Lit × DataW H) → Nat
  | [] => 0
  | x :: r => uptoBulkEntry x + uptoBulkEntries r
def uptoBulkEntry {H : Type} : Lit × DataW H → Nat
  | (.string bytes, d) => bytes.length + uptoBulk d + 1
  | (_, d) => uptoBulk d + 1
 end
def uptoSmall : (H : Type) → List (DataW H) → Bool := fun _ ds => decide (uptoBulkAll ds ≤ 1048576)
def OpenSpec.upto (s : _root_.Go.ChangeSpec) : _root_.Go.OpenSpec := { _root_.Go.OpenSpec.ofChange s with cond := some uptoSmall }

/-- 'tympanlaw21.AnchorTells', WHERE WHAT IT READS IS OF BULK AT MOST 1048576: true; the input reads as it did. -/
def anchorTellsUptoRow : OpenClaim := { program := "ytniipfpfilenmaa", sum := "3a9bfb1a32842dcf5e3f62f0f2c3b66e80f297e84966c7b7ebf2823c722ee09d", func := "tympan/tympanlaw21.AnchorTells", spec := "anchorTells", apart := false, narrowed := true }
def AnchorTellsUptoSaid : Prop := anchorTellsUptoRow.holds Try.pinned (OpenSpec.upto anchorTellsSpec)

/-- 'tympanlaw21.AnchorGrows', WHERE WHAT IT READS IS OF BULK AT MOST 1048576: true; the input reads as it did. -/
def anchorGrowsUptoRow : OpenClaim := { program := "ytniipfpfilenmaa", sum := "3a9bfb1a32842dcf5e3f62f0f2c3b66e80f297e84966c7b7ebf2823c722ee09d", func := "tympan/tympanlaw21.AnchorGrows", spec := "anchorGrows", apart := false, narrowed := true }
def AnchorGrowsUptoSaid : Prop := anchorGrowsUptoRow.holds Try.pinned (OpenSpec.upto anchorGrowsSpec)

/-- 'tympanlaw21.AnchorNone', WHERE WHAT IT READS IS OF BULK AT MOST 1048576: true; the input reads as it did. -/
def anchorNoneUptoRow : OpenClaim := { program := "ytniipfpfilenmaa", sum := "3a9bfb1a32842dcf5e3f62f0f2c3b66e80f297e84966c7b7ebf2823c722ee09d", func := "tympan/tympanlaw21.AnchorNone", spec := "anchorNone", apart := false, narrowed := true }
def AnchorNoneUptoSaid : Prop := anchorNoneUptoRow.holds Try.pinned (OpenSpec.upto anchorNoneSpec)

end Rows
end Go.Proofs.Ytniipfpfilenmaa
