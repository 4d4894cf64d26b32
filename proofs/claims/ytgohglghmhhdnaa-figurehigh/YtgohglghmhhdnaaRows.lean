/-
  No cell of these rows narrows 'for every input' (looked for: loops, veiled, ifaces, maps, wideKeys, modest, calm, conditions, laid).
  DERIVED. THE GIVEN ROWS OF THIS SEAT. 3 by the template 'for every input the law returns true; each argument reads behind the call as it read before'; 0 by the template 'total and deterministic' (their statements: YtgohglghmhhdnaaTotals.lean).
  GIVEN WITH THE SEED: the statements are not yours to turn. If you find one false, say at which input.
  Laid BY PROGRAM, IN A SANDBOX (cutbox-rows.mjs): the forced cells as the released guide's own fill.sh prints them over the translation ca4a962ec05223ea… (all of the seat's roots in one cut). By AI agents, Wed Nov 11 2026. No macro, syntax, notation, axiom, sorry.
-/
import Derived.Test.YtgohglghmhhdnaaChecked
import GoSem.Claim
import GoSem.ClaimJoined
import GoSem.ClaimMapViews
import Derived.JoinedTies
import Derived.KernelRfl
namespace Go.Proofs.Ytgohglghmhhdnaa
/- THE CELL 'sum', in the pinned program and in every row, IS THE sha256 OF THE DUMP (.gsa) THAT YtgohglghmhhdnaaProg.lean LOADS. Nothing in Lean hashes anything: it is a label: what it is worth is what the hold of that sum in a sandbox is worth. -/
noncomputable def Try.pinned : Pinned := { name := "ytgohglghmhhdnaa", sum := "ca4a962ec05223ea71b87c78777834b58bbd1937a37d332c0c441e5b26cf31fe", checked := Try.checked }
namespace Rows
def none {H : Type} : Left H := { results := [], args := [] }

/-- 'tympanlaw12.FigureTells': WHATEVER THE INPUT: true; the input reads as it did. -/
def figureTellsSpec : ChangeSpec := { name := "figureTells", fn := fun _ => fun
  | [d] => { results := [.lit (.bool true)], args := [d] }
  | _ => none }
def figureTellsRow : OpenClaim := { program := "ytgohglghmhhdnaa", sum := "ca4a962ec05223ea71b87c78777834b58bbd1937a37d332c0c441e5b26cf31fe", func := "tympan/tympanlaw12.FigureTells", spec := "figureTells", unfollowed := true, recurses := true, apart := false }
def FigureTellsSaid : Prop := figureTellsRow.holds Try.pinned (OpenSpec.ofChange figureTellsSpec)

/-- ITS FALSE NEIGHBOUR: 'it returns false'. Refute it at one input. -/
def figureTellsWrong : ChangeSpec := { name := "figureTells", fn := fun _ => fun
  | [d] => { results := [.lit (.bool false)], args := [d] }
  | _ => none }
def FigureTellsWrongFalsely : Prop := figureTellsRow.holds Try.pinned (OpenSpec.ofChange figureTellsWrong)

/-- 'tympanlaw12.FigureHigh': WHATEVER THE INPUT: true; the input reads as it did. -/
def figureHighSpec : ChangeSpec := { name := "figureHigh", fn := fun _ => fun
  | [d1, d2, d3] => { results := [.lit (.bool true)], args := [d1, d2, d3] }
  | _ => none }
def figureHighRow : OpenClaim := { program := "ytgohglghmhhdnaa", sum := "ca4a962ec05223ea71b87c78777834b58bbd1937a37d332c0c441e5b26cf31fe", func := "tympan/tympanlaw12.FigureHigh", spec := "figureHigh", unfollowed := true, recurses := true, apart := false }
def FigureHighSaid : Prop := figureHighRow.holds Try.pinned (OpenSpec.ofChange figureHighSpec)

/-- ITS FALSE NEIGHBOUR: 'it returns false'. Refute it at one input. -/
def figureHighWrong : ChangeSpec := { name := "figureHigh", fn := fun _ => fun
  | [d1, d2, d3] => { results := [.lit (.bool false)], args := [d1, d2, d3] }
  | _ => none }
def FigureHighWrongFalsely : Prop := figureHighRow.holds Try.pinned (OpenSpec.ofChange figureHighWrong)

/-- 'tympanlaw12.FigureClasses': WHATEVER THE INPUT: true; the input reads as it did. -/
def figureClassesSpec : ChangeSpec := { name := "figureClasses", fn := fun _ => fun
  | [d1, d2] => { results := [.lit (.bool true)], args := [d1, d2] }
  | _ => none }
def figureClassesRow : OpenClaim := { program := "ytgohglghmhhdnaa", sum := "ca4a962ec05223ea71b87c78777834b58bbd1937a37d332c0c441e5b26cf31fe", func := "tympan/tympanlaw12.FigureClasses", spec := "figureClasses", unfollowed := true, recurses := true, apart := false }
def FigureClassesSaid : Prop := figureClassesRow.holds Try.pinned (OpenSpec.ofChange figureClassesSpec)

/-- ITS FALSE NEIGHBOUR: 'it returns false'. Refute it at one input. -/
def figureClassesWrong : ChangeSpec := { name := "figureClasses", fn := fun _ => fun
  | [d1, d2] => { results := [.lit (.bool false)], args := [d1, d2] }
  | _ => none }
def FigureClassesWrongFalsely : Prop := figureClassesRow.holds Try.pinned (OpenSpec.ofChange figureClassesWrong)

/- THE SECOND FORM. 'bulk': how many values and letters a reading holds, each counted each time it is reached (what is shared counts as often as it is met; a slice's spare places count too). A statement '..UptoSaid' is the law's where the arguments, and the package variables that the reading takes, are together of bulk at most 1048576: NARROWER than '..Said'. Prove '..Said' where nothing that the law and all that it calls make is longer than what came in: it says more and counts as full. Else prove '..UptoSaid'. A law counts once. -/
mutual
def uptoBulk {H : Type} : DataW H → Nat
  | .lit (.string bytes) => bytes.length + 1
  | .lit _ => 1
  | .nil => 1
  | .ptr d => uptoBulk d + 1
  | .slice elems spare => uptoBulkAll elems + uptoBulkAll spare + 1
  | .agg parts => uptoBulkAll parts + 1
  | .iface _ d => uptoBulk d + 1
  | .map entries => uptoBulkEntries entries + 1
  | .held _ => 1
def uptoBulkAll {H : Type} : List (DataW H) → Nat
  | [] => 0
  | d :: r => uptoBulk d + uptoBulkAll r
def uptoBulkEntries {H : Type} : List (Lit × DataW H) → Nat
  | [] => 0
  | x :: r => uptoBulkEntry x + uptoBulkEntries r
def uptoBulkEntry {H : Type} : Lit × DataW H → Nat
  | (.string bytes, d) => bytes.length + uptoBulk d + 1
  | (_, d) => uptoBulk d + 1
 end
def uptoSmall : (H : Type) → List (DataW H) → Bool := fun _ ds => decide (uptoBulkAll ds ≤ 1048576)
def OpenSpec.upto (s : _root_.Go.ChangeSpec) : _root_.Go.OpenSpec := { _root_.Go.OpenSpec.ofChange s with cond := some uptoSmall }

/-- 'tympanlaw12.FigureTells', WHERE WHAT IT READS IS OF BULK AT MOST 1048576: true; the input reads as it did. -/
def figureTellsUptoRow : OpenClaim := { program := "ytgohglghmhhdnaa", sum := "ca4a962ec05223ea71b87c78777834b58bbd1937a37d332c0c441e5b26cf31fe", func := "tympan/tympanlaw12.FigureTells", spec := "figureTells", unfollowed := true, recurses := true, apart := false, narrowed := true }
def FigureTellsUptoSaid : Prop := figureTellsUptoRow.holds Try.pinned (OpenSpec.upto figureTellsSpec)

/-- 'tympanlaw12.FigureHigh', WHERE WHAT IT READS IS OF BULK AT MOST 1048576: true; the input reads as it did. -/
def figureHighUptoRow : OpenClaim := { program := "ytgohglghmhhdnaa", sum := "ca4a962ec05223ea71b87c78777834b58bbd1937a37d332c0c441e5b26cf31fe", func := "tympan/tympanlaw12.FigureHigh", spec := "figureHigh", unfollowed := true, recurses := true, apart := false, narrowed := true }
def FigureHighUptoSaid : Prop := figureHighUptoRow.holds Try.pinned (OpenSpec.upto figureHighSpec)

/-- 'tympanlaw12.FigureClasses', WHERE WHAT IT READS IS OF BULK AT MOST 1048576: true; the input reads as it did. -/
def figureClassesUptoRow : OpenClaim := { program := "ytgohglghmhhdnaa", sum := "ca4a962ec05223ea71b87c78777834b58bbd1937a37d332c0c441e5b26cf31fe", func := "tympan/tympanlaw12.FigureClasses", spec := "figureClasses", unfollowed := true, recurses := true, apart := false, narrowed := true }
def FigureClassesUptoSaid : Prop := figureClassesUptoRow.holds Try.pinned (OpenSpec.upto figureClassesSpec)

end Rows
end Go.Proofs.Ytgohglghmhhdnaa
