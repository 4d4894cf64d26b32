/-
  No cell of these rows narrows 'for every input' (looked for: loops, veiled, ifaces, maps, wideKeys, modest, calm, conditions, laid).
  DERIVED. THE GIVEN ROWS OF THIS SEAT. 3 by the template 'for every input the law returns true; each argument reads behind the call as it read before'; 0 by the template 'total and deterministic' (their statements: YtimpphkikihhaaaTotals.lean).
  GIVEN WITH THE SEED: the statements are not yours to turn. If you find one false, say at which input.
  Laid BY PROGRAM, IN A SANDBOX (cutbox-rows.mjs): the forced cells as the released guide's own fill.sh prints them over the translation 84eb55adfdd770f0… (all of the seat's roots in one cut). By AI agents, Wed Nov 11 2026. No macro, syntax, notation, axiom, sorry.
-/
import Derived.Test.YtimpphkikihhaaaChecked
import GoSem.Claim
import GoSem.ClaimJoined
import GoSem.ClaimMapViews
import Derived.JoinedTies
import Derived.KernelRfl
namespace Go.Proofs.Ytimpphkikihhaaa
/- THE CELL 'sum', in the pinned program and in every row, IS THE sha256 OF THE DUMP (.gsa) THAT YtimpphkikihhaaaProg.lean LOADS. Nothing in Lean hashes anything: it is a label: what it is worth is what the hold of that sum in a sandbox is worth. -/
noncomputable def Try.pinned : Pinned := { name := "ytimpphkikihhaaa", sum := "84eb55adfdd770f07b3603dd20aef0580ad506635593eb3ead4e313d60af9a1f", checked := Try.checked }
namespace Rows
def none {H : Type} : Left H := { results := [], args := [] }

/-- 'tympanlaw11.NoteTells': WHATEVER THE INPUT: true; the input reads as it did. -/
def noteTellsSpec : ChangeSpec := { name := "noteTells", fn := fun _ => fun
  | [d1, d2] => { results := [.lit (.bool true)], args := [d1, d2] }
  | _ => none }
def noteTellsRow : OpenClaim := { program := "ytimpphkikihhaaa", sum := "84eb55adfdd770f07b3603dd20aef0580ad506635593eb3ead4e313d60af9a1f", func := "tympan/tympanlaw11.NoteTells", spec := "noteTells", unfollowed := true, recurses := true, apart := false }
def NoteTellsSaid : Prop := noteTellsRow.holds Try.pinned (OpenSpec.ofChange noteTellsSpec)

/-- ITS FALSE NEIGHBOUR: 'it returns false'. Refute it at one input. -/
def noteTellsWrong : ChangeSpec := { name := "noteTells", fn := fun _ => fun
  | [d1, d2] => { results := [.lit (.bool false)], args := [d1, d2] }
  | _ => none }
def NoteTellsWrongFalsely : Prop := noteTellsRow.holds Try.pinned (OpenSpec.ofChange noteTellsWrong)

/-- 'tympanlaw11.NoteHigh': WHATEVER THE INPUT: true; the input reads as it did. -/
def noteHighSpec : ChangeSpec := { name := "noteHigh", fn := fun _ => fun
  | [d1, d2, d3] => { results := [.lit (.bool true)], args := [d1, d2, d3] }
  | _ => none }
def noteHighRow : OpenClaim := { program := "ytimpphkikihhaaa", sum := "84eb55adfdd770f07b3603dd20aef0580ad506635593eb3ead4e313d60af9a1f", func := "tympan/tympanlaw11.NoteHigh", spec := "noteHigh", unfollowed := true, recurses := true, apart := false }
def NoteHighSaid : Prop := noteHighRow.holds Try.pinned (OpenSpec.ofChange noteHighSpec)

/-- ITS FALSE NEIGHBOUR: 'it returns false'. Refute it at one input. -/
def noteHighWrong : ChangeSpec := { name := "noteHigh", fn := fun _ => fun
  | [d1, d2, d3] => { results := [.lit (.bool false)], args := [d1, d2, d3] }
  | _ => none }
def NoteHighWrongFalsely : Prop := noteHighRow.holds Try.pinned (OpenSpec.ofChange noteHighWrong)

/-- 'tympanlaw11.NotePieces': WHATEVER THE INPUT: true; the input reads as it did. -/
def notePiecesSpec : ChangeSpec := { name := "notePieces", fn := fun _ => fun
  | [d1, d2] => { results := [.lit (.bool true)], args := [d1, d2] }
  | _ => none }
def notePiecesRow : OpenClaim := { program := "ytimpphkikihhaaa", sum := "84eb55adfdd770f07b3603dd20aef0580ad506635593eb3ead4e313d60af9a1f", func := "tympan/tympanlaw11.NotePieces", spec := "notePieces", unfollowed := true, recurses := true, apart := false }
def NotePiecesSaid : Prop := notePiecesRow.holds Try.pinned (OpenSpec.ofChange notePiecesSpec)

/-- ITS FALSE NEIGHBOUR: 'it returns false'. Refute it at one input. -/
def notePiecesWrong : ChangeSpec := { name := "notePieces", fn := fun _ => fun
  | [d1, d2] => { results := [.lit (.bool false)], args := [d1, d2] }
  | _ => none }
def NotePiecesWrongFalsely : Prop := notePiecesRow.holds Try.pinned (OpenSpec.ofChange notePiecesWrong)

/- THE SECOND FORM. 'bulk': how many values and letters a reading holds, each counted each time it is reached (what is shared counts as often as it is met; a slice's spare places count too). A statement '..UptoSaid' is the law's where the arguments, and the package variables that the reading takes, are together of bulk at most 1048576: NARROWER than '..Said'. Prove '..Said' where nothing that the law and all that it calls make is longer than what came in: it says more and counts as full. Else prove '..UptoSaid'. A law counts once. -/
mutual
def uptoBulk {H : Type} : DataW H → Nat
  | .lit (.string bytes) => bytes.length + 1
  | .lit _ => 1
  | .nil => 1
  | .ptr d => uptoBulk d + 1
  | .slice elems spare => uptoBulkAll elems + uptoBulkAll spare + 1
  | .agg parts => uptoBulkAll parts + 1
  | .iface _ d => uptoBulk d + 1
  | .map entries => uptoBulkEntries entries + 1
  | .held _ => 1
def uptoBulkAll {H : Type} : List (DataW H) → Nat
  | [] => 0
  | d :: r => uptoBulk d + uptoBulkAll r
def uptoBulkEntries {H : Type} : List (Lit × DataW H) → Nat
  | [] => 0
  | x :: r => uptoBulkEntry x + uptoBulkEntries r
def uptoBulkEntry {H : Type} : Lit × DataW H → Nat
  | (.string bytes, d) => bytes.length + uptoBulk d + 1
  | (_, d) => uptoBulk d + 1
 end
def uptoSmall : (H : Type) → List (DataW H) → Bool := fun _ ds => decide (uptoBulkAll ds ≤ 1048576)
def OpenSpec.upto (s : _root_.Go.ChangeSpec) : _root_.Go.OpenSpec := { _root_.Go.OpenSpec.ofChange s with cond := some uptoSmall }

/-- 'tympanlaw11.NoteTells', WHERE WHAT IT READS IS OF BULK AT MOST 1048576: true; the input reads as it did. -/
def noteTellsUptoRow : OpenClaim := { program := "ytimpphkikihhaaa", sum := "84eb55adfdd770f07b3603dd20aef0580ad506635593eb3ead4e313d60af9a1f", func := "tympan/tympanlaw11.NoteTells", spec := "noteTells", unfollowed := true, recurses := true, apart := false, narrowed := true }
def NoteTellsUptoSaid : Prop := noteTellsUptoRow.holds Try.pinned (OpenSpec.upto noteTellsSpec)

/-- 'tympanlaw11.NoteHigh', WHERE WHAT IT READS IS OF BULK AT MOST 1048576: true; the input reads as it did. -/
def noteHighUptoRow : OpenClaim := { program := "ytimpphkikihhaaa", sum := "84eb55adfdd770f07b3603dd20aef0580ad506635593eb3ead4e313d60af9a1f", func := "tympan/tympanlaw11.NoteHigh", spec := "noteHigh", unfollowed := true, recurses := true, apart := false, narrowed := true }
def NoteHighUptoSaid : Prop := noteHighUptoRow.holds Try.pinned (OpenSpec.upto noteHighSpec)

/-- 'tympanlaw11.NotePieces', WHERE WHAT IT READS IS OF BULK AT MOST 1048576: true; the input reads as it did. -/
def notePiecesUptoRow : OpenClaim := { program := "ytimpphkikihhaaa", sum := "84eb55adfdd770f07b3603dd20aef0580ad506635593eb3ead4e313d60af9a1f", func := "tympan/tympanlaw11.NotePieces", spec := "notePieces", unfollowed := true, recurses := true, apart := false, narrowed := true }
def NotePiecesUptoSaid : Prop := notePiecesUptoRow.holds Try.pinned (OpenSpec.upto notePiecesSpec)

end Rows
end Go.Proofs.Ytimpphkikihhaaa
