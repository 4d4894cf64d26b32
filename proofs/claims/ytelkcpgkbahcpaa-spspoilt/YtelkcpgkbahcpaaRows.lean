/-
  No cell of these rows narrows 'for every input' (looked for: loops, veiled, ifaces, maps, wideKeys, modest, calm, conditions, laid).
  DERIVED. THE GIVEN ROWS OF THIS SEAT. 4 by the template 'for every input the law returns true; each argument reads behind the call as it read before'; 0 by the template 'total and deterministic' (their statements: YtelkcpgkbahcpaaTotals.lean).
  GIVEN WITH THE SEED: the statements are not yours to turn. If you find one false, say at which input.
  Laid BY PROGRAM, IN A SANDBOX (cutbox-rows.mjs): the forced cells as the released guide's own fill.sh prints them over the translation d7ce3142a7510cf5… (all of the seat's roots in one cut). By AI agents, Wed Nov 11 2026. No macro, syntax, notation, axiom, sorry.
-/
import Derived.Test.YtelkcpgkbahcpaaChecked
import GoSem.Claim
import GoSem.ClaimJoined
import GoSem.ClaimMapViews
import Derived.JoinedTies
import Derived.KernelRfl
namespace Go.Proofs.Ytelkcpgkbahcpaa
/- THE CELL 'sum', in the pinned program and in every row, IS THE sha256 OF THE DUMP (.gsa) THAT YtelkcpgkbahcpaaProg.lean LOADS. Nothing in Lean hashes anything: it is a label: what it is worth is what the hold of that sum in a sandbox is worth. -/
noncomputable def Try.pinned : Pinned := { name := "ytelkcpgkbahcpaa", sum := "d7ce3142a7510cf52323dd98f9c567b4cf3b7a9dbcd51a1a0443d0e6f0ccf048", checked := Try.checked }
namespace Rows
def none {H : Type} : Left H := { results := [], args := [] }

/-- 'tympanlaw01.SpReckons': WHATEVER THE INPUT: true; the input reads as it did. -/
def spReckonsSpec : ChangeSpec := { name := "spReckons", fn := fun _ => fun
  | [d1, d2, d3] => { results := [.lit (.bool true)], args := [d1, d2, d3] }
  | _ => none }
def spReckonsRow : OpenClaim := { program := "ytelkcpgkbahcpaa", sum := "d7ce3142a7510cf52323dd98f9c567b4cf3b7a9dbcd51a1a0443d0e6f0ccf048", func := "tympan/tympanlaw01.SpReckons", spec := "spReckons", unfollowed := true, recurses := true, apart := false }
def SpReckonsSaid : Prop := spReckonsRow.holds Try.pinned (OpenSpec.ofChange spReckonsSpec)

/-- ITS FALSE NEIGHBOUR: 'it returns false'. Refute it at one input. -/
def spReckonsWrong : ChangeSpec := { name := "spReckons", fn := fun _ => fun
  | [d1, d2, d3] => { results := [.lit (.bool false)], args := [d1, d2, d3] }
  | _ => none }
def SpReckonsWrongFalsely : Prop := spReckonsRow.holds Try.pinned (OpenSpec.ofChange spReckonsWrong)

/-- 'tympanlaw01.SpSums': WHATEVER THE INPUT: true; the input reads as it did. -/
def spSumsSpec : ChangeSpec := { name := "spSums", fn := fun _ => fun
  | [d] => { results := [.lit (.bool true)], args := [d] }
  | _ => none }
def spSumsRow : OpenClaim := { program := "ytelkcpgkbahcpaa", sum := "d7ce3142a7510cf52323dd98f9c567b4cf3b7a9dbcd51a1a0443d0e6f0ccf048", func := "tympan/tympanlaw01.SpSums", spec := "spSums", unfollowed := true, recurses := true, apart := false }
def SpSumsSaid : Prop := spSumsRow.holds Try.pinned (OpenSpec.ofChange spSumsSpec)

/-- ITS FALSE NEIGHBOUR: 'it returns false'. Refute it at one input. -/
def spSumsWrong : ChangeSpec := { name := "spSums", fn := fun _ => fun
  | [d] => { results := [.lit (.bool false)], args := [d] }
  | _ => none }
def SpSumsWrongFalsely : Prop := spSumsRow.holds Try.pinned (OpenSpec.ofChange spSumsWrong)

/-- 'tympanlaw01.SpBack': WHATEVER THE INPUT: true; the input reads as it did. -/
def spBackSpec : ChangeSpec := { name := "spBack", fn := fun _ => fun
  | [d1, d2] => { results := [.lit (.bool true)], args := [d1, d2] }
  | _ => none }
def spBackRow : OpenClaim := { program := "ytelkcpgkbahcpaa", sum := "d7ce3142a7510cf52323dd98f9c567b4cf3b7a9dbcd51a1a0443d0e6f0ccf048", func := "tympan/tympanlaw01.SpBack", spec := "spBack", unfollowed := true, recurses := true, apart := false }
def SpBackSaid : Prop := spBackRow.holds Try.pinned (OpenSpec.ofChange spBackSpec)

/-- ITS FALSE NEIGHBOUR: 'it returns false'. Refute it at one input. -/
def spBackWrong : ChangeSpec := { name := "spBack", fn := fun _ => fun
  | [d1, d2] => { results := [.lit (.bool false)], args := [d1, d2] }
  | _ => none }
def SpBackWrongFalsely : Prop := spBackRow.holds Try.pinned (OpenSpec.ofChange spBackWrong)

/-- 'tympanlaw01.SpSpoilt': WHATEVER THE INPUT: true; the input reads as it did. -/
def spSpoiltSpec : ChangeSpec := { name := "spSpoilt", fn := fun _ => fun
  | [d1, d2, d3] => { results := [.lit (.bool true)], args := [d1, d2, d3] }
  | _ => none }
def spSpoiltRow : OpenClaim := { program := "ytelkcpgkbahcpaa", sum := "d7ce3142a7510cf52323dd98f9c567b4cf3b7a9dbcd51a1a0443d0e6f0ccf048", func := "tympan/tympanlaw01.SpSpoilt", spec := "spSpoilt", unfollowed := true, recurses := true, apart := false }
def SpSpoiltSaid : Prop := spSpoiltRow.holds Try.pinned (OpenSpec.ofChange spSpoiltSpec)

/-- ITS FALSE NEIGHBOUR: 'it returns false'. Refute it at one input. -/
def spSpoiltWrong : ChangeSpec := { name := "spSpoilt", fn := fun _ => fun
  | [d1, d2, d3] => { results := [.lit (.bool false)], args := [d1, d2, d3] }
  | _ => none }
def SpSpoiltWrongFalsely : Prop := spSpoiltRow.holds Try.pinned (OpenSpec.ofChange spSpoiltWrong)

/- THE SECOND FORM. 'bulk': how many values and letters a reading holds, each counted each time it is reached (what is shared counts as often as it is met; a slice's spare places count too). A statement '..UptoSaid' is the law's where the arguments, and the package variables that the reading takes, are together of bulk at most 1048576: NARROWER than '..Said'. Prove '..Said' where nothing that the law and all that it calls make is longer than what came in: it says more and counts as full. Else prove '..UptoSaid'. A law counts once. -/
mutual
def uptoBulk {H : Type} : DataW H → Nat
  | .lit (.string bytes) => bytes.length + 1
  | .lit _ => 1
  | .nil => 1
  | .ptr d => uptoBulk d + 1
  | .slice elems spare => uptoBulkAll elems + uptoBulkAll spare + 1
  | .agg parts => uptoBulkAll parts + 1
  | .iface _ d => uptoBulk d + 1
  | .map entries => uptoBulkEntries entries + 1
  | .held _ => 1
def uptoBulkAll {H : Type} : List (DataW H) → Nat
  | [] => 0
  | d :: r => uptoBulk d + uptoBulkAll r
def uptoBulkEntries {H : Type} : List (Lit × DataW H) → Nat
  | [] => 0
  | x :: r => uptoBulkEntry x + uptoBulkEntries r
def uptoBulkEntry {H : Type} : Lit × DataW H → Nat
  | (.string bytes, d) => bytes.length + uptoBulk d + 1
  | (_, d) => uptoBulk d + 1
 end
def uptoSmall : (H : Type) → List (DataW H) → Bool := fun _ ds => decide (uptoBulkAll ds ≤ 1048576)
def OpenSpec.upto (s : _root_.Go.ChangeSpec) : _root_.Go.OpenSpec := { _root_.Go.OpenSpec.ofChange s with cond := some uptoSmall }

/-- 'tympanlaw01.SpReckons', WHERE WHAT IT READS IS OF BULK AT MOST 1048576: true; the input reads as it did. -/
def spReckonsUptoRow : OpenClaim := { program := "ytelkcpgkbahcpaa", sum := "d7ce3142a7510cf52323dd98f9c567b4cf3b7a9dbcd51a1a0443d0e6f0ccf048", func := "tympan/tympanlaw01.SpReckons", spec := "spReckons", unfollowed := true, recurses := true, apart := false, narrowed := true }
def SpReckonsUptoSaid : Prop := spReckonsUptoRow.holds Try.pinned (OpenSpec.upto spReckonsSpec)

/-- 'tympanlaw01.SpSums', WHERE WHAT IT READS IS OF BULK AT MOST 1048576: true; the input reads as it did. -/
def spSumsUptoRow : OpenClaim := { program := "ytelkcpgkbahcpaa", sum := "d7ce3142a7510cf52323dd98f9c567b4cf3b7a9dbcd51a1a0443d0e6f0ccf048", func := "tympan/tympanlaw01.SpSums", spec := "spSums", unfollowed := true, recurses := true, apart := false, narrowed := true }
def SpSumsUptoSaid : Prop := spSumsUptoRow.holds Try.pinned (OpenSpec.upto spSumsSpec)

/-- 'tympanlaw01.SpBack', WHERE WHAT IT READS IS OF BULK AT MOST 1048576: true; the input reads as it did. -/
def spBackUptoRow : OpenClaim := { program := "ytelkcpgkbahcpaa", sum := "d7ce3142a7510cf52323dd98f9c567b4cf3b7a9dbcd51a1a0443d0e6f0ccf048", func := "tympan/tympanlaw01.SpBack", spec := "spBack", unfollowed := true, recurses := true, apart := false, narrowed := true }
def SpBackUptoSaid : Prop := spBackUptoRow.holds Try.pinned (OpenSpec.upto spBackSpec)

/-- 'tympanlaw01.SpSpoilt', WHERE WHAT IT READS IS OF BULK AT MOST 1048576: true; the input reads as it did. -/
def spSpoiltUptoRow : OpenClaim := { program := "ytelkcpgkbahcpaa", sum := "d7ce3142a7510cf52323dd98f9c567b4cf3b7a9dbcd51a1a0443d0e6f0ccf048", func := "tympan/tympanlaw01.SpSpoilt", spec := "spSpoilt", unfollowed := true, recurses := true, apart := false, narrowed := true }
def SpSpoiltUptoSaid : Prop := spSpoiltUptoRow.holds Try.pinned (OpenSpec.upto spSpoiltSpec)

end Rows
end Go.Proofs.Ytelkcpgkbahcpaa
