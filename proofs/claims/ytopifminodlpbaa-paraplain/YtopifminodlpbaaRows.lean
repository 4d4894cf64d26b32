/-
  No cell of these rows narrows 'for every input' (looked for: loops, veiled, ifaces, maps, wideKeys, modest, calm, conditions, laid).
  DERIVED. THE GIVEN ROWS OF THIS SEAT. 3 by the template 'for every input the law returns true; each argument reads behind the call as it read before'; 0 by the template 'total and deterministic' (their statements: YtopifminodlpbaaTotals.lean).
  GIVEN WITH THE SEED: the statements are not yours to turn. If you find one false, say at which input.
  Laid BY PROGRAM, IN A SANDBOX (cutbox-rows.mjs): the forced cells as the released guide's own fill.sh prints them over the translation 194b5241e6e8bb7d… (all of the seat's roots in one cut). By AI agents, Wed Nov 11 2026. No macro, syntax, notation, axiom, sorry.
-/
import Derived.Test.YtopifminodlpbaaChecked
import GoSem.Claim
import GoSem.ClaimJoined
import GoSem.ClaimMapViews
import Derived.JoinedTies
import Derived.KernelRfl
namespace Go.Proofs.Ytopifminodlpbaa
/- THE CELL 'sum', in the pinned program and in every row, IS THE sha256 OF THE DUMP (.gsa) THAT YtopifminodlpbaaProg.lean LOADS. Nothing in Lean hashes anything: it is a label: what it is worth is what the hold of that sum in a sandbox is worth. -/
noncomputable def Try.pinned : Pinned := { name := "ytopifminodlpbaa", sum := "194b5241e6e8bb7d11b8e2524ee3e949e6aa00fef1ab92440aa64fa6228403e7", checked := Try.checked }
namespace Rows
def none {H : Type} : Left H := { results := [], args := [] }

/-- 'tympanlaw20.ParaTells': WHATEVER THE INPUT: true; the input reads as it did. -/
def paraTellsSpec : ChangeSpec := { name := "paraTells", fn := fun _ => fun
  | [d1, d2, d3] => { results := [.lit (.bool true)], args := [d1, d2, d3] }
  | _ => none }
def paraTellsRow : OpenClaim := { program := "ytopifminodlpbaa", sum := "194b5241e6e8bb7d11b8e2524ee3e949e6aa00fef1ab92440aa64fa6228403e7", func := "tympan/tympanlaw20.ParaTells", spec := "paraTells", unfollowed := true, recurses := true, apart := false }
def ParaTellsSaid : Prop := paraTellsRow.holds Try.pinned (OpenSpec.ofChange paraTellsSpec)

/-- ITS FALSE NEIGHBOUR: 'it returns false'. Refute it at one input. -/
def paraTellsWrong : ChangeSpec := { name := "paraTells", fn := fun _ => fun
  | [d1, d2, d3] => { results := [.lit (.bool false)], args := [d1, d2, d3] }
  | _ => none }
def ParaTellsWrongFalsely : Prop := paraTellsRow.holds Try.pinned (OpenSpec.ofChange paraTellsWrong)

/-- 'tympanlaw20.ParaPlain': WHATEVER THE INPUT: true; the input reads as it did. -/
def paraPlainSpec : ChangeSpec := { name := "paraPlain", fn := fun _ => fun
  | [d1, d2, d3] => { results := [.lit (.bool true)], args := [d1, d2, d3] }
  | _ => none }
def paraPlainRow : OpenClaim := { program := "ytopifminodlpbaa", sum := "194b5241e6e8bb7d11b8e2524ee3e949e6aa00fef1ab92440aa64fa6228403e7", func := "tympan/tympanlaw20.ParaPlain", spec := "paraPlain", unfollowed := true, recurses := true, apart := false }
def ParaPlainSaid : Prop := paraPlainRow.holds Try.pinned (OpenSpec.ofChange paraPlainSpec)

/-- ITS FALSE NEIGHBOUR: 'it returns false'. Refute it at one input. -/
def paraPlainWrong : ChangeSpec := { name := "paraPlain", fn := fun _ => fun
  | [d1, d2, d3] => { results := [.lit (.bool false)], args := [d1, d2, d3] }
  | _ => none }
def ParaPlainWrongFalsely : Prop := paraPlainRow.holds Try.pinned (OpenSpec.ofChange paraPlainWrong)

/-- 'tympanlaw20.ParaNone': WHATEVER THE INPUT: true; the input reads as it did. -/
def paraNoneSpec : ChangeSpec := { name := "paraNone", fn := fun _ => fun
  | [d1, d2] => { results := [.lit (.bool true)], args := [d1, d2] }
  | _ => none }
def paraNoneRow : OpenClaim := { program := "ytopifminodlpbaa", sum := "194b5241e6e8bb7d11b8e2524ee3e949e6aa00fef1ab92440aa64fa6228403e7", func := "tympan/tympanlaw20.ParaNone", spec := "paraNone", unfollowed := true, recurses := true, apart := false }
def ParaNoneSaid : Prop := paraNoneRow.holds Try.pinned (OpenSpec.ofChange paraNoneSpec)

/-- ITS FALSE NEIGHBOUR: 'it returns false'. Refute it at one input. -/
def paraNoneWrong : ChangeSpec := { name := "paraNone", fn := fun _ => fun
  | [d1, d2] => { results := [.lit (.bool false)], args := [d1, d2] }
  | _ => none }
def ParaNoneWrongFalsely : Prop := paraNoneRow.holds Try.pinned (OpenSpec.ofChange paraNoneWrong)

/- THE SECOND FORM. 'bulk': how many values and letters a reading holds, each counted each time it is reached (what is shared counts as often as it is met; a slice's spare places count too). A statement '..UptoSaid' is the law's where the arguments, and the package variables that the reading takes, are together of bulk at most 1048576: NARROWER than '..Said'. Prove '..Said' where nothing that the law and all that it calls make is longer than what came in: it says more and counts as full. Else prove '..UptoSaid'. A law counts once. -/
mutual
def uptoBulk {H : Type} : DataW H → Nat
  | .lit (.string bytes) => bytes.length + 1
  | .lit _ => 1
  | .nil => 1
  | .ptr d => uptoBulk d + 1
  | .slice elems spare => uptoBulkAll elems + uptoBulkAll spare + 1
  | .agg parts => uptoBulkAll parts + 1
  | .iface _ d => uptoBulk d + 1
  | .map entries => uptoBulkEntries entries + 1
  | .held _ => 1
def uptoBulkAll {H : Type} : List (DataW H) → Nat
  | [] => 0
  | d :: r => uptoBulk d + uptoBulkAll r
def uptoBulkEntries {H : Type} : List (Lit × DataW H) → Nat
  | [] => 0
  | x :: r => uptoBulkEntry x + uptoBulkEntries r
def uptoBulkEntry {H : Type} : Lit × DataW H → Nat
  | (.string bytes, d) => bytes.length + uptoBulk d + 1
  | (_, d) => uptoBulk d + 1
 end
def uptoSmall : (H : Type) → List (DataW H) → Bool := fun _ ds => decide (uptoBulkAll ds ≤ 1048576)
def OpenSpec.upto (s : _root_.Go.ChangeSpec) : _root_.Go.OpenSpec := { _root_.Go.OpenSpec.ofChange s with cond := some uptoSmall }

/-- 'tympanlaw20.ParaTells', WHERE WHAT IT READS IS OF BULK AT MOST 1048576: true; the input reads as it did. -/
def paraTellsUptoRow : OpenClaim := { program := "ytopifminodlpbaa", sum := "194b5241e6e8bb7d11b8e2524ee3e949e6aa00fef1ab92440aa64fa6228403e7", func := "tympan/tympanlaw20.ParaTells", spec := "paraTells", unfollowed := true, recurses := true, apart := false, narrowed := true }
def ParaTellsUptoSaid : Prop := paraTellsUptoRow.holds Try.pinned (OpenSpec.upto paraTellsSpec)

/-- 'tympanlaw20.ParaPlain', WHERE WHAT IT READS IS OF BULK AT MOST 1048576: true; the input reads as it did. -/
def paraPlainUptoRow : OpenClaim := { program := "ytopifminodlpbaa", sum := "194b5241e6e8bb7d11b8e2524ee3e949e6aa00fef1ab92440aa64fa6228403e7", func := "tympan/tympanlaw20.ParaPlain", spec := "paraPlain", unfollowed := true, recurses := true, apart := false, narrowed := true }
def ParaPlainUptoSaid : Prop := paraPlainUptoRow.holds Try.pinned (OpenSpec.upto paraPlainSpec)

/-- 'tympanlaw20.ParaNone', WHERE WHAT IT READS IS OF BULK AT MOST 1048576: true; the input reads as it did. -/
def paraNoneUptoRow : OpenClaim := { program := "ytopifminodlpbaa", sum := "194b5241e6e8bb7d11b8e2524ee3e949e6aa00fef1ab92440aa64fa6228403e7", func := "tympan/tympanlaw20.ParaNone", spec := "paraNone", unfollowed := true, recurses := true, apart := false, narrowed := true }
def ParaNoneUptoSaid : Prop := paraNoneUptoRow.holds Try.pinned (OpenSpec.upto paraNoneSpec)

end Rows
end Go.Proofs.Ytopifminodlpbaa
