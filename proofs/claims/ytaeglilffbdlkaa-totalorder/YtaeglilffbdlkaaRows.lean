/-
  No cell of these rows narrows 'for every input' (looked for: loops, veiled, ifaces, maps, wideKeys, modest, calm, conditions, laid).
  DERIVED. THE GIVEN ROWS OF THIS SEAT. 3 by the template 'for every input the law returns true; each argument reads behind the call as it read before'; 0 by the template 'total and deterministic' (their statements: YtaeglilffbdlkaaTotals.lean).
  GIVEN WITH THE SEED: the statements are not yours to turn. If you find one false, say at which input.
  Laid BY PROGRAM, IN A SANDBOX (cutbox-rows.mjs): the forced cells as the released guide's own fill.sh prints them over the translation e87ee001e93da6bf… (all of the seat's roots in one cut). By AI agents, Wed Nov 11 2026. No macro, syntax, notation, axiom, sorry.
-/
import Derived.Test.YtaeglilffbdlkaaChecked
import GoSem.Claim
import GoSem.ClaimJoined
import GoSem.ClaimMapViews
import Derived.JoinedTies
import Derived.KernelRfl
namespace Go.Proofs.Ytaeglilffbdlkaa
/- THE CELL 'sum', in the pinned program and in every row, IS THE sha256 OF THE DUMP (.gsa) THAT YtaeglilffbdlkaaProg.lean LOADS. Nothing in Lean hashes anything: it is a label: what it is worth is what the hold of that sum in a sandbox is worth. -/
noncomputable def Try.pinned : Pinned := { name := "ytaeglilffbdlkaa", sum := "e87ee001e93da6bfc6f94201d981cebabf756cc824ec3ce127a56256e7082a10", checked := Try.checked }
namespace Rows
def none {H : Type} : Left H := { results := [], args := [] }

/-- 'tympanlaw07.TotalAdds': WHATEVER THE INPUT: true; the input reads as it did. -/
def totalAddsSpec : ChangeSpec := { name := "totalAdds", fn := fun _ => fun
  | [d1, d2, d3] => { results := [.lit (.bool true)], args := [d1, d2, d3] }
  | _ => none }
def totalAddsRow : OpenClaim := { program := "ytaeglilffbdlkaa", sum := "e87ee001e93da6bfc6f94201d981cebabf756cc824ec3ce127a56256e7082a10", func := "tympan/tympanlaw07.TotalAdds", spec := "totalAdds", unfollowed := true, recurses := true, apart := false }
def TotalAddsSaid : Prop := totalAddsRow.holds Try.pinned (OpenSpec.ofChange totalAddsSpec)

/-- ITS FALSE NEIGHBOUR: 'it returns false'. Refute it at one input. -/
def totalAddsWrong : ChangeSpec := { name := "totalAdds", fn := fun _ => fun
  | [d1, d2, d3] => { results := [.lit (.bool false)], args := [d1, d2, d3] }
  | _ => none }
def TotalAddsWrongFalsely : Prop := totalAddsRow.holds Try.pinned (OpenSpec.ofChange totalAddsWrong)

/-- 'tympanlaw07.TotalSums': WHATEVER THE INPUT: true; the input reads as it did. -/
def totalSumsSpec : ChangeSpec := { name := "totalSums", fn := fun _ => fun
  | [d] => { results := [.lit (.bool true)], args := [d] }
  | _ => none }
def totalSumsRow : OpenClaim := { program := "ytaeglilffbdlkaa", sum := "e87ee001e93da6bfc6f94201d981cebabf756cc824ec3ce127a56256e7082a10", func := "tympan/tympanlaw07.TotalSums", spec := "totalSums", unfollowed := true, recurses := true, apart := false }
def TotalSumsSaid : Prop := totalSumsRow.holds Try.pinned (OpenSpec.ofChange totalSumsSpec)

/-- ITS FALSE NEIGHBOUR: 'it returns false'. Refute it at one input. -/
def totalSumsWrong : ChangeSpec := { name := "totalSums", fn := fun _ => fun
  | [d] => { results := [.lit (.bool false)], args := [d] }
  | _ => none }
def TotalSumsWrongFalsely : Prop := totalSumsRow.holds Try.pinned (OpenSpec.ofChange totalSumsWrong)

/-- 'tympanlaw07.TotalOrder': WHATEVER THE INPUT: true; the input reads as it did. -/
def totalOrderSpec : ChangeSpec := { name := "totalOrder", fn := fun _ => fun
  | [d1, d2, d3] => { results := [.lit (.bool true)], args := [d1, d2, d3] }
  | _ => none }
def totalOrderRow : OpenClaim := { program := "ytaeglilffbdlkaa", sum := "e87ee001e93da6bfc6f94201d981cebabf756cc824ec3ce127a56256e7082a10", func := "tympan/tympanlaw07.TotalOrder", spec := "totalOrder", unfollowed := true, recurses := true, apart := false }
def TotalOrderSaid : Prop := totalOrderRow.holds Try.pinned (OpenSpec.ofChange totalOrderSpec)

/-- ITS FALSE NEIGHBOUR: 'it returns false'. Refute it at one input. -/
def totalOrderWrong : ChangeSpec := { name := "totalOrder", fn := fun _ => fun
  | [d1, d2, d3] => { results := [.lit (.bool false)], args := [d1, d2, d3] }
  | _ => none }
def TotalOrderWrongFalsely : Prop := totalOrderRow.holds Try.pinned (OpenSpec.ofChange totalOrderWrong)

/- THE SECOND FORM. 'bulk': how many values and letters a reading holds, each counted each time it is reached (what is shared counts as often as it is met; a slice's spare places count too). A statement '..UptoSaid' is the law's where the arguments, and the package variables that the reading takes, are together of bulk at most 1048576: NARROWER than '..Said'. Prove '..Said' where nothing that the law and all that it calls make is longer than what came in: it says more and counts as full. Else prove '..UptoSaid'. A law counts once. -/
mutual
def uptoBulk {H : Type} : DataW H → Nat
  | .lit (.string bytes) => bytes.length + 1
  | .lit _ => 1
  | .nil => 1
  | .ptr d => uptoBulk d + 1
  | .slice elems spare => uptoBulkAll elems + uptoBulkAll spare + 1
  | .agg parts => uptoBulkAll parts + 1
  | .iface _ d => uptoBulk d + 1
  | .map entries => uptoBulkEntries entries + 1
  | .held _ => 1
def uptoBulkAll {H : Type} : List (DataW H) → Nat
  | [] => 0
  | d :: r => uptoBulk d + uptoBulkAll r
def uptoBulkEntries {H : Type} : List (Lit × DataW H) → Nat
  | [] => 0
  | x :: r => uptoBulkEntry x + uptoBulkEntries r
def uptoBulkEntry {H : Type} : Lit × DataW H → Nat
  | (.string bytes, d) => bytes.length + uptoBulk d + 1
  | (_, d) => uptoBulk d + 1
 end
def uptoSmall : (H : Type) → List (DataW H) → Bool := fun _ ds => decide (uptoBulkAll ds ≤ 1048576)
def OpenSpec.upto (s : _root_.Go.ChangeSpec) : _root_.Go.OpenSpec := { _root_.Go.OpenSpec.ofChange s with cond := some uptoSmall }

/-- 'tympanlaw07.TotalAdds', WHERE WHAT IT READS IS OF BULK AT MOST 1048576: true; the input reads as it did. -/
def totalAddsUptoRow : OpenClaim := { program := "ytaeglilffbdlkaa", sum := "e87ee001e93da6bfc6f94201d981cebabf756cc824ec3ce127a56256e7082a10", func := "tympan/tympanlaw07.TotalAdds", spec := "totalAdds", unfollowed := true, recurses := true, apart := false, narrowed := true }
def TotalAddsUptoSaid : Prop := totalAddsUptoRow.holds Try.pinned (OpenSpec.upto totalAddsSpec)

/-- 'tympanlaw07.TotalSums', WHERE WHAT IT READS IS OF BULK AT MOST 1048576: true; the input reads as it did. -/
def totalSumsUptoRow : OpenClaim := { program := "ytaeglilffbdlkaa", sum := "e87ee001e93da6bfc6f94201d981cebabf756cc824ec3ce127a56256e7082a10", func := "tympan/tympanlaw07.TotalSums", spec := "totalSums", unfollowed := true, recurses := true, apart := false, narrowed := true }
def TotalSumsUptoSaid : Prop := totalSumsUptoRow.holds Try.pinned (OpenSpec.upto totalSumsSpec)

/-- 'tympanlaw07.TotalOrder', WHERE WHAT IT READS IS OF BULK AT MOST 1048576: true; the input reads as it did. -/
def totalOrderUptoRow : OpenClaim := { program := "ytaeglilffbdlkaa", sum := "e87ee001e93da6bfc6f94201d981cebabf756cc824ec3ce127a56256e7082a10", func := "tympan/tympanlaw07.TotalOrder", spec := "totalOrder", unfollowed := true, recurses := true, apart := false, narrowed := true }
def TotalOrderUptoSaid : Prop := totalOrderUptoRow.holds Try.pinned (OpenSpec.upto totalOrderSpec)

end Rows
end Go.Proofs.Ytaeglilffbdlkaa
