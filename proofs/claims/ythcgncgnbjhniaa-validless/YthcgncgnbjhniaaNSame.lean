/- Where a note may be split and end: package note, and the document's. First of package note. Stops of package note. The same numbers, the same notes: package slices, package note, and the document's. Same of package note, and the document's; Lines. The document's Check of layer 11. -/
import Derived.Test.YthcgncgnbjhniaaNCk
import Derived.OwnWalk
import Derived.Maps.AppendAt
import Derived.BigQuiet
namespace Go.Proofs.Ythcgncgnbjhniaa
open Go.RowKit
set_option maxRecDepth 20000
set_option linter.unusedVariables false
set_option linter.unusedSimpArgs false

theorem split_no {L P : List Int} {a : Int} (h : ¬ 1 ≤ a ∨ ¬ a < L.length ∨ ¬ a ≤ P.length) : splitN L P a = false := by
  unfold splitN
  rcases h with h | h | h <;> simp [h]
theorem split_at {L P : List Int} {m : Nat} (h1 : m + 1 < L.length) (h2 : m < P.length) : splitN L P ((m : Int) + 1) = decide (P.getD m 0 < 10000) := by
  unfold splitN
  have e1 : decide (1 ≤ (m : Int) + 1) = true := by simp; omega
  have e2 : decide ((m : Int) + 1 < L.length) = true := by simp; omega
  have e3 : decide ((m : Int) + 1 ≤ P.length) = true := by simp; omega
  have e4 : ((m : Int) + 1 - 1).toNat = m := by omega
  rw [e1, e2, e3, e4]
  rfl
theorem may_len {L P : List Int} {a : Int} (h : a = L.length) : mayN L P a = true := by unfold mayN; simp [h]
theorem may_not {L P : List Int} {a : Int} (h : ¬ a = L.length) : mayN L P a = splitN L P a := by unfold mayN; simp [h]
theorem split_yes {L P : List Int} {a : Int} (h : splitN L P a = true) : ∃ m : Nat, a = (m : Int) + 1 ∧ m + 1 < L.length ∧ m < P.length := by
  unfold splitN at h
  simp at h
  exact ⟨(a - 1).toNat, by omega, by omega, by omega⟩
end Go.Proofs.Ythcgncgnbjhniaa
namespace Go.Proofs.Ythcgncgnbjhniaa
open Go.RowKit
set_option maxRecDepth 20000
set_option linter.unusedVariables false
set_option linter.unusedSimpArgs false

end Go.Proofs.Ythcgncgnbjhniaa
namespace Go.Proofs.Ythcgncgnbjhniaa
open Go.RowKit
set_option maxRecDepth 20000
set_option linter.unusedVariables false
set_option linter.unusedSimpArgs false

/-- The numbers l lie where the slice v says, in a block of the call's own, at base and above. -/
structure OwnN (w : World) (base : Nat) (v : Value) (l : List Int) : Prop where
  own : w.ownsRow base 3 1 v l.length (l.map (Value.int .i64))
  ins : ∀ k, inR (l.getD k 0)
theorem OwnN.row {w : World} {base : Nat} {v : Value} {l : List Int} (h : OwnN w base v l) : ∃ a cap, v = .slice a l.length cap ∧ l.length ≤ cap ∧ cap ≤ maxLen ∧ IRow w.heap.size w a l := by
  rcases h.own.2 with ⟨rfl, h0⟩ | ⟨g, cap, cur, rfl, hb, hg, h1, h2, h3, h4⟩
  · exact ⟨none, 0, by rw [h0], by omega, by decide, fun k hk => by omega⟩
  · refine ⟨some ⟨g, 0, none⟩, cap, rfl, h1, h2, fun k hk => ⟨h.ins k, g, 0, rfl, (Array.getElem?_eq_some_iff.1 hg).1, ?_⟩⟩
    rw [World.ownsRow.cellAt h.own (0 + k) (by omega)]
    rw [List.getElem?_map, List.getD_eq_getElem?_getD, Nat.zero_add, List.getElem?_eq_getElem hk]
    simp
theorem ngrown_of {A B : World} (h : Below A.heap.size A B) : A.grownBy B none := ⟨h.os, h.tape, h.output, h.size, fun k hk _ => h.block k hk⟩
theorem OwnN.carry {w w' : World} {base : Nat} {v : Value} {l : List Int} (h : OwnN w base v l) (hb : Below w.heap.size w w') : OwnN w' base v l :=
  ⟨h.own.kept (row := none) (ngrown_of hb) (by
    rcases h.own.2 with ⟨rfl, _⟩ | ⟨g, cap, cur, rfl, _⟩
    · exact .inl rfl
    · exact .inr (by simp [Value.ownBlock])), h.ins⟩
theorem OwnN.mono {w : World} {base base' : Nat} {v : Value} {l : List Int} (h : OwnN w base v l) (hb : base' ≤ base) : OwnN w base' v l := by
  refine ⟨⟨h.own.1, ?_⟩, h.ins⟩
  rcases h.own.2 with h | ⟨g, cap, cur, h1, h2, h3⟩
  · exact .inl h
  · exact .inr ⟨g, cap, cur, h1, by omega, h3⟩
theorem OwnN.grow {B : Nat} {w w3 w4 : World} {v : Value} {l : List Int} {o : Obj} (hown : OwnN w3 B v l) (hbl : Below B w w3) (hz : B ≤ w3.heap.size) (hgrow : (w3.alloc o).grownBy w4 v.ownBlock) : Below B w w4 := by
  refine (hbl.alloc hz o).grown hgrow (by simp; omega) fun j ej => ?_
  rcases hown.own.2 with ⟨rfl, _⟩ | ⟨g, cap, cur, rfl, hb, _, _⟩
  · simp [Value.ownBlock] at ej
  · obtain rfl : g = j := by simpa [Value.ownBlock] using ej
    exact hb
theorem ownN_nil (w : World) (base : Nat) : OwnN w base (.slice none 0 0) [] := ⟨World.ownsRow_nil _ _ _ _, fun k => by simp [inR]⟩
theorem infoInt : (Try.prog.info? 3).map (fun i => (i.zero, i.size, i.bytes)) = some (some (.int .i64 0), 1, 8) := by kernel_rfl

/-- What is left to come. -/
def stM (n : Nat) (z : Int) : Nat := if z < 0 then 0 else n + 1 - z.toNat
theorem stM_end {n k : Nat} (h : k ≤ n) : stM n (-1) < stM n k := by
  unfold stM
  rw [if_pos (by omega), if_neg (by omega)]
  omega
theorem stM_up {n k k2 : Nat} (h : k < k2) (h2 : k2 ≤ n) : stM n k2 < stM n k := by
  unfold stM
  rw [if_neg (by omega), if_neg (by omega)]
  omega
end Go.Proofs.Ythcgncgnbjhniaa
namespace Go.Proofs.Ythcgncgnbjhniaa
open Go.RowKit
set_option maxRecDepth 20000
set_option linter.unusedVariables false
set_option linter.unusedSimpArgs false

theorem ndrewN {B : Nat} {w x : World} (h : Below B w x) (n : Nat) : Below B w (x.drewN n) := ⟨h.os, h.tape, h.output, h.size, h.block⟩
end Go.Proofs.Ythcgncgnbjhniaa
namespace Go.Proofs.Ythcgncgnbjhniaa
open Go.RowKit
set_option maxRecDepth 20000
set_option linter.unusedVariables false
set_option linter.unusedSimpArgs false

def sameN (L P L' P' : List Int) : Bool := decide (L = L') && decide (P = P')
theorem getD_ext {l m : List Int} (h : l.length = m.length) (hp : ∀ j, j < l.length → l.getD j 0 = m.getD j 0) : l = m := List.ext_getElem? fun j => by
  rcases Nat.lt_or_ge j l.length with h1 | h1
  · have := hp j h1
    have h' : j < m.length := by omega
    simpa [h1, h'] using this
  · rw [List.getElem?_eq_none h1, List.getElem?_eq_none (by omega)]
theorem getD_snoc {l m : List Int} {k : Nat} (hp : ∀ j, j < k → l.getD j 0 = m.getD j 0) (h : l.getD k 0 = m.getD k 0) : ∀ j, j < k + 1 → l.getD j 0 = m.getD j 0 := fun j hj => by
  rcases Nat.lt_or_ge j k with h1 | h1
  · exact hp j h1
  · obtain rfl : j = k := by omega
    exact h
theorem same_not {L P L' P' : List Int} (h : ¬ L = L' ∨ ¬ P = P') : sameN L P L' P' = false := by
  unfold sameN
  rcases h with h | h <;> simp [h]
end Go.Proofs.Ythcgncgnbjhniaa
namespace Go.Proofs.Ythcgncgnbjhniaa
open Go.RowKit
set_option maxRecDepth 20000
set_option linter.unusedVariables false
set_option linter.unusedSimpArgs false

theorem badH_no {y : Int} (h1 : ¬ y < 1) (h2 : ¬ 1073741823 < y) : badH y = false := by unfold badH; simp [h1, h2]
theorem badP_no {y : Int} (h1 : ¬ y < 0) (h2 : ¬ 10000 < y) : badP y = false := by unfold badP; simp [h1, h2]
theorem badH_yes {y : Int} (h : y < 1 ∨ 1073741823 < y) : badH y = true := by unfold badH; rcases h with h | h <;> simp [h]
theorem badP_yes {y : Int} (h : y < 0 ∨ 10000 < y) : badP y = true := by unfold badP; rcases h with h | h <;> simp [h]
end Go.Proofs.Ythcgncgnbjhniaa
