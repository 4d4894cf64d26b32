/- Plain mathematics for stage 22: pieces of notes in a column, over Lean's integers. -/
import Derived.Test.YtdddhflppngloaaJNot
import Derived.Test.YtdddhflppngloaaNMath
namespace Go.Proofs.Ytdddhflppngloaa
open Go.RowKit
set_option maxRecDepth 20000
set_option linter.unusedVariables false

/-- A piece: its note, its first line, and the line behind it. -/
abbrev PcO := Int × Int × Int
def zPc : PcO := (0, 0, 0)
/-- A spot: the next line is the line l of the note n; b notes have begun at the column's end; f: do some of them begin in it? -/
structure SpO where
  n : Int
  l : Int
  b : Int
  f : Bool
/-- Is there a note of that number? -/
def isO (len : Nat) (n : Int) : Bool := decide (0 ≤ n) && decide (n < len)
theorem isO_yes {len : Nat} {n : Int} (h0 : 0 ≤ n) (h1 : n < len) : isO len n = true := by simp [isO, h0, h1]
theorem isO_neg {len : Nat} {n : Int} (h0 : ¬ 0 ≤ n) : isO len n = false := by simp [isO, h0]
theorem isO_high {len : Nat} {n : Int} (h1 : ¬ n < len) : isO len n = false := by simp [isO, h1]
/-- The number of a note's lines. -/
def lenO (l : List N2) (n : Int) : Int := (l.getD n.toNat zeroN).l.length
/-- What follows the pieces. -/
def nextO (l : List N2) (s : SpO) (p : List PcO) : Int × Int :=
  if p.length = 0 then (s.n, s.l) else
  let x := p.getD (p.length - 1) zPc
  if isO l.length x.1 = true ∧ x.2.2 = lenO l x.1 then (x.1 + 1, 0) else (x.1, x.2.2)
/-- The height, one piece more. -/
def stepO (l : List N2) (h : Int) (x : PcO) : Int :=
  if isO l.length x.1 = true then
    (if 1125899906842624 < h + highN (l.getD x.1.toNat zeroN).l x.2.1 x.2.2 then 1125899906842624 else h + highN (l.getD x.1.toNat zeroN).l x.2.1 x.2.2)
  else h
def highUpO (l : List N2) (p : List PcO) (r : Int) : Nat → Int
  | 0 => levN r
  | k + 1 => stepO l (highUpO l p r k) (p.getD k zPc)
/-- The height of the pieces, with the rule r ahead of them if there are any. -/
def highO (l : List N2) (p : List PcO) (r : Int) : Int := if p.length = 0 then 0 else highUpO l p r p.length
theorem highN_in (L : List Int) (f t : Int) : 0 ≤ highN L f t ∧ highN L f t ≤ 1125899906842624 := highUp_in L f t _
theorem stepO_in (l : List N2) (h : Int) (x : PcO) (hh : 0 ≤ h ∧ h ≤ 1125899906842624) : 0 ≤ stepO l h x ∧ stepO l h x ≤ 1125899906842624 := by
  have := highN_in (l.getD x.1.toNat zeroN).l x.2.1 x.2.2
  unfold stepO
  split
  · split <;> omega
  · exact hh
theorem highUpO_in (l : List N2) (p : List PcO) (r : Int) (k : Nat) : 0 ≤ highUpO l p r k ∧ highUpO l p r k ≤ 1125899906842624 := by
  induction k with
  | zero => exact lev_in r
  | succ k ih => exact stepO_in l _ _ ih
/-- The lines of one piece. -/
def lineO (x : PcO) : Int := if x.2.1 < x.2.2 then x.2.2 - x.2.1 else 0
def linesUpO (p : List PcO) : Nat → Int
  | 0 => 0
  | k + 1 => linesUpO p k + lineO (p.getD k zPc)
/-- The lines of the pieces. -/
def linesO (p : List PcO) : Int := linesUpO p p.length
/-- A piece within 2^30. -/
def fairP (x : PcO) : Prop := (-1073741824 ≤ x.2.1 ∧ x.2.1 ≤ 1073741824) ∧ -1073741824 ≤ x.2.2 ∧ x.2.2 ≤ 1073741824
theorem lineO_in {x : PcO} (h : fairP x) : 0 ≤ lineO x ∧ lineO x ≤ 2147483648 := by
  obtain ⟨⟨h1, h2⟩, h3, h4⟩ := h
  unfold lineO
  split <;> omega
theorem linesUpO_in {p : List PcO} (h : ∀ k, k < p.length → fairP (p.getD k zPc)) (k : Nat) (hk : k ≤ p.length) : 0 ≤ linesUpO p k ∧ linesUpO p k ≤ 2147483648 * k := by
  induction k with
  | zero => simp [linesUpO]
  | succ k ih =>
    have h1 := ih (by omega)
    have h2 := lineO_in (h k (by omega))
    show 0 ≤ linesUpO p k + _ ∧ linesUpO p k + _ ≤ _
    omega
/-- How many notes are open. -/
def openN (l : List N2) (s : SpO) : Nat := if s.n < 0 ∨ s.l < 0 then 0 else ((if (l.length : Int) < s.b then (l.length : Int) else s.b) - s.n).toNat
/-- The first line of the i-th open note that is left. -/
def fromO (s : SpO) (i : Nat) : Int := if i = 0 then s.l else 0
/-- All that is left of the i-th open note. -/
def pceO (l : List N2) (s : SpO) (i : Nat) : PcO := (s.n + i, fromO s i, lenO l (s.n + i))
/-- All that is left of the open notes. -/
def openO (l : List N2) (s : SpO) : List PcO := (List.range (openN l s)).map (pceO l s)
theorem openO_len (l : List N2) (s : SpO) : (openO l s).length = openN l s := by simp [openO]
/-- The last of them is cut at t. -/
def cutO (q : List PcO) (t : Int) : List PcO := q.set (q.length - 1) ((q.getD (q.length - 1) zPc).1, (q.getD (q.length - 1) zPc).2.1, t)
/-- Where the last open note may end. -/
def endsO (l : List N2) (q : List PcO) : List Int := stopsN (l.getD (q.getD (q.length - 1) zPc).1.toNat zeroN).l (l.getD (q.getD (q.length - 1) zPc).1.toNat zeroN).p (q.getD (q.length - 1) zPc).2.1
/-- All choices for a spot. -/
def choO (l : List N2) (s : SpO) : List (List PcO) :=
  if openN l s = 0 then [[]] else (if s.f = true then [] else [[]]) ++ (endsO l (openO l s)).map (cutO (openO l s))
end Go.Proofs.Ytdddhflppngloaa
