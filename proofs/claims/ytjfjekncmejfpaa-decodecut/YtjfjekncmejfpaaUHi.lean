/- Bits 1 and 2 of a number. Nothing of a program is in it. Floats, and the small functions of package figure. At and High of package figure, and the document's. -/
import Derived.WalkKit
import Derived.Test.YtjfjekncmejfpaaNCk
import Derived.Test.YtjfjekncmejfpaaTRow
import Derived.Test.YtjfjekncmejfpaaDetU
import Derived.BigQuiet
namespace Go.Proofs.Ytjfjekncmejfpaa

theorem nat_and2 (n : Nat) : n &&& 2 = n / 2 % 2 * 2 := by
  have h1 : (n &&& 2) / 2 = n / 2 % 2 := by
    rw [Nat.and_div_two]
    exact Nat.and_one_is_mod _
  have h2 : (n &&& 2) % 2 = 0 := by
    have := Nat.and_mod_two_pow (a := n) (b := 2) (n := 1)
    simpa using this
  omega
theorem ofInt_nat (p : Int) : ((BitVec.ofInt 64 p).toNat : Int) = p % 18446744073709551616 := by
  rw [BitVec.toNat_ofInt]
  have : (0 : Int) ≤ p % 18446744073709551616 := Int.emod_nonneg _ (by omega)
  simp
  omega
theorem and_1 (p : Int) : bits .and .i64 p 1 = p % 2 := by
  show IntKind.i64.wrap ((BitVec.ofInt 64 p &&& BitVec.ofInt 64 1).toNat : Int) = _
  have h := ofInt_nat p
  rw [BitVec.toNat_and, show (BitVec.ofInt 64 1).toNat = 1 by decide, Nat.and_one_is_mod, IntKind.wrap_i64]
  omega
theorem and_2 (p : Int) : bits .and .i64 p 2 = p / 2 % 2 * 2 := by
  show IntKind.i64.wrap ((BitVec.ofInt 64 p &&& BitVec.ofInt 64 2).toNat : Int) = _
  have h := ofInt_nat p
  rw [BitVec.toNat_and, show (BitVec.ofInt 64 2).toNat = 2 by decide, nat_and2, IntKind.wrap_i64]
  omega
end Go.Proofs.Ytjfjekncmejfpaa
namespace Go.Proofs.Ytjfjekncmejfpaa
open Go.RowKit
set_option maxRecDepth 20000
set_option linter.unusedVariables false
set_option linter.unusedSimpArgs false

/-- A float. -/
structure F3 where
  c : Int
  h : Int
  p : Int
def flt (x : F3) : Value := .agg #[.int .i64 x.c, .int .i64 x.h, .int .i64 x.p]
def classF (x : F3) : Bool := decide (0 ≤ x.c) && decide (x.c < 3)
def rightF (x : F3) : Bool := classF x && (decide (1 ≤ x.h) && decide (x.h ≤ 1073741823) && (decide (0 ≤ x.p) && decide (x.p ≤ 3)))
def topF (x : F3) : Bool := decide (x.p % 2 = 1)
def botF (x : F3) : Bool := decide (x.p / 2 % 2 = 1)
def errF (b : Bool) : Value := .int .i64 (cond b 0 10)
theorem Blk.triple {w : World} {g : Nat} {T : TypeId} {v0 v1 v2 : Value} (h : Blk w g #[v0, v1, v2] T) : w.cell? ⟨g, 0, none⟩ = some v0 ∧ w.cell? ⟨g, 1, none⟩ = some v1 ∧ w.cell? ⟨g, 2, none⟩ = some v2 := by
  unfold Blk at h
  simp [World.cell?, h]
end Go.Proofs.Ytjfjekncmejfpaa
namespace Go.Proofs.Ytjfjekncmejfpaa
open Go.RowKit
set_option maxRecDepth 20000
set_option linter.unusedVariables false
set_option linter.unusedSimpArgs false

def zeroF : F3 := ⟨0, 0, 0⟩
def inF (x : F3) : Prop := inR x.c ∧ inR x.h ∧ inR x.p
/-- The floats of a list lie where a slice says. -/
def URow (w : World) (a : Option Addr) (l : List F3) : Prop := ∀ k, k < l.length → inF (l.getD k zeroF) ∧ ∃ b off, a = some ⟨b, off, none⟩ ∧ b < w.heap.size ∧ w.cell? ⟨b, off + k * 3, none⟩ = some (.int .i64 (l.getD k zeroF).c) ∧ w.cell? ⟨b, off + k * 3 + 1, none⟩ = some (.int .i64 (l.getD k zeroF).h) ∧ w.cell? ⟨b, off + k * 3 + 2, none⟩ = some (.int .i64 (l.getD k zeroF).p)
theorem URow.carry {w w' : World} {a : Option Addr} {l : List F3} (h : URow w a l) (hb : Below w.heap.size w w') : URow w' a l := fun k hk => by
  obtain ⟨hi, b, off, rfl, hB, h0, h1, h2⟩ := h k hk
  have e : ∀ j, w'.cell? ⟨b, off + k * 3 + j, none⟩ = w.cell? ⟨b, off + k * 3 + j, none⟩ := fun j => hb.cell (p := ⟨b, off + k * 3 + j, none⟩) hB
  exact ⟨hi, b, off, rfl, Nat.lt_of_lt_of_le hB hb.size, (hb.cell (p := ⟨b, off + k * 3, none⟩) hB).trans h0, (e 1).trans h1, (e 2).trans h2⟩
def hasAt (l : List F3) (n : Int) : Bool := decide (0 ≤ n) && decide (n < l.length)
def atF (l : List F3) (n : Int) : F3 := cond (hasAt l n) (l.getD n.toNat zeroF) zeroF
def highFU (l : List F3) (ids : List Int) (sep : Int) : Nat → Int
  | 0 => 0
  | k + 1 => cond (hasAt l (ids.getD k 0)) (levN (highFU l ids sep k + levN (atF l (ids.getD k 0)).h + levN sep)) (highFU l ids sep k)
def highF (l : List F3) (ids : List Int) (sep : Int) : Int := highFU l ids sep ids.length
theorem highFU_in (l : List F3) (ids : List Int) (sep : Int) (k : Nat) : 0 ≤ highFU l ids sep k ∧ highFU l ids sep k ≤ 1125899906842624 := by
  induction k with
  | zero => simp [highFU]
  | succ k ih =>
    unfold highFU
    cases hasAt l (ids.getD k 0)
    · exact ih
    · exact lev_in _
end Go.Proofs.Ytjfjekncmejfpaa
