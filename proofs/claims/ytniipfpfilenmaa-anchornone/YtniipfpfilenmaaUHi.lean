/- At and High of package figure, and the document's. -/
import Derived.Test.YtniipfpfilenmaaUBase
import Derived.BigQuiet
namespace Go.Proofs.Ytniipfpfilenmaa
open Go.RowKit
set_option maxRecDepth 20000
set_option linter.unusedVariables false
set_option linter.unusedSimpArgs false

def zeroF : F3 := ⟨0, 0, 0⟩
def inF (x : F3) : Prop := inR x.c ∧ inR x.h ∧ inR x.p
/-- The floats of a list lie where a slice says. -/
def URow (w : World) (a : Option Addr) (l : List F3) : Prop := ∀ k, k < l.length → inF (l.getD k zeroF) ∧ ∃ b off, a = some ⟨b, off, none⟩ ∧ b < w.heap.size ∧ w.cell? ⟨b, off + k * 3, none⟩ = some (.int .i64 (l.getD k zeroF).c) ∧ w.cell? ⟨b, off + k * 3 + 1, none⟩ = some (.int .i64 (l.getD k zeroF).h) ∧ w.cell? ⟨b, off + k * 3 + 2, none⟩ = some (.int .i64 (l.getD k zeroF).p)
theorem URow.carry {w w' : World} {a : Option Addr} {l : List F3} (h : URow w a l) (hb : Below w.heap.size w w') : URow w' a l := fun k hk => by
  obtain ⟨hi, b, off, rfl, hB, h0, h1, h2⟩ := h k hk
  have e : ∀ j, w'.cell? ⟨b, off + k * 3 + j, none⟩ = w.cell? ⟨b, off + k * 3 + j, none⟩ := fun j => hb.cell (p := ⟨b, off + k * 3 + j, none⟩) hB
  exact ⟨hi, b, off, rfl, Nat.lt_of_lt_of_le hB hb.size, (hb.cell (p := ⟨b, off + k * 3, none⟩) hB).trans h0, (e 1).trans h1, (e 2).trans h2⟩
def hasAt (l : List F3) (n : Int) : Bool := decide (0 ≤ n) && decide (n < l.length)
def atF (l : List F3) (n : Int) : F3 := cond (hasAt l n) (l.getD n.toNat zeroF) zeroF
theorem fat_any (a : Option Addr) (cap : Nat) (l : List F3) (n : Int) (w : World) (hl : l.length ≤ 1000000) (hr : URow w a l) :
    Calls Try.prog 25 #[.slice a l.length cap, .int .i64 n] w fun e w' => e = .returned (.tuple #[flt (atF l n), .bool (hasAt l n)]) ∧ Below w.heap.size w w' := by
  by_cases h1 : n < 0
  · have e : hasAt l n = false := by simp [hasAt]; omega
    unfold atF
    rw [e]
    unfold flt zeroF cond
    dsimp only
    clear e hr
    go_enter Try.func25, Try.ntmps25
    go_wp2
    exact bodyPost_ret (v := .tuple #[.agg #[.int .i64 0, .int .i64 0, .int .i64 0], .bool false]) (by simp [results, Try.results25, go_sem]) rfl ⟨rfl, tbel1 w _⟩
  · by_cases h2 : (l.length : Int) ≤ n
    · have e : hasAt l n = false := by simp [hasAt]; omega
      unfold atF
      rw [e]
      unfold flt zeroF cond
      dsimp only
      clear e hr
      go_enter Try.func25, Try.ntmps25
      go_wp2
      exact bodyPost_ret (v := .tuple #[.agg #[.int .i64 0, .int .i64 0, .int .i64 0], .bool false]) (by simp [results, Try.results25, go_sem]) rfl ⟨rfl, tbel1 w _⟩
    · obtain ⟨k, rfl⟩ : ∃ k : Nat, n = k := ⟨n.toNat, by omega⟩
      have e : hasAt l k = true := by simp [hasAt]; omega
      unfold atF
      rw [e]
      have hk : k < l.length := by omega
      obtain ⟨hi, b, off, rfl, hB, q0, q1, q2⟩ := hr k hk
      unfold flt cond
      rw [Int.toNat_natCast]
      generalize l.getD k zeroF = y at *
      obtain ⟨c, h, p⟩ := y
      dsimp only at *
      clear e hr hi
      go_enter Try.func25, Try.ntmps25
      go_wp2
      exact bodyPost_ret (v := .tuple #[.agg #[.int .i64 c, .int .i64 h, .int .i64 p], .bool true]) (by simp [results, Try.results25, go_sem]) rfl ⟨rfl, tbel1 w _⟩
def highFU (l : List F3) (ids : List Int) (sep : Int) : Nat → Int
  | 0 => 0
  | k + 1 => cond (hasAt l (ids.getD k 0)) (levN (highFU l ids sep k + levN (atF l (ids.getD k 0)).h + levN sep)) (highFU l ids sep k)
def highF (l : List F3) (ids : List Int) (sep : Int) : Int := highFU l ids sep ids.length
theorem highFU_in (l : List F3) (ids : List Int) (sep : Int) (k : Nat) : 0 ≤ highFU l ids sep k ∧ highFU l ids sep k ≤ 1125899906842624 := by
  induction k with
  | zero => simp [highFU]
  | succ k ih =>
    unfold highFU
    cases hasAt l (ids.getD k 0)
    · exact ih
    · exact lev_in _
end Go.Proofs.Ytniipfpfilenmaa
