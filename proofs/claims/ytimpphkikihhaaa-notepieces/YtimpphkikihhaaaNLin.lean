/- Lines of package note. -/
import Derived.Test.YtimpphkikihhaaaNSame
namespace Go.Proofs.Ytimpphkikihhaaa
open Go.RowKit
set_option maxRecDepth 20000
set_option linter.unusedVariables false
set_option linter.unusedSimpArgs false

/-- Notes of so many lines lie where a slice says. -/
def NLen (w : World) (a : Option Addr) (l : List Nat) : Prop := ∀ k, k < l.length → l.getD k 0 ≤ 1000000 ∧ ∃ b off la lc pa pl pc, a = some ⟨b, off, none⟩ ∧ b < w.heap.size ∧ w.cell? ⟨b, off + k * 2, none⟩ = some (.slice la (l.getD k 0) lc) ∧ w.cell? ⟨b, off + k * 2 + 1, none⟩ = some (.slice pa pl pc)
theorem NLen.carry {w w' : World} {a : Option Addr} {l : List Nat} (h : NLen w a l) (hb : Below w.heap.size w w') : NLen w' a l := fun k hk => by
  obtain ⟨hn, b, off, la, lc, pa, pl, pc, rfl, hB, h0, h1⟩ := h k hk
  exact ⟨hn, b, off, la, lc, pa, pl, pc, rfl, Nat.lt_of_lt_of_le hB hb.size, (hb.cell (p := ⟨b, off + k * 2, none⟩) hB).trans h0, (hb.cell (p := ⟨b, off + k * 2 + 1, none⟩) hB).trans h1⟩
def sumUp (l : List Nat) : Nat → Nat
  | 0 => 0
  | j + 1 => sumUp l j + l.getD j 0
theorem sumUp_le {l : List Nat} (h : ∀ k, k < l.length → l.getD k 0 ≤ 1000000) (j : Nat) (hj : j ≤ l.length) : sumUp l j ≤ 1000000 * j := by
  induction j with
  | zero => simp [sumUp]
  | succ j ih =>
    have := h j (by omega)
    have := ih (by omega)
    unfold sumUp
    omega
theorem nlines_any (a : Option Addr) (cap : Nat) (l : List Nat) (w : World) (hn : l.length ≤ 1000000) (hr : NLen w a l) :
    Calls Try.prog 20 #[.slice a l.length cap] w fun e w' => e = .returned (.int .i64 (sumUp l l.length)) ∧ Below w.heap.size w w' := by
  have HR := Lib.hid hr
  have HU := Lib.hid (sumUp_le (l := l) fun k hk => (hr k hk).1)
  clear hr
  go_enter Try.func20, Try.ntmps20
  go_wp2_with fail
  go_loopw [3, 8] (fun u i wr => ∃ j : Nat, j ≤ l.length ∧ i = .int .i64 j ∧ u = .int .i64 (sumUp l j) ∧ Below w.heap.size w wr) (fun _ i _ => l.length - (intOf i).toNat)
  case atStart => exact ⟨0, Nat.zero_le _, rfl, rfl, Below.refl _ _⟩
  case round =>
    obtain ⟨j, hj, rfl, rfl, bw⟩ := hrel
    have hu := HU.out j hj
    by_cases hlt : j < l.length
    · obtain ⟨hy, b, off, la, lc, pa, pl, pc, rfl, hB, h0, h1⟩ := HR.out.carry bw j hlt
      have HS : Hid (sumUp l (j + 1) = sumUp l j + l.getD j 0) := Lib.hid rfl
      generalize sumUp l j = u at *
      generalize l.getD j 0 = y at *
      go_wp2
      go_roundw
      case rel => exact ⟨j + 1, by omega, by go_num, by rw [HS.out]; go_num, bw.trans ((tbel1 wr _).mono bw.size)⟩
      case measure => simp [intOf]; omega
    · obtain rfl : j = l.length := by omega
      go_wp2
      go_ret
      exact ⟨rfl, bw⟩
end Go.Proofs.Ytimpphkikihhaaa
