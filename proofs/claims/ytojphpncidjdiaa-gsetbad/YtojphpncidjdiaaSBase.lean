/- The walks of share.base and share.Up. -/
import Derived.Test.YtojphpncidjdiaaSMath
import Derived.LoopTactic
import Derived.Lib.Hide
import Derived.Outline
namespace Go.Proofs.Ytojphpncidjdiaa
open Go.RowKit
set_option maxRecDepth 20000
set_option linter.unusedVariables false

theorem base_any (whole : Int) (a : Option Addr) (cap : Nat) (l : List Int) (w : World) (hn : l.length ≤ 1000000) (hr : IRow w.heap.size w a l) :
    Calls Try.prog 43 #[.int .i64 whole, .slice a l.length cap] w fun e w' => e = .returned (two (baseR whole l)) ∧ Below w.heap.size w w' := by
  by_cases hw : whole < 0
  · have e : baseR whole l = (0, false) := by unfold baseR; rw [if_pos hw]
    rw [e]
    unfold two
    go_enter Try.func43, Try.ntmps43
    go_wp2
    go_ret2
    exact ⟨rfl, Below.refl _ _⟩
  · go_enter Try.func43, Try.ntmps43
    go_wp2_with fail
    go_loopw [14] (fun i wr => ∃ k : Nat, k ≤ l.length ∧ i = .int .i64 k ∧ wr = w ∧ Hid (noneNeg (l.take k) = true)) (fun i _ => l.length - (intOf i).toNat)
    case atStart => exact ⟨0, Nat.zero_le _, rfl, rfl, Lib.hid (by simp [noneNeg])⟩
    case round =>
      obtain ⟨k, hk, rfl, rfl, HN⟩ := hrel
      by_cases hlt : k < l.length
      · obtain ⟨hyin, b, off, rfl, hB, hck⟩ := hr k hlt
        have HR := Lib.hid hr
        clear hr
        obtain ⟨y, hy⟩ : ∃ y, y = l.getD k 0 := ⟨_, rfl⟩
        rw [← hy] at hck hyin
        have HY := Lib.hid hy
        clear hy
        by_cases hneg : y < 0
        · have e : baseR whole l = (0, false) := by
            unfold baseR; rw [if_neg (by omega), noneNeg_stop l k hlt (by rw [← HY.out]; exact hneg)]; rfl
          have HE := Lib.hid e
          clear e
          go_wp2
          go_ret2
          exact ⟨by rw [HE.out]; rfl, Below.refl _ _⟩
        · go_wp2
          go_roundw
          case rel => exact ⟨k + 1, by omega, by go_num, trivial, Lib.hid (by rw [noneNeg_snoc l k hlt, HN.out, ← HY.out]; simp; omega)⟩
          case measure => simp [intOf]; omega
      · have hnn : noneNeg l = true := by have := HN.out; rwa [List.take_of_length_le (by omega)] at this
        have e : baseR whole l = ((total l).1, (total l).2 && decide (0 < (total l).1)) := by unfold baseR; rw [if_neg (by omega), if_pos hnn]
        have c := ssum_any a cap l wr hn hr
        obtain ⟨r, hrt⟩ : ∃ r, r = total l := ⟨_, rfl⟩
        rw [← hrt] at c e
        clear hr hnn HN hrt
        obtain ⟨v, o⟩ := r
        have HE := Lib.hid e
        clear e
        unfold two at c
        cases o
        · go_wp2_with (refine c.mono ?_; rintro e w1 ⟨rfl, b1⟩)
          go_ret2
          exact ⟨by rw [HE.out]; rfl, b1⟩
        · go_wp2_with (refine c.mono ?_; rintro e w1 ⟨rfl, b1⟩)
          go_ret2
          exact ⟨by rw [HE.out]; simp [two], b1⟩

/-- What share.Up answers at n. -/
def clampN (n : Int) (m : Nat) : Nat := if n < 0 then 0 else if (m : Int) < n then m else n.toNat
def upS (whole : Int) (l : List Int) (n : Int) : Int × Bool := if rightS whole l then (cumS whole l (clampN n l.length), true) else (0, false)
theorem clampN_le (n : Int) (m : Nat) : clampN n m ≤ m := by unfold clampN; split <;> (try split) <;> omega

end Go.Proofs.Ytojphpncidjdiaa
