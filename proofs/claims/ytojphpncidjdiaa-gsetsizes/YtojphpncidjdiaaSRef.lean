/- The document's Same, Right, Up of layer 8. -/
import Derived.Test.YtojphpncidjdiaaSAll
import Derived.Test.YtojphpncidjdiaaWRefF
import Derived.Test.YtojphpncidjdiaaDetX
namespace Go.Proofs.Ytojphpncidjdiaa
open Go.RowKit
set_option maxRecDepth 20000
set_option linter.unusedVariables false
set_option linter.unusedSimpArgs false

theorem sdrewN {B : Nat} {a w : World} (h : Below B a w) (n : Nat) : Below B a (w.drewN n) := ⟨h.os, h.tape, h.output, h.size, h.block⟩
theorem ssame_any (a b : Option Addr) (ca cb : Nat) (l m : List Int) (w : World) (hl : l.length ≤ 1000000) (hm : m.length ≤ 1000000) (ha : IRow w.heap.size w a l) (hb : IRow w.heap.size w b m) :
    Calls Try.prog 14 #[.slice a l.length ca, .slice b m.length cb] w fun e w' => e = .returned (.bool (decide (l = m))) ∧ Below w.heap.size w w' := by
  rcases Nat.decEq l.length m.length with hne | heq
  · rw [decide_eq_false (fun h => hne (by rw [h]))]
    go_enter Try.func14, Try.ntmps14
    go_wp2_with fail
    go_ret
    exact ⟨rfl, Below.refl _ _⟩
  · go_enter Try.func14, Try.ntmps14
    go_wp2_with fail
    go_loopw [5] (fun i wr => ∃ k : Nat, k ≤ l.length ∧ i = .int .i64 k ∧ Below w.heap.size w wr ∧ ∀ j, j < k → l.getD j 0 = m.getD j 0) (fun i _ => l.length - (intOf i).toNat)
    case atStart => exact ⟨0, Nat.zero_le _, rfl, Below.refl _ _, fun j hj => by omega⟩
    case round =>
      obtain ⟨k, hk, rfl, hbl, hp⟩ := hrel
      have HP := Lib.hid hp
      clear hp
      by_cases hlt : k < l.length
      · obtain ⟨x, hx⟩ : ∃ x, x = l.getD k 0 := ⟨_, rfl⟩
        obtain ⟨y, hy⟩ : ∃ y, y = m.getD k 0 := ⟨_, rfl⟩
        obtain ⟨_, b1, o1, rfl, hB1, hc1⟩ := (ha.carry hbl (Nat.le_refl _)) k hlt
        obtain ⟨_, b2, o2, rfl, hB2, hc2⟩ := (hb.carry hbl (Nat.le_refl _)) k (by omega)
        rw [← hx] at hc1
        rw [← hy] at hc2
        have HX := Lib.hid hx
        have HY := Lib.hid hy
        clear hx hy ha hb
        by_cases hxy : x = y
        · subst hxy
          go_wp2_with fail
          go_quiet (fail)
          go_wp2
          go_roundw
          case rel =>
            refine ⟨k + 1, by omega, by go_num, sdrewN hbl _, fun j hj => ?_⟩
            rcases Nat.lt_or_ge j k with h | h
            · exact HP.out j h
            · obtain rfl : j = k := by omega
              exact HX.out.symm.trans HY.out
          case measure => simp [intOf]; omega
        · have hne : ¬ l = m := fun h => hxy (by rw [HX.out, HY.out, h])
          have HN := Lib.hid hne
          clear hne
          go_wp2_with fail
          go_quiet (fail)
          go_wp2
          go_ret
          exact ⟨by rw [decide_eq_false HN.out]; rfl, sdrewN hbl _⟩
      · have he : l = m := List.ext_getElem? fun j => by
          rcases Nat.lt_or_ge j l.length with h | h
          · have := HP.out j (by omega)
            have h' : j < m.length := by omega
            simpa [h, h'] using this
          · rw [List.getElem?_eq_none h, List.getElem?_eq_none (by omega)]
        have HN := Lib.hid he
        clear he
        go_wp2
        go_ret
        exact ⟨by rw [decide_eq_true HN.out]; rfl, hbl⟩

theorem rightS_eq (whole : Int) (l : List Int) (h : noneNeg l = true) : rightS whole l = (decide (0 ≤ whole) && (total l).2 && decide (0 < (total l).1)) := by
  unfold rightS baseR
  rw [h]
  by_cases hw : whole < 0
  · have h0 : decide (0 ≤ whole) = false := decide_eq_false (by omega)
    rw [if_pos hw, h0]; rfl
  · have h0 : decide (0 ≤ whole) = true := decide_eq_true (by omega)
    rw [if_neg hw, h0]; rfl
theorem rightS_neg (whole : Int) (l : List Int) (h : noneNeg l = false) : rightS whole l = false := by
  unfold rightS baseR
  rw [h]
  split <;> rfl
theorem sright_any (whole : Int) (a : Option Addr) (cap : Nat) (l : List Int) (w : World) (hn : l.length ≤ 1000000) (hr : IRow w.heap.size w a l) :
    Calls Try.prog 45 #[.int .i64 whole, .slice a l.length cap] w fun e w' => e = .returned (.bool (rightS whole l)) ∧ Below w.heap.size w w' := by
  go_enter Try.func45, Try.ntmps45
  go_wp2_with fail
  go_loopw [5] (fun i wr => ∃ k : Nat, k ≤ l.length ∧ i = .int .i64 k ∧ Below w.heap.size w wr ∧ Hid (noneNeg (l.take k) = true)) (fun i _ => l.length - (intOf i).toNat)
  case atStart => exact ⟨0, Nat.zero_le _, rfl, Below.refl _ _, Lib.hid (by simp [noneNeg])⟩
  case round =>
    obtain ⟨k, hk, rfl, hbl, HN⟩ := hrel
    by_cases hlt : k < l.length
    · obtain ⟨hyin, b, off, rfl, hB, hck⟩ := (hr.carry hbl (Nat.le_refl _)) k hlt
      obtain ⟨y, hy⟩ : ∃ y, y = l.getD k 0 := ⟨_, rfl⟩
      rw [← hy] at hck hyin
      have HY := Lib.hid hy
      clear hy hr
      by_cases hneg : y < 0
      · have e : rightS whole l = false := rightS_neg whole l (noneNeg_stop l k hlt (by rw [← HY.out]; exact hneg))
        have HE := Lib.hid e
        clear e
        go_wp2
        go_ret
        exact ⟨by rw [HE.out]; rfl, hbl⟩
      · go_wp2
        go_roundw
        case rel => exact ⟨k + 1, by omega, by go_num, hbl, Lib.hid (by rw [noneNeg_snoc l k hlt, HN.out, ← HY.out]; simp; omega)⟩
        case measure => simp [intOf]; omega
    · have hnn : noneNeg l = true := by have := HN.out; rwa [List.take_of_length_le (by omega)] at this
      have e := rightS_eq whole l hnn
      have c := rsum_any a cap l wr hn ((hr.carry hbl (Nat.le_refl _)).mono hbl.size)
      obtain ⟨r, hrt⟩ : ∃ r, r = total l := ⟨_, rfl⟩
      rw [← hrt] at c e
      clear hr hnn HN hrt
      obtain ⟨v, o⟩ := r
      have HE := Lib.hid e
      clear e
      unfold pair at c
      by_cases hw : 0 ≤ whole
      · cases o
        · go_wp2_with (refine c.mono ?_; rintro e w1 ⟨rfl, b1⟩)
          go_ret
          refine ⟨by rw [HE.out, decide_eq_true hw]; rfl, ?_⟩
          have b2 := hbl.trans (b1.mono hbl.size)
          have hz := b2.size
          exact b2.alloc hz _
        · go_wp2_with (refine c.mono ?_; rintro e w1 ⟨rfl, b1⟩)
          go_ret
          refine ⟨by rw [HE.out, decide_eq_true hw]; simp, ?_⟩
          have b2 := hbl.trans (b1.mono hbl.size)
          have hz := b2.size
          exact b2.alloc hz _
      · go_wp2_with (refine c.mono ?_; rintro e w1 ⟨rfl, b1⟩)
        go_ret
        refine ⟨by rw [HE.out, decide_eq_false (by omega)]; rfl, ?_⟩
        have b2 := hbl.trans (b1.mono hbl.size)
        have hz := b2.size
        exact b2.alloc hz _
end Go.Proofs.Ytojphpncidjdiaa
