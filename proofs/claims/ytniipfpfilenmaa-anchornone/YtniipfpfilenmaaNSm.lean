/- The same numbers, the same notes: package slices, package note, and the document's. -/
import Derived.Test.YtniipfpfilenmaaNSt
import Derived.BigQuiet
namespace Go.Proofs.Ytniipfpfilenmaa
open Go.RowKit
set_option maxRecDepth 20000
set_option linter.unusedVariables false
set_option linter.unusedSimpArgs false

theorem ndrewN {B : Nat} {w x : World} (h : Below B w x) (n : Nat) : Below B w (x.drewN n) := ⟨h.os, h.tape, h.output, h.size, h.block⟩
theorem nints_any (a b : Option Addr) (ca cb : Nat) (l m : List Int) (w : World) (hl : l.length ≤ 1000000) (hm : m.length ≤ 1000000) (ha : IRow w.heap.size w a l) (hb : IRow w.heap.size w b m) :
    Calls Try.prog 8 #[.slice a l.length ca, .slice b m.length cb] w fun e w' => e = .returned (.bool (decide (l = m))) ∧ Below w.heap.size w w' := by
  rcases Nat.decEq l.length m.length with hne | heq
  · rw [decide_eq_false (fun h => hne (by rw [h]))]
    go_enter Try.func8, Try.ntmps8
    go_wp2_with fail
    go_ret
    exact ⟨rfl, Below.refl _ _⟩
  · go_enter Try.func8, Try.ntmps8
    go_wp2_with fail
    go_loopw [5] (fun i wr => ∃ k : Nat, k ≤ l.length ∧ i = .int .i64 k ∧ Below w.heap.size w wr ∧ ∀ j, j < k → l.getD j 0 = m.getD j 0) (fun i _ => l.length - (intOf i).toNat)
    case atStart => exact ⟨0, Nat.zero_le _, rfl, Below.refl _ _, fun j hj => by omega⟩
    case round =>
      obtain ⟨k, hk, rfl, hbl, hp⟩ := hrel
      have HP := Lib.hid hp
      clear hp
      by_cases hlt : k < l.length
      · obtain ⟨x, hx⟩ : ∃ x, x = l.getD k 0 := ⟨_, rfl⟩
        obtain ⟨y, hy⟩ : ∃ y, y = m.getD k 0 := ⟨_, rfl⟩
        obtain ⟨_, b1, o1, rfl, hB1, hc1⟩ := (ha.carry hbl (Nat.le_refl _)) k hlt
        obtain ⟨_, b2, o2, rfl, hB2, hc2⟩ := (hb.carry hbl (Nat.le_refl _)) k (by omega)
        rw [← hx] at hc1
        rw [← hy] at hc2
        have HX := Lib.hid hx
        have HY := Lib.hid hy
        clear hx hy ha hb
        by_cases hxy : x = y
        · subst hxy
          go_wp2_with fail
          go_quiet (fail)
          go_wp2
          go_roundw
          case rel =>
            refine ⟨k + 1, by omega, by go_num, ndrewN hbl _, fun j hj => ?_⟩
            rcases Nat.lt_or_ge j k with h | h
            · exact HP.out j h
            · obtain rfl : j = k := by omega
              exact HX.out.symm.trans HY.out
          case measure => simp [intOf]; omega
        · have hne : ¬ l = m := fun h => hxy (by rw [HX.out, HY.out, h])
          have HN := Lib.hid hne
          clear hne
          go_wp2_with fail
          go_quiet (fail)
          go_wp2
          go_ret
          exact ⟨by rw [decide_eq_false HN.out]; rfl, ndrewN hbl _⟩
      · have he : l = m := List.ext_getElem? fun j => by
          rcases Nat.lt_or_ge j l.length with h | h
          · have := HP.out j (by omega)
            have h' : j < m.length := by omega
            simpa [h, h'] using this
          · rw [List.getElem?_eq_none h, List.getElem?_eq_none (by omega)]
        have HN := Lib.hid he
        clear he
        go_wp2
        go_ret
        exact ⟨by rw [decide_eq_true HN.out]; rfl, hbl⟩

end Go.Proofs.Ytniipfpfilenmaa
