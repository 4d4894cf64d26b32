/- The document's Check of layer 11. -/
import Derived.Test.YtimpphkikihhaaaNCk
namespace Go.Proofs.Ytimpphkikihhaaa
open Go.RowKit
set_option maxRecDepth 20000
set_option linter.unusedVariables false
set_option linter.unusedSimpArgs false

theorem badH_no {y : Int} (h1 : ¬ y < 1) (h2 : ¬ 1073741823 < y) : badH y = false := by unfold badH; simp [h1, h2]
theorem badP_no {y : Int} (h1 : ¬ y < 0) (h2 : ¬ 10000 < y) : badP y = false := by unfold badP; simp [h1, h2]
theorem badH_yes {y : Int} (h : y < 1 ∨ 1073741823 < y) : badH y = true := by unfold badH; rcases h with h | h <;> simp [h]
theorem badP_yes {y : Int} (h : y < 0 ∨ 10000 < y) : badP y = true := by unfold badP; rcases h with h | h <;> simp [h]
set_option maxHeartbeats 1000000 in
theorem rcheck_fit (la : Option Addr) (lc : Nat) (L : List Int) (pa : Option Addr) (pc : Nat) (P : List Int) (w : World) (h1 : 1 ≤ L.length) (h2 : L.length ≤ 64) (h3 : P.length + 1 = L.length) (hL : IRow w.heap.size w la L) (hP : IRow w.heap.size w pa P) :
    Calls Try.prog 8 #[nte la L.length lc pa P.length pc] w fun e w' => e = .returned (.bool (checkN L P)) ∧ Below w.heap.size w w' := by
  rw [check_fit L P h1 h2 h3]
  have h4 : ((P.length : Int) != (L.length : Int) - 1) = false := by rw [bne_eq_false_iff_eq]; omega
  have HL := Lib.hid (hL.carry (tbel1 w (.cells #[.slice la L.length lc, .slice pa P.length pc] 25)) (Nat.le_refl _))
  have HP := Lib.hid (hP.carry (tbel1 w (.cells #[.slice la L.length lc, .slice pa P.length pc] 25)) (Nat.le_refl _))
  have b0 := tbel1 w (.cells #[.slice la L.length lc, .slice pa P.length pc] 25)
  have B0 := blk_new w #[.slice la L.length lc, .slice pa P.length pc] 25
  clear hL hP
  unfold nte
  go_enter Try.func8, Try.ntmps8
  go_wp2_with fail
  generalize w.alloc _ = U at *
  obtain ⟨q0, q1⟩ := B0.two
  clear B0
  go_loopw [3] (fun i wr => ∃ k : Nat, k ≤ L.length ∧ i = .int .i64 k ∧ wr = U ∧ Hid ((L.take k).any badH = false)) (fun i _ => L.length - (intOf i).toNat)
  case atStart => exact ⟨0, Nat.zero_le _, rfl, rfl, Lib.hid (by simp)⟩
  case round =>
    obtain ⟨k, hk, rfl, rfl, HN⟩ := hrel
    by_cases hlt : k < L.length
    · obtain ⟨hyin, b, off, rfl, hB, hck⟩ := HL.out k hlt
      obtain ⟨y, hy⟩ : ∃ y, y = L.getD k 0 := ⟨_, rfl⟩
      rw [← hy] at hck hyin
      have HY := Lib.hid hy
      clear hy
      by_cases g1 : y < 1
      · go_wp2
        go_ret
        exact ⟨by rw [any_at hlt (by rw [← HY.out]; exact badH_yes (.inl g1))]; rfl, b0⟩
      · by_cases g2 : 1073741823 < y
        · go_wp2
          go_ret
          exact ⟨by rw [any_at hlt (by rw [← HY.out]; exact badH_yes (.inr g2))]; rfl, b0⟩
        · go_wp2
          go_roundw
          case rel => exact ⟨k + 1, by omega, by go_num, trivial, Lib.hid (any_snoc hlt HN.out (by rw [← HY.out]; exact badH_no g1 g2))⟩
          case measure => simp [intOf]; omega
    · have hh : L.any badH = false := by have := HN.out; rwa [List.take_of_length_le (by omega)] at this
      have HH := Lib.hid hh
      clear hh HN HL
      go_wp2_with fail
      go_loopw [4] (fun i wx => ∃ k : Nat, k ≤ P.length ∧ i = .int .i64 k ∧ wx = wr ∧ Hid ((P.take k).any badP = false)) (fun i _ => P.length - (intOf i).toNat)
      case atStart => exact ⟨0, Nat.zero_le _, rfl, rfl, Lib.hid (by simp)⟩
      case round =>
        obtain ⟨k, hk, rfl, rfl, HN⟩ := hrel
        by_cases hlt : k < P.length
        · obtain ⟨hyin, b, off, rfl, hB, hck⟩ := HP.out k hlt
          obtain ⟨y, hy⟩ : ∃ y, y = P.getD k 0 := ⟨_, rfl⟩
          rw [← hy] at hck hyin
          have HY := Lib.hid hy
          clear hy
          by_cases g1 : y < 0
          · go_wp2
            go_ret
            exact ⟨by rw [HH.out, any_at hlt (by rw [← HY.out]; exact badP_yes (.inl g1))]; rfl, b0⟩
          · by_cases g2 : 10000 < y
            · go_wp2
              go_ret
              exact ⟨by rw [HH.out, any_at hlt (by rw [← HY.out]; exact badP_yes (.inr g2))]; rfl, b0⟩
            · go_wp2
              go_roundw
              case rel => exact ⟨k + 1, by omega, by go_num, trivial, Lib.hid (any_snoc hlt HN.out (by rw [← HY.out]; exact badP_no g1 g2))⟩
              case measure => simp [intOf]; omega
        · have hh : P.any badP = false := by have := HN.out; rwa [List.take_of_length_le (by omega)] at this
          go_wp2
          go_ret
          exact ⟨by rw [HH.out, hh]; rfl, b0⟩
theorem rncheck_any (la : Option Addr) (lc : Nat) (L : List Int) (pa : Option Addr) (pc : Nat) (P : List Int) (w : World) (hl : L.length ≤ 9223372036854775807) (hp : P.length ≤ 9223372036854775807) (hL : IRow w.heap.size w la L) (hP : IRow w.heap.size w pa P) :
    Calls Try.prog 8 #[nte la L.length lc pa P.length pc] w fun e w' => e = .returned (.bool (checkN L P)) ∧ Below w.heap.size w w' := by
  by_cases h1 : 1 ≤ L.length
  · by_cases h2 : L.length ≤ 64
    · by_cases h3 : P.length + 1 = L.length
      · exact rcheck_fit la lc L pa pc P w h1 h2 h3 hL hP
      · rw [check_few L P (.inr (.inr h3))]
        have h4 : ((P.length : Int) != (L.length : Int) - 1) = true := by rw [bne_iff_ne]; omega
        unfold nte
        go_enter Try.func8, Try.ntmps8
        go_wp2
        go_ret
        exact ⟨rfl, tbel1 w _⟩
    · rw [check_few L P (.inr (.inl h2))]
      unfold nte
      go_enter Try.func8, Try.ntmps8
      go_wp2
      go_ret
      exact ⟨rfl, tbel1 w _⟩
  · rw [check_few L P (.inl h1)]
    unfold nte
    go_enter Try.func8, Try.ntmps8
    go_wp2
    go_ret
    exact ⟨rfl, tbel1 w _⟩
end Go.Proofs.Ytimpphkikihhaaa
