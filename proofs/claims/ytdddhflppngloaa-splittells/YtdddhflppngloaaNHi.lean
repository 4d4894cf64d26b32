/- High of package note, and the document's. -/
import Derived.Test.YtdddhflppngloaaNCk
namespace Go.Proofs.Ytdddhflppngloaa
open Go.RowKit
set_option maxRecDepth 20000
set_option linter.unusedVariables false
set_option linter.unusedSimpArgs false

theorem nlevel_any (x : Int) (w : World) : Calls Try.prog 22 #[.int .i64 x] w fun e w' => e = .returned (.int .i64 (levN x)) ∧ w' = w := by
  unfold levN
  by_cases h1 : x < 0
  · rw [if_pos h1]
    go_enter Try.func22, Try.ntmps22
    go_wp2
    go_ret
    exact ⟨rfl, rfl⟩
  · rw [if_neg h1]
    by_cases h2 : 1125899906842624 < x
    · rw [if_pos h2]
      go_enter Try.func22, Try.ntmps22
      go_wp2
      go_ret
      exact ⟨rfl, rfl⟩
    · rw [if_neg h2]
      go_enter Try.func22, Try.ntmps22
      go_wp2
      go_ret
      exact ⟨rfl, rfl⟩
theorem high_zero (la : Option Addr) (ll lc : Nat) (pa : Option Addr) (pl pc : Nat) (f t : Int) (w : World) (hl : ll ≤ 1000000) (h : t ≤ f ∨ t ≤ 0 ∨ (ll : Int) ≤ f ∨ ll = 0) :
    Calls Try.prog 17 #[nte la ll lc pa pl pc, .int .i64 f, .int .i64 t] w fun e w' => e = .returned (.int .i64 0) ∧ Below w.heap.size w w' := by
  have h' : (f < 0 ∧ ¬ (0 : Int) < ll ∧ ¬ (ll : Int) < t) ∨ (f < 0 ∧ ¬ (0 : Int) < t ∧ ¬ (ll : Int) < t) ∨ (f < 0 ∧ ¬ (0 : Int) < ll ∧ (ll : Int) < t) ∨ (¬ f < 0 ∧ ¬ f < t ∧ ¬ (ll : Int) < t) ∨ (¬ f < 0 ∧ ¬ f < (ll : Int) ∧ (ll : Int) < t) := by omega
  clear h
  unfold nte
  rcases h' with ⟨h1, h2, h3⟩ | ⟨h1, h2, h3⟩ | ⟨h1, h2, h3⟩ | ⟨h1, h2, h3⟩ | ⟨h1, h2, h3⟩
  all_goals
    go_enter Try.func17, Try.ntmps17
    go_wp2
    refine wp_loop_rounds 1 ?_
    rw [rounds_succ]
    go_wp2
    go_ret
    exact ⟨rfl, tbel1 w _⟩
set_option maxHeartbeats 1000000 in
theorem high_more (la : Option Addr) (lc : Nat) (L : List Int) (pa : Option Addr) (pl pc : Nat) (f t : Int) (m : Nat) (w : World) (hl : L.length ≤ 1000000) (hm : m < L.length ∧ (m : Int) < t ∧ ((f < 0 ∧ m = 0) ∨ (¬ f < 0 ∧ f = m))) (hL : IRow w.heap.size w la L) :
    Calls Try.prog 17 #[nte la L.length lc pa pl pc, .int .i64 f, .int .i64 t] w fun e w' => e = .returned (.int .i64 (highN L f t)) ∧ Below w.heap.size w w' := by
  obtain ⟨g1, g2, g3⟩ := hm
  have HL := Lib.hid (hL.carry (tbel1 w (.cells #[.slice la L.length lc, .slice pa pl pc] 42)) (Nat.le_refl _))
  have b0 := tbel1 w (.cells #[.slice la L.length lc, .slice pa pl pc] 42)
  have B0 := blk_new w #[.slice la L.length lc, .slice pa pl pc] 42
  have HZ := Lib.hid (highUp_low L f t m (by omega))
  have HM := Lib.hid (show f ≤ (m : Int) by omega)
  clear hL
  unfold nte
  obtain ⟨n, hn, hn1⟩ : ∃ n : Nat, m < n ∧ ((L.length : Int) < t ∧ n = L.length ∨ ¬ (L.length : Int) < t ∧ t = n) := by
    by_cases h : (L.length : Int) < t
    · exact ⟨L.length, g1, .inl ⟨h, rfl⟩⟩
    · exact ⟨t.toNat, by omega, .inr ⟨h, by omega⟩⟩
  have HE : Hid (highN L f t = highUp L f t n) := Lib.hid (by
    rcases hn1 with ⟨_, rfl⟩ | ⟨h, rfl⟩
    · rfl
    · exact highN_over L f n n (by omega) (by omega))
  have hnl : n ≤ L.length := by omega
  have hnt : (n : Int) ≤ t := by omega
  rcases g3 with ⟨g3, g6⟩ | ⟨g3, g6⟩
  all_goals rcases hn1 with ⟨g4, g5⟩ | ⟨g4, g5⟩
  all_goals
    go_enter Try.func17, Try.ntmps17
    go_wp2_with fail
    generalize w.alloc _ = U at *
    obtain ⟨q0, q1⟩ := B0.two
    clear B0
    go_loopw [7, 8] (fun u i wr => ∃ k : Nat, m ≤ k ∧ k ≤ n ∧ i = .int .i64 k ∧ u = .int .i64 (highUp L f t k) ∧ wr = U) (fun _ i _ => n - (intOf i).toNat)
    case atStart => exact ⟨m, Nat.le_refl _, by omega, by first | rfl | (rw [g6]; rfl) | (rw [g6]; done), by rw [HZ.out], rfl⟩
    case round =>
      obtain ⟨k, hk0, hk, rfl, rfl, rfl⟩ := hrel
      have hu := highUp_in L f t k
      by_cases hlt : k < n
      · obtain ⟨hyin, b, off, rfl, hB, hck⟩ := HL.out k (by omega)
        have HS : Hid (highUp L f t (k + 1) = levN (highUp L f t k + levN (L.getD k 0))) := Lib.hid (by rw [highUp, if_pos (by have := HM.out; omega)])
        obtain ⟨y, hy⟩ : ∃ y, y = L.getD k 0 := ⟨_, rfl⟩
        rw [← hy] at hck hyin HS
        clear hy
        have hz := lev_in y
        have c1 := nlevel_any y
        generalize highUp L f t k = u at *
        generalize levN y = z at *
        have c2 := nlevel_any (u + z)
        have k1 : (k : Int) < L.length := by omega
        have k2 : (k : Int) < t := by omega
        go_wp2_with fail
        refine (c1 _).mono ?_
        rintro e w1 ⟨rfl, rfl⟩
        go_wp2_with fail
        refine (c2 _).mono ?_
        rintro e w1 ⟨rfl, rfl⟩
        go_wp2
        go_roundw
        case rel => exact ⟨k + 1, by omega, by omega, by go_num, by rw [HS.out], trivial⟩
        case measure => simp [intOf]; omega
      · have ek : k = n := by omega
        have HF : Hid (highN L f t = highUp L f t k) := Lib.hid (by rw [HE.out, ek])
        generalize highUp L f t k = u at *
        go_wp2
        go_ret
        exact ⟨by rw [HF.out]; rfl, b0⟩
theorem nhigh_any (la : Option Addr) (lc : Nat) (L : List Int) (pa : Option Addr) (pl pc : Nat) (f t : Int) (w : World) (hl : L.length ≤ 1000000) (hL : IRow w.heap.size w la L) :
    Calls Try.prog 17 #[nte la L.length lc pa pl pc, .int .i64 f, .int .i64 t] w fun e w' => e = .returned (.int .i64 (highN L f t)) ∧ Below w.heap.size w w' := by
  by_cases h : t ≤ f ∨ t ≤ 0 ∨ (L.length : Int) ≤ f ∨ L.length = 0
  · have e : highN L f t = 0 := by
      rcases h with h | h | h | h
      · exact highN_zero L f t (.inl h)
      · exact highN_zero L f t (.inr (.inl h))
      · exact highN_zero L f t (.inr (.inr h))
      · unfold highN; rw [h]; rfl
    rw [e]
    exact high_zero la L.length lc pa pl pc f t w hl h
  · exact high_more la lc L pa pl pc f t f.toNat w hl (by omega) hL
theorem lev_sum {s z : Int} (h : 0 ≤ s) (hz : 0 ≤ z) : levN (s + z) = if 1125899906842624 < s + z then 1125899906842624 else s + z := by
  unfold levN
  rw [if_neg (by omega)]
set_option maxHeartbeats 1000000 in
theorem rnhigh_any (la : Option Addr) (lc : Nat) (L : List Int) (pa : Option Addr) (pl pc : Nat) (f t : Int) (w : World) (hl : L.length ≤ 1000000) (hL : IRow w.heap.size w la L) :
    Calls Try.prog 18 #[nte la L.length lc pa pl pc, .int .i64 f, .int .i64 t] w fun e w' => e = .returned (.int .i64 (highN L f t)) ∧ Below w.heap.size w w' := by
  have HL := Lib.hid (hL.carry (tbel1 w (.cells #[.slice la L.length lc, .slice pa pl pc] 42)) (Nat.le_refl _))
  have b0 := tbel1 w (.cells #[.slice la L.length lc, .slice pa pl pc] 42)
  have B0 := blk_new w #[.slice la L.length lc, .slice pa pl pc] 42
  clear hL
  unfold nte
  go_enter Try.func18, Try.ntmps18
  go_wp2_with fail
  generalize w.alloc _ = U at *
  obtain ⟨q0, q1⟩ := B0.two
  clear B0
  go_loopw [7, 8] (fun u i wr => ∃ k : Nat, k ≤ L.length ∧ i = .int .i64 k ∧ u = .int .i64 (highUp L f t k) ∧ wr = U) (fun _ i _ => L.length - (intOf i).toNat)
  case atStart => exact ⟨0, by omega, rfl, rfl, rfl⟩
  case round =>
    obtain ⟨k, hk, rfl, rfl, rfl⟩ := hrel
    have hu := highUp_in L f t k
    by_cases hlt : k < L.length
    · obtain ⟨hyin, b, off, rfl, hB, hck⟩ := HL.out k (by omega)
      by_cases g1 : f ≤ (k : Int)
      · by_cases g2 : (k : Int) < t
        · have HS : Hid (highUp L f t (k + 1) = levN (highUp L f t k + levN (L.getD k 0))) := Lib.hid (by rw [highUp, if_pos ⟨g1, g2⟩])
          obtain ⟨y, hy⟩ : ∃ y, y = L.getD k 0 := ⟨_, rfl⟩
          rw [← hy] at hck hyin HS
          clear hy
          have hz := lev_in y
          rw [lev_sum hu.1 hz.1] at HS
          generalize highUp L f t k = u at *
          unfold levN at HS hz
          by_cases g3 : y < 0
          · rw [if_pos g3] at HS hz
            by_cases g4 : 1125899906842624 < u + 0
            · exfalso; omega
            · rw [if_neg g4] at HS
              go_wp2
              go_roundw
              case rel => exact ⟨k + 1, by omega, by go_num, by rw [HS.out]; simp, trivial⟩
              case measure => simp [intOf]; omega
          · rw [if_neg g3] at HS hz
            by_cases g5 : 1125899906842624 < y
            · rw [if_pos g5] at HS hz
              by_cases g4 : 1125899906842624 < u + 1125899906842624
              · rw [if_pos g4] at HS
                go_wp2
                go_roundw
                case rel => exact ⟨k + 1, by omega, by go_num, by rw [HS.out], trivial⟩
                case measure => simp [intOf]; omega
              · rw [if_neg g4] at HS
                go_wp2
                go_roundw
                case rel => exact ⟨k + 1, by omega, by go_num, by rw [HS.out], trivial⟩
                case measure => simp [intOf]; omega
            · rw [if_neg g5] at HS hz
              by_cases g4 : 1125899906842624 < u + y
              · rw [if_pos g4] at HS
                go_wp2
                go_roundw
                case rel => exact ⟨k + 1, by omega, by go_num, by rw [HS.out], trivial⟩
                case measure => simp [intOf]; omega
              · rw [if_neg g4] at HS
                go_wp2
                go_roundw
                case rel => exact ⟨k + 1, by omega, by go_num, by rw [HS.out]; by_cases h0 : 0 < y; (· rw [if_pos h0]); (· rw [if_neg h0, show y = 0 by omega]), trivial⟩
                case measure => simp [intOf]; omega
        · have HS : Hid (highUp L f t (k + 1) = highUp L f t k) := Lib.hid (by rw [highUp, if_neg (fun h => g2 h.2)])
          generalize highUp L f t k = u at *
          go_wp2
          go_roundw
          case rel => exact ⟨k + 1, by omega, by go_num, by rw [HS.out], trivial⟩
          case measure => simp [intOf]; omega
      · have HS : Hid (highUp L f t (k + 1) = highUp L f t k) := Lib.hid (by rw [highUp, if_neg (fun h => g1 h.1)])
        generalize highUp L f t k = u at *
        go_wp2
        go_roundw
        case rel => exact ⟨k + 1, by omega, by go_num, by rw [HS.out], trivial⟩
        case measure => simp [intOf]; omega
    · have ek : k = L.length := by omega
      have HF : Hid (highN L f t = highUp L f t k) := Lib.hid (by rw [ek]; rfl)
      generalize highUp L f t k = u at *
      go_wp2
      go_ret
      exact ⟨by rw [HF.out]; rfl, b0⟩
end Go.Proofs.Ytdddhflppngloaa
