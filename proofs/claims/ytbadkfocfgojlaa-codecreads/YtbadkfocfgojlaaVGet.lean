/- Get of package chain. -/
import Derived.Test.YtbadkfocfgojlaaVApp
import Derived.WalkMore
namespace Go.Proofs.Ytbadkfocfgojlaa
open Go.RowKit
set_option linter.unusedVariables false

/-- What Get answers. -/
def gotR (i : Int) (l : List Int) : Int × Int × Int :=
  if i < 0 ∨ (l.length : Int) < i then (0, 0, 1) else match getR (l.drop i.toNat) 0 0 with | none => (0, 0, 2) | some (u, m) => (unfoldZ u, i + m, 0)
def trip (r : Int × Int × Int) : Value := .tuple #[.int .i64 r.1, .int .i64 r.2.1, .int .i64 r.2.2]
theorem got_arg (i : Int) (l : List Int) (h : i < 0 ∨ (l.length : Int) < i) : gotR i l = (0, 0, 1) := if_pos h
theorem got_none (i : Nat) (l : List Int) (h : i ≤ l.length) (hg : getR (l.drop i) 0 0 = none) : gotR i l = (0, 0, 2) := by
  unfold gotR
  rw [if_neg (by omega), Int.toNat_natCast, hg]
theorem got_some (i : Nat) (l : List Int) (h : i ≤ l.length) (u : Int) (m : Nat) (hg : getR (l.drop i) 0 0 = some (u, m)) : gotR i l = (unfoldZ u, (i : Int) + m, 0) := by
  unfold gotR
  rw [if_neg (by omega), Int.toNat_natCast, hg]
theorem drop_cons (L : List Int) (k : Nat) (h : k < L.length) : L.drop k = L.getD k 0 :: L.drop (k + 1) := by
  rw [List.drop_eq_getElem_cons h]
  simp [h]
theorem get_bad (a : Option Addr) (c : Nat) (l : List Int) (i : Int) (h : i < 0 ∨ (l.length : Int) < i) (hl : l.length ≤ 1000000) (w : World) :
    Calls Try.prog 38 #[.slice a l.length c, .int .i64 i] w fun e w' => e = .returned (trip (gotR i l)) ∧ w = w' := by
  rw [got_arg i l h]
  rcases h with h | h
  · go_enter Try.func38, Try.ntmps38
    go_wp2
    go_step3
    go_wp2
    rw [Exit.noGoto_ret]
    go_ret3
    exact ⟨rfl, rfl⟩
  · go_enter Try.func38, Try.ntmps38
    go_wp2
    go_step3
    go_wp2
    rw [Exit.noGoto_ret]
    go_ret3
    exact ⟨rfl, rfl⟩
theorem or_group (x y : Int) (k : Nat) (x0 : 0 ≤ x) (x1 : x < pw k) (y0 : 0 ≤ y) (k9 : k ≤ 9) (h : k ≤ 8 ∨ y ≤ 1) :
    bits .or .u64 x (IntKind.u64.wrap (y % 128 * 2 ^ (7 * k))) = x + y % 128 * pw k := by
  have e : (2 : Int) ^ (7 * k) = pw k := by rw [pw_two]; simp
  rw [e]
  have hp := pw_pos k
  have hb : pw k ≤ 9223372036854775808 ∧ y % 128 * pw k < 18446744073709551616 := by
    rcases cases9 k9 with rfl | rfl | rfl | rfl | rfl | rfl | rfl | rfl | rfl | rfl <;> simp only [pw] <;> omega
  have hn : 0 ≤ y % 128 * pw k := Int.mul_nonneg (by omega) (by omega)
  rw [IntKind.wrap_u64, Int.emod_eq_of_lt hn hb.2]
  have hc : bits .or .u64 x (y % 128 * pw k) = bits .or .u64 (y % 128 * pw k) x := by simp only [bits, BitVec.or_comm]
  rw [hc, bits_join .u64 64 (by decide) (fun n a b => by rw [IntKind.wrap_u64]; omega) (7 * k) _ x hn (by rw [e]; exact Int.mul_emod_left ..) (by omega) x0 (by rw [e]; exact x1) (by omega)]
  omega
theorem group_range (x y : Int) (k : Nat) (x0 : 0 ≤ x) (x1 : x < pw k) (y0 : 0 ≤ y) (k9 : k ≤ 9) (h : k ≤ 8 ∨ y ≤ 1) :
    0 ≤ x + y % 128 * pw k ∧ x + y % 128 * pw k < pw (k + 1) ∧ x + y % 128 * pw k ≤ 18446744073709551615 := by
  rcases cases9 k9 with rfl | rfl | rfl | rfl | rfl | rfl | rfl | rfl | rfl | rfl <;> simp only [pw] at * <;> omega
theorem get_good (a : Option Addr) (c : Nat) (l : List Int) (i : Nat) (hi : i ≤ l.length) (hl : l.length ≤ 1000000) (hB : Byt l) (w : World) (hr : Row w a c l) :
    Calls Try.prog 38 #[.slice a l.length c, .int .i64 i] w fun e w' => e = .returned (trip (gotR i l)) ∧ w = w' := by
  obtain ⟨a', c', hcut, hr'⟩ := cut_from a c l i hi w hr
  have hL : (l.drop i).length = l.length - i := by simp
  have hB' : Byt (l.drop i) := fun x hx => hB x (List.mem_of_mem_drop hx)
  have HN := Lib.hid (got_none i l hi)
  have HS := Lib.hid (got_some i l hi)
  rw [← hL] at hcut
  have hLi : (l.drop i).length + i ≤ 1000000 := by omega
  clear hL hr
  generalize l.drop i = L at *
  have hd : decide (l.length < i) = false := by simp; omega
  go_enter Try.func38, Try.ntmps38
  go_wp2_with fail
  go_step3
  go_wp2_with fail
  go_step3
  go_wp2_with fail
  go_loopw [7, 23] (fun u ix wr => ∃ (x : Int) (k : Nat), 0 ≤ x ∧ x < pw k ∧ k ≤ 9 ∧ k ≤ L.length ∧ u = .int .u64 x ∧ ix = .int .i64 k ∧ getR (L.drop k) k x = getR L 0 0 ∧ wr = w) (fun _ ix _ => L.length - (intOf ix).toNat)
  case atStart => exact ⟨0, 0, by omega, by decide, by omega, by omega, rfl, rfl, rfl, rfl⟩
  case round =>
    obtain ⟨x, k, x0, x1, k9, kL, rfl, rfl, hg, rfl⟩ := hrel
    by_cases hlt : k < L.length
    · obtain ⟨y, hy⟩ : ∃ y, y = L.getD k 0 := ⟨_, rfl⟩
      obtain ⟨b1, o1, rfl, hB1, hc1⟩ := hr'.2 k hlt
      have hyb := hB'.at k
      rw [drop_cons L k hlt, ← hy] at hg
      rw [← hy] at hc1 hyb
      clear hy hr' hcut
      obtain ⟨y0, y1⟩ := hyb
      by_cases hA : k = 9 ∧ 1 < y
      · obtain ⟨rfl, hy1⟩ := hA
        have hn : getR L 0 0 = none := by rw [← hg]; unfold getR; rw [if_pos ⟨rfl, hy1⟩]
        have HG := Lib.hid (HN.out hn)
        clear hn hg x1
        go_wp2_with fail
        rw [Exit.noGoto_ret]
        go_ret3
        exact ⟨by rw [HG.out]; rfl, rfl⟩
      · have hkk : k ≤ 8 ∨ y ≤ 1 := by omega
        have ho := or_group x y k x0 x1 y0 k9 hkk
        obtain ⟨r0, r1, r2⟩ := group_range x y k x0 x1 y0 k9 hkk
        obtain ⟨X, hX⟩ : ∃ X, X = x + y % 128 * pw k := ⟨_, rfl⟩
        rw [← hX] at ho r0 r1 r2
        by_cases hB : 128 ≤ y
        · have hn : getR (L.drop (k + 1)) (k + 1) X = getR L 0 0 := by rw [← hg]; conv => rhs; unfold getR; rw [if_neg hA, if_pos hB, ← hX]
          have HG := Lib.hid hn
          have HR := Lib.hid r1
          have k8 : k ≤ 8 := by omega
          clear hn hg x1 hX r1 hA
          go_wp2_with fail
          go_roundw
          case rel =>
            exact ⟨X, k + 1, r0, HR.out, by omega, by omega, rfl, by go_num, HG.out, by first | rfl | trivial⟩
          case measure => simp [intOf]; omega
        · by_cases hC : y = 0 ∧ 0 < k
          · have hn : getR L 0 0 = none := by rw [← hg]; unfold getR; rw [if_neg hA, if_neg hB, if_pos hC]
            have HG := Lib.hid (HN.out hn)
            obtain ⟨rfl, hk⟩ := hC
            clear hn hg x1 hA hX ho
            go_wp2_with fail
            all_goals try rw [Exit.noGoto_ret]
            all_goals go_ret3
            all_goals exact ⟨by rw [HG.out]; rfl, rfl⟩
          · have hn : getR L 0 0 = some (X, k + 1) := by rw [← hg, hX]; unfold getR; rw [if_neg hA, if_neg hB, if_neg hC]
            have HG := Lib.hid (HS.out _ _ hn)
            have cu := unfold_any X r0 r2
            clear hn hg
            by_cases hy0 : y = 0
            · subst hy0
              obtain rfl : k = 0 := by omega
              obtain rfl : x = 0 := by simp only [pw] at x1; omega
              obtain rfl : X = 0 := by simpa using hX
              clear hX x1 hA ho hB hC hkk
              have ho : bits .or .u64 0 0 = 0 := by decide +kernel
              simp only [Nat.add_zero] at hc1
              go_wp2_with (go_at_call 44; with_reducible refine (cu _).mono ?_; rintro e w' ⟨rfl, rfl⟩)
              rw [Exit.noGoto_ret]
              go_ret3
              exact ⟨by rw [HG.out]; rfl, rfl⟩
            · have hy1 : 1 ≤ y := by omega
              have hy2 : y < 128 := by omega
              have hk9 : k = 9 → y = 1 := by omega
              clear hX x1 hA hB hC hy0
              rcases Nat.lt_or_ge k 9 with h9 | h9
              · go_wp2_with (go_at_call 44; with_reducible refine (cu _).mono ?_; rintro e w' ⟨rfl, rfl⟩)
                rw [Exit.noGoto_ret]
                go_ret3
                exact ⟨by rw [HG.out, Int.natCast_succ, ← Int.add_assoc]; rfl, rfl⟩
              · obtain rfl : k = 9 := by omega
                obtain rfl : y = 1 := hk9 rfl
                clear hk9
                rw [show IntKind.u64.wrap (1 % 128 * 2 ^ (7 * 9)) = 9223372036854775808 by decide +kernel] at ho
                go_wp2_with (go_at_call 44; with_reducible refine (cu _).mono ?_; rintro e w' ⟨rfl, rfl⟩)
                rw [Exit.noGoto_ret]
                go_ret3
                exact ⟨by rw [HG.out]; rfl, rfl⟩
    · have hn : getR L 0 0 = none := by rw [← hg, List.drop_eq_nil_of_le (by omega)]; rfl
      have HG := Lib.hid (HN.out hn)
      clear hn hg x1
      go_wp2_with fail
      rw [Exit.noGoto_ret]
      go_ret3
      exact ⟨by rw [HG.out]; rfl, rfl⟩
theorem get_any (a : Option Addr) (c : Nat) (l : List Int) (i : Int) (hl : l.length ≤ 1000000) (hB : Byt l) (w : World) (hr : Row w a c l) :
    Calls Try.prog 38 #[.slice a l.length c, .int .i64 i] w fun e w' => e = .returned (trip (gotR i l)) ∧ w = w' := by
  by_cases h : i < 0 ∨ (l.length : Int) < i
  · exact get_bad a c l i h hl w
  · obtain ⟨k, rfl⟩ := Int.eq_ofNat_of_zero_le (show 0 ≤ i by omega)
    exact get_good a c l k (by omega) hl hB w hr
end Go.Proofs.Ytbadkfocfgojlaa
