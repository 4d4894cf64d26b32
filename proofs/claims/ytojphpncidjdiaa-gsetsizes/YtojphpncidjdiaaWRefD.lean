/- The document's answers for layer 2, over the cut: Mul. -/
import Derived.Test.YtojphpncidjdiaaWRefC
namespace Go.Proofs.Ytojphpncidjdiaa
open Go.RowKit
set_option linter.unusedVariables false

theorem mul_lt {a b : Nat} (ha : a < 18446744073709551616) (hb : b ≤ 18446744073709551616) : a * b < 340282366920938463463374607431768211456 := by
  have := Nat.mul_le_mul (show a ≤ 18446744073709551615 by omega) hb
  omega
theorem sumF_bit (x y i : Nat) (h : x + y < 340282366920938463463374607431768211456) (hi : i < 128) : sumF x y i = (x + y).testBit i := by
  unfold sumF; rw [if_pos h]; simp [hi]
theorem pow_succ2 (a k : Nat) : dbl (a * 2 ^ k) false = a * 2 ^ (k + 1) := by
  show 2 * (a * 2 ^ k) + 0 = _
  rw [Nat.pow_succ, Nat.add_zero, Nat.mul_comm 2, Nat.mul_assoc]
set_option maxRecDepth 100000 in
set_option maxHeartbeats 1000000 in
theorem wrmul_any (a b : Nat) (w : World) (ha : a < 18446744073709551616) (hb : b < 18446744073709551616) :
    Calls Try.prog 80 #[.int .u64 a, .int .u64 b] w fun e w' => e = .returned (numB (a * b)) ∧ Below w.heap.size w w' := by
  have z := zvNum
  go_enter Try.func80, Try.ntmps80
  go_wp2_with fail
  refine (w_of_any a _ ha).mono ?_
  rintro e w1 ⟨rfl, b1⟩
  have B0 := ((BB.new w 106 128 (fun _ => false)).alloc (.cells (cellsB 128 fun _ => false) 106)).carry b1 (by simp; omega)
  have B1 := BB.new (w.alloc (.cells (cellsB 128 fun _ => false) 106)) 106 128 (fun _ => false)
  have B2 := B1.carry b1 (by simp)
  simp only [World.size_alloc] at B2
  have bw : Below w.heap.size w w1 := (bel2 w _ _).trans (b1.mono (by simp; omega))
  have s1 := b1.size
  simp only [World.size_alloc] at s1
  have N1 := BB.new w1 106 128 (fun _ => false)
  clear b1 B1
  unfold numB numF
  go_wp2_with (refine st_num rfl _ _ rfl _ _ _ rfl rfl N1 ?_)
  go_loopw [7] (fun i wr => ∃ k : Nat, k ≤ 64 ∧ i = .int .i64 k ∧ Below w.heap.size w wr ∧ BB wr w.heap.size 106 128 (fun _ => false) ∧ BB wr (w.heap.size + 1) 106 128 (fun i => (a * (b % 2 ^ k)).testBit i) ∧ BB wr w1.heap.size 106 128 (fun i => (a * 2 ^ k).testBit i)) (fun i _ => 64 - (intOf i).toNat)
  case atStart =>
    refine ⟨0, by omega, rfl, Below.setRow (bw.alloc bw.size _) (by omega) _, (B0.alloc _).rowOther (by omega) _, ((B2.alloc _).rowOther (by omega) _).congr fun i _ => ?_, (N1.row _).congr fun i _ => ?_⟩
    · simp [Nat.mod_one]
    · simp
  case round =>
    obtain ⟨k, hk, rfl, hbl, h0, h1, h2⟩ := hrel
    clear B0 B2 N1 bw
    by_cases hlt : k < 64
    · have hbit := bit_and b k hb
      have hms := mul_step a b k
      have p1 : a * (b % 2 ^ k) < 340282366920938463463374607431768211456 := mul_lt ha (Nat.le_trans (Nat.mod_le _ _) (Nat.le_of_lt hb))
      have p2 : a * 2 ^ k < 340282366920938463463374607431768211456 := mul_lt ha (Nat.pow_le_pow_right (n := 2) (by decide) (show k ≤ 64 by omega))
      have p3 : a * (b % 2 ^ (k + 1)) < 340282366920938463463374607431768211456 := mul_lt ha (Nat.le_trans (Nat.mod_le _ _) (Nat.le_of_lt hb))
      have P1 := Lib.hid p1
      have P2 := Lib.hid p2
      have P3 := Lib.hid p3
      clear p1 p2 p3
      by_cases hbk : b.testBit k = true
      · rw [hbk] at hbit
        rw [if_pos hbk] at hms
        have HM := Lib.hid hms
        clear hms hbk
        have hf := field_sum
        go_wp2_with (first | (refine ld_num rfl _ rfl _ rfl _ h1 ?_) | (refine ld_num rfl _ rfl _ rfl _ h2 ?_))
        refine (wradd_any (a * (b % 2 ^ k)) (a * 2 ^ k) _ P1.out P2.out).mono ?_
        rintro e w2 ⟨rfl, c1⟩
        have z1 := c1.size
        replace h0 := h0.carry c1 h0.lt
        replace h2 := h2.carry c1 h2.lt
        have h1' := h1.carry c1 h1.lt
        have hbl' : Below w.heap.size w w2 := hbl.trans (c1.mono hbl.size)
        clear h1 c1 hbl
        have q1 := (h1'.row (sumF (a * (b % 2 ^ k)) (a * 2 ^ k))).congr (f' := fun i => (a * (b % 2 ^ (k + 1))).testBit i) (fun i hi => by
          rw [sumF_bit _ _ i (by rw [← HM.out]; exact P3.out) hi, ← HM.out])
        have q2 := h2.rowOther (g' := w.heap.size + 1) (by omega) (cellsB 128 (sumF (a * (b % 2 ^ k)) (a * 2 ^ k)))
        have q0 := h0.rowOther (g' := w.heap.size + 1) (by omega) (cellsB 128 (sumF (a * (b % 2 ^ k)) (a * 2 ^ k)))
        have qb := Below.setRow hbl' (g := w.heap.size + 1) (by omega) (cellsB 128 (sumF (a * (b % 2 ^ k)) (a * 2 ^ k)))
        go_wp2_with (first | (refine st_num rfl _ _ rfl _ _ _ rfl rfl h1' ?_) | (refine ld_num rfl _ rfl _ rfl _ q2 ?_))
        clear h0 h2 h1' hbl'
        generalize w2.setRow (w.heap.size + 1) (cellsB 128 (sumF (a * (b % 2 ^ k)) (a * 2 ^ k))) = w3 at q0 q1 q2 qb ⊢
        refine (w_up_any (a * 2 ^ k) false _).mono ?_
        rintro e w4 ⟨rfl, d1⟩
        rw [pow_succ2]
        have y0 := q0.carry d1 q0.lt
        have y1 := q1.carry d1 q1.lt
        have y2 := q2.carry d1 q2.lt
        have yb : Below w.heap.size w w4 := qb.trans (d1.mono qb.size)
        have Y0 := Lib.hid y0
        have Y1 := Lib.hid y1
        clear q0 q1 q2 qb d1 y0 y1
        unfold numB numF
        go_wp2_with (refine st_num rfl _ _ rfl _ _ _ rfl rfl y2 ?_)
        go_roundw
        case rel =>
          exact ⟨k + 1, by omega, by go_num, Below.setRow yb (by omega) _, Y0.out.rowOther (by omega) _, Y1.out.rowOther (by omega) _, y2.row _⟩
        case measure => simp [intOf]; omega
      · have hbf : b.testBit k = false := by simpa using hbk
        rw [hbf] at hbit
        replace hms : a * (b % 2 ^ (k + 1)) = a * (b % 2 ^ k) := by rw [hms, if_neg hbk]; rfl
        have q0 := h0
        have q1 := h1
        have q2 := h2
        have qb := hbl
        rw [← hms] at q1
        clear h0 h1 h2 hbl hms hbk hbf
        go_wp2_with (refine ld_num rfl _ rfl _ rfl _ q2 ?_)
        refine (w_up_any (a * 2 ^ k) false _).mono ?_
        rintro e w4 ⟨rfl, d1⟩
        rw [pow_succ2]
        have y0 := q0.carry d1 q0.lt
        have y1 := q1.carry d1 q1.lt
        have y2 := q2.carry d1 q2.lt
        have yb : Below w.heap.size w w4 := qb.trans (d1.mono qb.size)
        have Y0 := Lib.hid y0
        have Y1 := Lib.hid y1
        clear q0 q1 q2 qb d1 y0 y1
        unfold numB numF
        go_wp2_with (refine st_num rfl _ _ rfl _ _ _ rfl rfl y2 ?_)
        go_roundw
        case rel =>
          exact ⟨k + 1, by omega, by go_num, Below.setRow yb (by omega) _, Y0.out.rowOther (by omega) _, Y1.out.rowOther (by omega) _, y2.row _⟩
        case measure => simp [intOf]; omega
    · obtain rfl : k = 64 := by omega
      have e : b % 2 ^ 64 = b := Nat.mod_eq_of_lt hb
      rw [e] at h1
      clear h2 e
      go_wp2_with (first | (refine ld_num rfl _ rfl _ rfl _ h1 ?_) | (refine st_num rfl _ _ rfl _ _ _ rfl rfl h0 ?_))
      exact bodyPost_ret (v := numB (a * b)) (res_num rfl _ _ _ _ rfl (h0.row _)) rfl ⟨rfl, Below.setRow hbl (Nat.le_refl _) _⟩
end Go.Proofs.Ytojphpncidjdiaa
