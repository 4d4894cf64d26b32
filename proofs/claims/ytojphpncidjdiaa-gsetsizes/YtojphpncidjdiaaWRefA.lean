/- The document's answers for layer 2, over the cut: Of, Wide, up. -/
import Derived.Test.YtojphpncidjdiaaWBlk
import Derived.LoopTactic
import Derived.Outline
import Derived.Deep.CutBlock
namespace Go.Proofs.Ytojphpncidjdiaa
open Go.RowKit
set_option linter.unusedVariables false

theorem bit_and (a k : Nat) (h : a < 18446744073709551616) : (bits .and .u64 ((a : Int) / 2 ^ k) 1 == 1) = a.testBit k := by
  have hd : a / 2 ^ k < 18446744073709551616 := Nat.lt_of_le_of_lt (Nat.div_le_self _ _) h
  rw [c_pow, ← Int.natCast_ediv, show (1 : Int) = ((1 : Nat) : Int) from rfl, bits_and_u64_nat _ _ hd (by decide), Nat.and_one_is_mod, tb]
  by_cases h1 : a / 2 ^ k % 2 = 1
  · rw [h1]; rfl
  · rw [show a / 2 ^ k % 2 = 0 by omega]; rfl
theorem tb_hi (a i : Nat) (h : a < 18446744073709551616) (hi : 64 ≤ i) : a.testBit i = false :=
  Nat.testBit_lt_two_pow (Nat.lt_of_lt_of_le h (Nat.pow_le_pow_right (n := 2) (by decide) hi))
set_option maxRecDepth 100000 in
theorem w_of_any (a : Nat) (w : World) (ha : a < 18446744073709551616) :
    Calls Try.prog 86 #[.int .u64 a] w fun e w' => e = .returned (numB a) ∧ Below w.heap.size w w' := by
  have z := zvNum
  go_enter Try.func86, Try.ntmps86
  go_wp2
  go_loopw [4] (fun i wr => ∃ k : Nat, k ≤ 64 ∧ i = .int .i64 k ∧ Below w.heap.size w wr ∧ BB wr w.heap.size 106 128 (fun _ => false) ∧ BB wr (w.heap.size + 1) 106 128 (fun i => decide (i < k) && a.testBit i)) (fun i _ => 64 - (intOf i).toNat)
  case atStart =>
    refine ⟨0, by omega, rfl, bel2 _ _ _, (BB.new _ _ _ _).alloc _, ?_⟩
    have h := BB.new (w.alloc (.cells (cellsB 128 fun _ => false) 106)) 106 128 (fun _ => false)
    simp at h
    exact h.congr (by simp)
  case round =>
    obtain ⟨k, hk, rfl, hbl, h0, h1⟩ := hrel
    by_cases hlt : k < 64
    · have c0 := h1.cell (i := k) (by omega)
      have f0 := h1.frozen (i := k)
      have H0 := Lib.hid h0
      have H1 := Lib.hid h1
      clear h0 h1 z
      go_wp2
      go_roundw
      case rel =>
        rw [bit_and a k ha]
        refine ⟨k + 1, by omega, by go_num, hbl.setCell (by simp) _, H0.out.other (by omega) _, (H1.out.set k _).congr ?_⟩
        intro i hi
        unfold upd
        by_cases e : i = k
        · subst e; simp
        · rw [if_neg e]; simp [show (i < k + 1) = (i < k) by simp; omega]
      case measure => simp [intOf]; omega
    · have H0 := h0
      have H1 := h1.congr (f' := fun i => a.testBit i) (by
        intro i hi
        by_cases e : i < k
        · simp [e]
        · simp only [e, decide_false, Bool.false_and]
          exact (tb_hi a i ha (by omega)).symm)
      clear h0 h1 z
      go_wp2_with (first | (refine ld_num rfl _ rfl _ rfl _ H1 ?_) | (refine st_num rfl _ _ rfl _ _ _ rfl rfl H0 ?_))
      exact bodyPost_ret (v := numB a) (res_num rfl _ _ _ _ rfl (H0.row _)) rfl ⟨rfl, Below.setRow hbl (Nat.le_refl _) _⟩
/-- Two words as one number's bits. -/
theorem wide_bit (h l i : Nat) (hl : l < 18446744073709551616) : (h * 18446744073709551616 + l).testBit i = if i < 64 then l.testBit i else h.testBit (i - 64) := by
  have e : h * 18446744073709551616 + l = 2 ^ 64 * h + l := by omega
  rw [e, Nat.testBit_two_pow_mul_add h hl]
def fW (h l k : Nat) : Nat → Bool := fun i => if i < 64 then l.testBit i else decide (i < 64 + k) && h.testBit (i - 64)
theorem fW_zero (h l i : Nat) (hl : l < 18446744073709551616) : l.testBit i = fW h l 0 i := by
  unfold fW
  by_cases e : i < 64
  · rw [if_pos e]
  · rw [if_neg e, tb_hi l i hl (by omega)]; simp [e]
theorem fW_succ (h l k i : Nat) : upd (fW h l k) (64 + k) (h.testBit k) i = fW h l (k + 1) i := by
  unfold upd fW
  by_cases e : i = 64 + k
  · subst e; rw [if_pos rfl, if_neg (by omega)]; simp
  · rw [if_neg e]
    by_cases e2 : i < 64
    · rw [if_pos e2, if_pos e2]
    · rw [if_neg e2, if_neg e2]; congr 1; simp only [decide_eq_decide]; omega
theorem fW_end (h l i : Nat) (hl : l < 18446744073709551616) (hi : i < 128) : fW h l 64 i = (h * 18446744073709551616 + l).testBit i := by
  rw [wide_bit h l i hl]; unfold fW
  by_cases e : i < 64
  · rw [if_pos e, if_pos e]
  · rw [if_neg e, if_neg e, decide_eq_true (by omega), Bool.true_and]
/-! ### up -/
def fU (x k : Nat) : Nat → Bool := fun i => decide (k < i) && x.testBit (i - 1)
theorem fU_start (x i : Nat) (hi : i < 128) : false = fU x 127 i := by unfold fU; rw [decide_eq_false (by omega)]; rfl
theorem fU_pred (x k i : Nat) : upd (fU x (k + 1)) (k + 1) (x.testBit k) i = fU x k i := by
  unfold upd fU
  by_cases e : i = k + 1
  · subst e; rw [if_pos rfl]; simp
  · rw [if_neg e]; congr 1; simp only [decide_eq_decide]; omega
theorem fU_end (x i : Nat) (one : Bool) : upd (fU x 0) 0 one i = (dbl x one).testBit i := by
  unfold upd fU
  cases i with
  | zero => rw [if_pos rfl, dbl_zero]
  | succ i => rw [if_neg (by omega), dbl_succ, decide_eq_true (by omega)]; simp
set_option maxRecDepth 100000 in
theorem w_up_any (x : Nat) (one : Bool) (w : World) :
    Calls Try.prog 87 #[numB x, .bool one] w fun e w' => e = .returned (numB (dbl x one)) ∧ Below w.heap.size w w' := by
  have z := zvNum
  unfold numB numF
  go_enter Try.func87, Try.ntmps87
  go_wp2
  go_loopw [6] (fun i wr => ∃ k : Nat, k ≤ 127 ∧ i = .int .i64 k ∧ Below w.heap.size w wr ∧ BB wr w.heap.size 106 128 (fun i => x.testBit i) ∧ BB wr (w.heap.size + 1) 106 128 (fun _ => false) ∧ BB wr (w.heap.size + 2) 106 128 (fU x k)) (fun i _ => (intOf i).toNat)
  case atStart =>
    refine ⟨127, by omega, rfl, bel3 _ _ _ _, ((BB.new _ _ _ _).alloc _).alloc _, ?_, ?_⟩
    · have h := BB.new (w.alloc (.cells (cellsB 128 fun i => x.testBit i) 106)) 106 128 (fun _ => false)
      simp only [World.size_alloc] at h
      exact h.alloc _
    · have h := BB.new ((w.alloc (.cells (cellsB 128 fun i => x.testBit i) 106)).alloc (.cells (cellsB 128 fun _ => false) 106)) 106 128 (fun _ => false)
      simp only [World.size_alloc] at h
      exact h.congr fun i hi => fU_start x i hi
  case round =>
    obtain ⟨k, hk, rfl, hbl, ha, h0, h1⟩ := hrel
    by_cases hlt : 0 < k
    · obtain ⟨j, rfl⟩ : ∃ j, k = j + 1 := ⟨k - 1, by omega⟩
      have ca := ha.cell (i := j) (by omega)
      have c0 := h1.cell (i := j + 1) (by omega)
      have f0 := h1.frozen (i := j + 1)
      have HA := Lib.hid ha
      have H0 := Lib.hid h0
      have H1 := Lib.hid h1
      clear ha h0 h1 z
      go_wp2
      go_roundw
      case rel =>
        exact ⟨j, by omega, by go_num, hbl.setCell (by simp; omega) _, HA.out.other (by omega) _, H0.out.other (by omega) _, (H1.out.set (j + 1) _).congr fun i _ => fU_pred x j i⟩
      case measure => simp [intOf]
    · obtain rfl : k = 0 := by omega
      have c0 := h1.cell (i := 0) (by omega)
      have f0 := h1.frozen (i := 0)
      have H0 := h0.other (i := 0) (g' := w.heap.size + 2) (by omega) (.bool one)
      have H1 := (h1.set 0 one).congr fun i _ => fU_end x i one
      have hz : BB wr (w.heap.size + 1) 106 128 fun _ => false := h0
      clear ha h0 h1 z
      go_wp2_with (first | (refine ld_num rfl _ rfl _ rfl _ H1 ?_) | (refine st_num rfl _ _ rfl _ _ _ rfl rfl H0 ?_))
      exact bodyPost_ret (v := numB (dbl x one)) (res_num rfl _ _ _ _ rfl (H0.row _)) rfl ⟨rfl, Below.setRow (hbl.setCell (by simp; omega) _) (by omega) _⟩
end Go.Proofs.Ytojphpncidjdiaa
