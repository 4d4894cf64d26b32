/- The walk of FigureClasses. -/
import Derived.Test.YtgohglghmhhdnaaUAw
import Derived.Test.YtgohglghmhhdnaaUFlat
import Derived.Test.YtgohglghmhhdnaaNSm
import Derived.Test.YtgohglghmhhdnaaUEq
namespace Go.Proofs.Ytgohglghmhhdnaa
open Go.RowKit
set_option maxRecDepth 20000
set_option linter.unusedVariables false
set_option linter.unusedSimpArgs false

theorem fc_far (a : Option Addr) (n cap : Nat) (c : Int) (w : World) (h : 100 < n) (hn : n ≤ 9223372036854775807) :
    Calls Try.prog 5 #[.slice a n cap, .int .i64 c] w fun e w' => e = .returned (.bool true) ∧ Below w.heap.size w w' := by
  go_enter Try.func5, Try.ntmps5
  go_wp2_with fail
  refine (awake12 _).mono ?_
  rintro e w4 ⟨rfl, b4⟩
  go_wp2
  go_ret
  exact ⟨rfl, b4⟩
/-- How many of the first k floats have a class that may be. -/
def allFU (l : List F3) : Nat → Int
  | 0 => 0
  | k + 1 => allFU l k + (if 0 ≤ (l.getD k zeroF).c ∧ (l.getD k zeroF).c < 3 then 1 else 0)
theorem allFU_sum (l : List F3) (k : Nat) : cntFU l 0 k + cntFU l 1 k + cntFU l 2 k = allFU l k := by
  induction k with
  | zero => rfl
  | succ k ih =>
    unfold allFU
    have h0 : cntFU l 0 (k + 1) = if (l.getD k zeroF).c = 0 then cntFU l 0 k + 1 else cntFU l 0 k := by split; (· exact cntFU_yes (by assumption)); (· exact cntFU_no (by assumption))
    have h1 : cntFU l 1 (k + 1) = if (l.getD k zeroF).c = 1 then cntFU l 1 k + 1 else cntFU l 1 k := by split; (· exact cntFU_yes (by assumption)); (· exact cntFU_no (by assumption))
    have h2 : cntFU l 2 (k + 1) = if (l.getD k zeroF).c = 2 then cntFU l 2 k + 1 else cntFU l 2 k := by split; (· exact cntFU_yes (by assumption)); (· exact cntFU_no (by assumption))
    rw [h0, h1, h2]
    generalize (l.getD k zeroF).c = c at *
    split <;> split <;> split <;> split <;> omega
theorem allFU_in (l : List F3) (k : Nat) : 0 ≤ allFU l k ∧ allFU l k ≤ k := by
  induction k with
  | zero => simp [allFU]
  | succ k ih => unfold allFU; split <;> omega
/-- A slice that holds the numbers S. -/
def RowU (S : List Int) (v : Value) (y : World) : Prop := ∃ a c, v = .slice a S.length c ∧ IRow y.heap.size y a S
theorem OwnN.rowU {w : World} {base : Nat} {v : Value} {l : List Int} (h : OwnN w base v l) : RowU l v w := by
  obtain ⟨a, c, h1, _, _, h2⟩ := h.row
  exact ⟨a, c, h1, h2⟩
set_option maxHeartbeats 2000000 in
theorem fc_near (a : Option Addr) (cap : Nat) (l : List F3) (c : Int) (w : World) (hl : l.length ≤ 100) (hr : URow w a l) :
    Calls Try.prog 5 #[.slice a l.length cap, .int .i64 c] w fun e w' => e = .returned (.bool true) ∧ Below w.heap.size w w' := by
  have C1 := Lib.hid fun x (hx : Below w.heap.size w x) => fcounts_any a cap l x (by omega) (hr.carry hx)
  have C2 : Hid (∀ x, Below w.heap.size w x → Calls Try.prog 16 #[.slice a l.length cap, .int .i64 c] x fun e y => ∃ v, e = .returned v ∧ RowU (ofF l c) v y ∧ Below x.heap.size x y) := Lib.hid fun x hx => (fof_any a cap l c x (by omega) (hr.carry hx)).mono fun e y ⟨v, h1, h2, h3⟩ => ⟨v, h1, h2.rowU, h3⟩
  have C3 : Hid (∀ (c : Int) x, Below w.heap.size w x → Calls Try.prog 17 #[.slice a l.length cap, .int .i64 c] x fun e y => ∃ v, e = .returned v ∧ RowU (ofF l c) v y ∧ Below x.heap.size x y) := Lib.hid fun c x hx => (rfof_any a cap l c x (by omega) (hr.carry hx)).mono fun e y ⟨v, h1, h2, h3⟩ => ⟨v, h1, h2.rowU, h3⟩
  have HL : (ofF l c).length ≤ 100 := Nat.le_trans (ofFU_len l c _) hl
  have HR := Lib.hid hr
  have g1 : decide ((100 : Int) < l.length) = false := decide_eq_false (by omega)
  clear hr
  go_enter Try.func5, Try.ntmps5
  go_wp2_with fail
  refine (C1.out _ (Below.refl _ _)).mono ?_
  rintro e w1 ⟨rfl, b1⟩
  have HS := Lib.hid (allFU_sum l l.length)
  have i0 := cntFU_in l 0 l.length
  have i1 := cntFU_in l 1 l.length
  have i2 := cntFU_in l 2 l.length
  have E0 : cntFU l 0 l.length = (ofF l 0).length := rfl
  have E1 : cntFU l 1 l.length = (ofF l 1).length := rfl
  have E2 : cntFU l 2 l.length = (ofF l 2).length := rfl
  rw [E0] at HS i0
  rw [E1] at HS i1
  rw [E2] at HS i2
  rw [E0, E1, E2]
  have C30 := Lib.hid (C3.out 0)
  have C31 := Lib.hid (C3.out 1)
  have C32 := Lib.hid (C3.out 2)
  replace C3 := Lib.hid (C3.out c)
  clear C1 E0 E1 E2
  generalize ofF l 0 = S0 at *
  generalize ofF l 1 = S1 at *
  generalize ofF l 2 = S2 at *
  generalize ofF l c = S at *
  have D := blk_new w1 #[.int .i64 S0.length, .int .i64 S1.length, .int .i64 S2.length] 35
  have bd := tstep b1 (tbel1 w1 (.cells #[.int .i64 S0.length, .int .i64 S1.length, .int .i64 S2.length] 35)) b1.size
  go_wp2_with fail
  generalize w1.alloc _ = V at *
  go_loopw [6, 7] (fun u i wr => ∃ k : Nat, k ≤ l.length ∧ i = .int .i64 k ∧ u = .int .i64 (allFU l k) ∧ wr = V) (fun _ i _ => l.length - (intOf i).toNat)
  case atStart => exact ⟨0, Nat.zero_le _, rfl, rfl, rfl⟩
  case round =>
    obtain ⟨k, hk, rfl, rfl, rfl⟩ := hrel
    by_cases hlt : k < l.length
    · obtain ⟨_, b, off, rfl, hB, q0, q1, q2⟩ := (HR.out.carry bd) k hlt
      have HA : Hid (allFU l (k + 1) = allFU l k + (if 0 ≤ (l.getD k zeroF).c ∧ (l.getD k zeroF).c < 3 then 1 else 0)) := Lib.hid rfl
      have ha := allFU_in l k
      generalize allFU l k = u at *
      generalize l.getD k zeroF = y at *
      obtain ⟨y0, y1, y2⟩ := y
      dsimp only at *
      clear C2 C3 C30 C31 C32
      by_cases h1 : 0 ≤ y0
      · by_cases h2 : y0 < 3
        · rw [if_pos ⟨h1, h2⟩] at HA
          go_wp2
          go_roundw
          case rel => exact ⟨k + 1, by omega, by go_num, by rw [HA.out], trivial⟩
          case measure => simp [intOf]; omega
        · rw [if_neg (by omega), Int.add_zero] at HA
          go_wp2
          go_roundw
          case rel => exact ⟨k + 1, by omega, by go_num, by rw [HA.out], trivial⟩
          case measure => simp [intOf]; omega
      · rw [if_neg (by omega), Int.add_zero] at HA
        go_wp2
        go_roundw
        case rel => exact ⟨k + 1, by omega, by go_num, by rw [HA.out], trivial⟩
        case measure => simp [intOf]; omega
    · have ej : k = l.length := by omega
      subst ej
      rw [← HS.out]
      have w1' : IntKind.i64.wrap ((S0.length : Int) + S1.length) = (S0.length : Int) + S1.length := by rw [IntKind.wrap_i64]; omega
      have w2' : IntKind.i64.wrap ((S0.length : Int) + S1.length + S2.length) = (S0.length : Int) + S1.length + S2.length := by rw [IntKind.wrap_i64]; omega
      go_wp2_with fail
      clear HS
      have CE0 := Lib.hid fun x (hx : Old wr x) => (D.old hx).triple
      (refine wp_region_plan 36 [(0, true), (1, true), (3, true), (4, true), (2, false), (5, false), (6, true), (7, true), (8, true), (9, true), (12, true), (15, true), (10, false), (11, true), (13, false), (14, true), (16, false), (17, true), (18, true), (19, true), (20, true), (21, true), (22, true), (23, true), (24, true), (25, true), (26, true), (27, true), (28, true), (29, true), (30, true), (31, true), (32, true), (33, true), (34, true), (35, true)] (by kernel_rfl) (by kernel_rfl) ?_; simp only [pick, List.getElem?_cons_succ, List.getElem?_cons_zero, List.drop_succ_cons, List.drop_zero])
      repeat (first | (apply TextV.sees (hw := by kernel_rfl); (focus (intro x hx K hK; have hc := CE0.out x hx; go_simp; exact hK)); simp only [Act.put, List.getElem_toArray, List.getElem_cons_succ, List.getElem_cons_zero, List.setIfInBounds_toArray, List.set_cons_zero, List.set_cons_succ]) | (apply TextV.idle; (focus (intro x hx K hK; go_simp; exact hK)); simp only [Act.put, List.getElem_toArray, List.getElem_cons_succ, List.getElem_cons_zero, List.setIfInBounds_toArray, List.set_cons_zero, List.set_cons_succ]))
      (refine TextV.loud (V := RowU S) (fun x hx => C2.out x (tstep bd hx bd.size)) (by kernel_rfl) (fun _ => by kernel_rfl) (fun v3 y3 hv3 hy3 => ?_); simp only [Act.put, List.getElem_toArray, List.getElem_cons_succ, List.getElem_cons_zero, List.setIfInBounds_toArray, List.set_cons_zero, List.set_cons_succ])
      obtain ⟨a3, k3, rfl, r3⟩ := hv3
      have b3 := tstep bd hy3 bd.size
      (refine TextV.loud (V := RowU S) (fun x hx => C3.out x (tstep b3 hx b3.size)) (by kernel_rfl) (fun _ => by kernel_rfl) (fun v4 y4 hv4 hy4 => ?_); simp only [Act.put, List.getElem_toArray, List.getElem_cons_succ, List.getElem_cons_zero, List.setIfInBounds_toArray, List.set_cons_zero, List.set_cons_succ])
      obtain ⟨a4, k4, rfl, r4⟩ := hv4
      have b4 := tstep b3 hy4 b3.size
      have D4 := (D.old hy3).old hy4
      have r3' := r3.carry hy4 (Nat.le_refl _)
      have c6 := Lib.hid fun x (hx : Old y4 x) => nints_any a3 a4 k3 k4 S S x (by omega) (by omega) ((r3'.carry hx hy4.size).mono (Nat.le_trans hy4.size hx.size)) ((r4.carry hx (Nat.le_refl _)).mono hx.size)
      rw [decide_eq_true rfl] at c6
      clear CE0 r3 r4 r3' hy3 hy4 b3 D C2 C3
      have CE := Lib.hid fun x (hx : Old y4 x) => (D4.old hx).triple
      (refine TextV.call (fun x hx => c6.out x hx) (by kernel_rfl) (fun _ => by kernel_rfl) ?_; simp only [Act.put, List.getElem_toArray, List.getElem_cons_succ, List.getElem_cons_zero, List.setIfInBounds_toArray, List.set_cons_zero, List.set_cons_succ])
      repeat (first | (apply TextV.sees (hw := by kernel_rfl); (focus (intro x hx K hK; have hc := CE.out x hx; go_simp; exact hK)); simp only [Act.put, List.getElem_toArray, List.getElem_cons_succ, List.getElem_cons_zero, List.setIfInBounds_toArray, List.set_cons_zero, List.set_cons_succ]) | (apply TextV.idle; (focus (intro x hx K hK; go_simp; exact hK)); simp only [Act.put, List.getElem_toArray, List.getElem_cons_succ, List.getElem_cons_zero, List.setIfInBounds_toArray, List.set_cons_zero, List.set_cons_succ]))
      (refine TextV.loud (V := RowU S0) (fun x hx => C30.out x (tstep b4 hx b4.size)) (by kernel_rfl) (fun _ => by kernel_rfl) (fun v5 y5 hv5 hy5 => ?_); simp only [Act.put, List.getElem_toArray, List.getElem_cons_succ, List.getElem_cons_zero, List.setIfInBounds_toArray, List.set_cons_zero, List.set_cons_succ])
      obtain ⟨a5, k5, rfl, _⟩ := hv5
      have b5 := tstep b4 hy5 b4.size
      have D5 := D4.old hy5
      clear CE D4 b4 hy5 c6
      have CE := Lib.hid fun x (hx : Old y5 x) => (D5.old hx).triple
      repeat (first | (apply TextV.sees (hw := by kernel_rfl); (focus (intro x hx K hK; have hc := CE.out x hx; go_simp; exact hK)); simp only [Act.put, List.getElem_toArray, List.getElem_cons_succ, List.getElem_cons_zero, List.setIfInBounds_toArray, List.set_cons_zero, List.set_cons_succ]) | (apply TextV.idle; (focus (intro x hx K hK; go_simp; exact hK)); simp only [Act.put, List.getElem_toArray, List.getElem_cons_succ, List.getElem_cons_zero, List.setIfInBounds_toArray, List.set_cons_zero, List.set_cons_succ]))
      (refine TextV.loud (V := RowU S1) (fun x hx => C31.out x (tstep b5 hx b5.size)) (by kernel_rfl) (fun _ => by kernel_rfl) (fun v6 y6 hv6 hy6 => ?_); simp only [Act.put, List.getElem_toArray, List.getElem_cons_succ, List.getElem_cons_zero, List.setIfInBounds_toArray, List.set_cons_zero, List.set_cons_succ])
      obtain ⟨a6, k6, rfl, _⟩ := hv6
      have b6 := tstep b5 hy6 b5.size
      have D6 := D5.old hy6
      clear CE D5 b5 hy6
      have CE := Lib.hid fun x (hx : Old y6 x) => (D6.old hx).triple
      repeat (first | (apply TextV.sees (hw := by kernel_rfl); (focus (intro x hx K hK; have hc := CE.out x hx; go_simp; exact hK)); simp only [Act.put, List.getElem_toArray, List.getElem_cons_succ, List.getElem_cons_zero, List.setIfInBounds_toArray, List.set_cons_zero, List.set_cons_succ]) | (apply TextV.idle; (focus (intro x hx K hK; go_simp; exact hK)); simp only [Act.put, List.getElem_toArray, List.getElem_cons_succ, List.getElem_cons_zero, List.setIfInBounds_toArray, List.set_cons_zero, List.set_cons_succ]))
      (refine TextV.loud (V := RowU S2) (fun x hx => C32.out x (tstep b6 hx b6.size)) (by kernel_rfl) (fun _ => by kernel_rfl) (fun v7 y7 hv7 hy7 => ?_); simp only [Act.put, List.getElem_toArray, List.getElem_cons_succ, List.getElem_cons_zero, List.setIfInBounds_toArray, List.set_cons_zero, List.set_cons_succ])
      obtain ⟨a7, k7, rfl, _⟩ := hv7
      have b7 := tstep b6 hy7 b6.size
      have D7 := D6.old hy7
      clear CE D6 b6 hy7
      have CE := Lib.hid fun x (hx : Old y7 x) => And.intro (D7.old hx).triple (And.intro w1' w2')
      repeat (first | (apply TextV.sees (hw := by kernel_rfl); (focus (intro x hx K hK; have hc := CE.out x hx; go_simp; exact hK)); simp only [Act.put, List.getElem_toArray, List.getElem_cons_succ, List.getElem_cons_zero, List.setIfInBounds_toArray, List.set_cons_zero, List.set_cons_succ]) | (apply TextV.idle; (focus (intro x hx K hK; go_simp; exact hK)); simp only [Act.put, List.getElem_toArray, List.getElem_cons_succ, List.getElem_cons_zero, List.setIfInBounds_toArray, List.set_cons_zero, List.set_cons_succ]))
      (refine TextV.call (fun x hx => awake12 x) (by kernel_rfl) (fun _ => by kernel_rfl) ?_; simp only [Act.put, List.getElem_toArray, List.getElem_cons_succ, List.getElem_cons_zero, List.setIfInBounds_toArray, List.set_cons_zero, List.set_cons_succ])
      repeat (first | (apply TextV.sees (hw := by kernel_rfl); (focus (intro x hx K hK; have hc := CE.out x hx; go_simp; exact hK)); simp only [Act.put, List.getElem_toArray, List.getElem_cons_succ, List.getElem_cons_zero, List.setIfInBounds_toArray, List.set_cons_zero, List.set_cons_succ]) | (apply TextV.idle; (focus (intro x hx K hK; go_simp; exact hK)); simp only [Act.put, List.getElem_toArray, List.getElem_cons_succ, List.getElem_cons_zero, List.setIfInBounds_toArray, List.set_cons_zero, List.set_cons_succ]))
      intro x hx
      replace hx := tstep b7 hx b7.size
      clear CE
      go_wp2
      go_ret
      exact ⟨rfl, hx⟩
theorem figureClasses_walk (a : Option Addr) (len cap : Nat) (c : Int) (hc : (Lit.int .i64 c).wf = true) (w : World) (h : IsFlat Try.prog [3, 22, 3] w a len cap) :
    Calls Try.prog 5 #[.slice a len cap, .int .i64 c] w fun e w' => e = .returned (.bool true) ∧ Below w.heap.size w w' := by
  obtain ⟨l, rfl, k1, k2, hr⟩ := h.urow
  have hm : maxLen ≤ 9223372036854775807 := by decide
  by_cases hn : 100 < l.length
  · exact fc_far a _ cap c w hn (by omega)
  · exact fc_near a cap l c w (by omega) hr
end Go.Proofs.Ytgohglghmhhdnaa
