/- The document's answers for layer 2, over the cut: Less, Add, minus, Words. -/
import Derived.Test.YtojphpncidjdiaaWRefA
namespace Go.Proofs.Ytojphpncidjdiaa
open Go.RowKit
set_option linter.unusedVariables false

/-! ### Less -/
set_option maxRecDepth 100000 in
theorem rless_any (x y : Nat) (w : World) (hx : x < 340282366920938463463374607431768211456) (hy : y < 340282366920938463463374607431768211456) :
    Calls Try.prog 88 #[numB x, numB y] w fun e w' => e = .returned (.bool (decide (x < y))) ∧ Below w.heap.size w w' := by
  have hz : x / 2 ^ 128 = y / 2 ^ 128 := by rw [Nat.div_eq_of_lt hx, Nat.div_eq_of_lt hy]
  have HZ := Lib.hid hz
  clear hz
  unfold numB numF
  go_enter Try.func88, Try.ntmps88
  go_wp2
  go_loopw [5] (fun i wr => ∃ k : Nat, k ≤ 128 ∧ i = .int .i64 ((k : Int) - 1) ∧ Below w.heap.size w wr ∧ BB wr w.heap.size 106 128 (fun i => x.testBit i) ∧ BB wr (w.heap.size + 1) 106 128 (fun i => y.testBit i) ∧ x / 2 ^ k = y / 2 ^ k) (fun i _ => (intOf i + 1).toNat)
  case atStart =>
    refine ⟨128, by omega, rfl, bel2 _ _ _, (BB.new _ _ _ _).alloc _, ?_, HZ.out⟩
    have h := BB.new (w.alloc (.cells (cellsB 128 fun i => x.testBit i) 106)) 106 128 (fun i => y.testBit i)
    simp only [World.size_alloc] at h
    exact h
  case round =>
    obtain ⟨k, hk, rfl, hbl, h0, h1, he⟩ := hrel
    have HE := Lib.hid he
    clear he HZ
    by_cases hlt : 0 < k
    · obtain ⟨j, rfl⟩ : ∃ j, k = j + 1 := ⟨k - 1, by omega⟩
      rw [show ((j + 1 : Nat) : Int) - 1 = (j : Int) by omega]
      have c0 := h0.cell (i := j) (by omega)
      have c1 := h1.cell (i := j) (by omega)
      have H0 := Lib.hid h0
      have H1 := Lib.hid h1
      clear h0 h1
      obtain ⟨p, hp⟩ : ∃ p, p = x.testBit j := ⟨_, rfl⟩
      obtain ⟨q, hq⟩ : ∃ q, q = y.testBit j := ⟨_, rfl⟩
      rw [← hp] at c0
      rw [← hq] at c1
      have HP := Lib.hid hp
      have HQ := Lib.hid hq
      clear hp hq
      by_cases hpq : p = q
      · subst hpq
        go_wp2
        go_quiet (fail)
        go_wp2
        go_roundw
        case rel =>
          refine ⟨j, by omega, rfl, below_drewN hbl _, H0.out, H1.out, ?_⟩
          exact less_down x y j HE.out (by rw [← HP.out, ← HQ.out])
        case measure => simp [intOf]
      · have hne : x.testBit j ≠ y.testBit j := by rw [← HP.out, ← HQ.out]; exact hpq
        have HN := Lib.hid (less_at x y j HE.out hne)
        clear hne
        cases p <;> cases q <;> first | exact absurd rfl hpq | skip
        all_goals
          clear hpq
          go_wp2
          go_quiet (fail)
          go_wp2
          go_ret
          exact ⟨by rw [HN.out, ← HQ.out]; rfl, below_drewN hbl _⟩
    · obtain rfl : k = 0 := by omega
      clear h0 h1
      go_wp2
      go_ret
      have e := HE.out
      simp only [Nat.pow_zero, Nat.div_one] at e
      exact ⟨by rw [e]; simp, hbl⟩
/-! ### Add -/
def fA (x y k : Nat) : Nat → Bool := fun i => decide (i < k) && (x + y).testBit i
theorem fA_succ (x y k i : Nat) : upd (fA x y k) k ((x + y).testBit k) i = fA x y (k + 1) i := by
  unfold upd fA
  by_cases e : i = k
  · subst e; rw [if_pos rfl]; simp
  · rw [if_neg e]; congr 1; simp only [decide_eq_decide]; omega
theorem fA_end (x y i : Nat) (hi : i < 128) : fA x y 128 i = (x + y).testBit i := by unfold fA; rw [decide_eq_true hi, Bool.true_and]
/-- What the document's Add answers. -/
def sumF (x y : Nat) : Nat → Bool := if x + y < 340282366920938463463374607431768211456 then fun i => if i < 128 then (x + y).testBit i else true else fun _ => false
set_option maxRecDepth 100000 in
set_option maxHeartbeats 1000000 in
theorem wradd_any (x y : Nat) (w : World) (hx : x < 340282366920938463463374607431768211456) (hy : y < 340282366920938463463374607431768211456) :
    Calls Try.prog 90 #[numB x, numB y] w fun e w' => e = .returned (.agg (cellsB 129 (sumF x y))) ∧ Below w.heap.size w w' := by
  have z := zvNum
  have z2 := zvSum
  unfold numB numF
  go_enter Try.func90, Try.ntmps90
  go_wp2
  go_loopw [6, 7] (fun c i wr => ∃ k : Nat, k ≤ 128 ∧ c = .bool (car x y k) ∧ i = .int .i64 k ∧ Below w.heap.size w wr ∧ BB wr w.heap.size 106 128 (fun i => x.testBit i) ∧ BB wr (w.heap.size + 1) 106 128 (fun i => y.testBit i) ∧ BB wr (w.heap.size + 2) 126 129 (fun _ => false) ∧ BB wr (w.heap.size + 3) 106 128 (fA x y k)) (fun _ i _ => 128 - (intOf i).toNat)
  case atStart =>
    refine ⟨0, by omega, by rw [car_zero], rfl, (bel3 _ _ _ _).alloc (by simp; omega) _, (((BB.new _ _ _ _).alloc _).alloc _).alloc _, ?_, ?_, ?_⟩
    · have h := BB.new (w.alloc (.cells (cellsB 128 fun i => x.testBit i) 106)) 106 128 (fun i => y.testBit i)
      simp only [World.size_alloc] at h
      exact (h.alloc _).alloc _
    · have h := BB.new ((w.alloc (.cells (cellsB 128 fun i => x.testBit i) 106)).alloc (.cells (cellsB 128 fun i => y.testBit i) 106)) 126 129 (fun _ => false)
      simp only [World.size_alloc] at h
      exact h.alloc _
    · have h := BB.new (((w.alloc (.cells (cellsB 128 fun i => x.testBit i) 106)).alloc (.cells (cellsB 128 fun i => y.testBit i) 106)).alloc (.cells (cellsB 129 fun _ => false) 126)) 106 128 (fun _ => false)
      simp only [World.size_alloc] at h
      exact h.congr fun i _ => by unfold fA; simp
  case round =>
    obtain ⟨k, hk, rfl, rfl, hbl, hx0, hy0, hs0, ho⟩ := hrel
    obtain ⟨c, hc⟩ : ∃ c, c = car x y k := ⟨_, rfl⟩
    rw [← hc]
    have HC := Lib.hid hc
    clear hc
    by_cases hlt : k < 128
    · have cx := hx0.cell (i := k) (by omega)
      have cy := hy0.cell (i := k) (by omega)
      have co := ho.cell (i := k) (by omega)
      have fo := ho.frozen (i := k)
      have HX := Lib.hid hx0
      have HY := Lib.hid hy0
      have HS := Lib.hid hs0
      have HO := Lib.hid ho
      have ab := add_bit x y k
      have cs := car_succ x y k
      obtain ⟨p, hp⟩ : ∃ p, p = x.testBit k := ⟨_, rfl⟩
      obtain ⟨q, hq⟩ : ∃ q, q = y.testBit k := ⟨_, rfl⟩
      rw [← hp] at cx
      rw [← hq] at cy
      rw [← hp, ← hq, ← HC.out] at ab cs
      have AB := Lib.hid ab
      have CS := Lib.hid cs
      clear hx0 hy0 hs0 ho z z2 ab cs hp hq
      cases p <;> cases q <;> cases c
      all_goals
        go_wp2
        go_roundw
        case rel =>
          refine ⟨k + 1, by omega, ?_, by go_num, hbl.setCell (by simp; omega) _, HX.out.other (by omega) _, HY.out.other (by omega) _, HS.out.other (by omega) _, (HO.out.set k _).congr fun i hi => ?_⟩
          · rw [CS.out]; rfl
          · rw [← fA_succ x y k i, AB.out]; rfl
        case measure => simp [intOf]; omega
    · obtain rfl : k = 128 := by omega
      have e : c = decide (2 ^ 128 ≤ x + y) := by rw [HC.out]; exact car_top hx hy
      have HO := ho.congr (f' := fun i => (x + y).testBit i) fun i hi => fA_end x y i hi
      clear ho hx0 hy0 z z2
      by_cases hc : x + y < 340282366920938463463374607431768211456
      · have e2 : c = false := by rw [e]; exact decide_eq_false (by omega)
        clear e
        subst e2
        have HE := Lib.hid (show sumF x y = fun i => if i < 128 then (x + y).testBit i else true from if_pos hc)
        clear hc
        go_wp2_with (first | (refine ld_num rfl _ rfl _ rfl _ HO ?_) | (refine bd_sum rfl _ rfl _ rfl ?_) | (refine st_sum rfl _ _ rfl _ _ _ rfl rfl hs0 ?_))
        exact bodyPost_ret (v := .agg (cellsB 129 fun i => if i < 128 then (x + y).testBit i else true)) (res_sum rfl _ _ _ _ rfl (hs0.row _)) rfl ⟨by rw [HE.out], Below.setRow hbl (by omega) _⟩
      · have e2 : c = true := by rw [e]; exact decide_eq_true (by omega)
        clear e
        subst e2
        have HE := Lib.hid (show sumF x y = fun _ => false from if_neg hc)
        clear hc
        go_wp2_with (first | (refine bd_sum0 rfl rfl ?_) | (refine st_sum rfl _ _ rfl _ _ _ rfl rfl hs0 ?_))
        exact bodyPost_ret (v := .agg (cellsB 129 fun _ => false)) (res_sum rfl _ _ _ _ rfl (hs0.row _)) rfl ⟨by rw [HE.out], Below.setRow hbl (by omega) _⟩
/-! ### minus -/
def fM (x y k : Nat) : Nat → Bool := fun i => decide (i < k) && (x - y).testBit i
theorem fM_succ (x y k i : Nat) : upd (fM x y k) k ((x - y).testBit k) i = fM x y (k + 1) i := by
  unfold upd fM
  by_cases e : i = k
  · subst e; rw [if_pos rfl]; simp
  · rw [if_neg e]; congr 1; simp only [decide_eq_decide]; omega
theorem fM_end (x y i : Nat) (hi : i < 128) : fM x y 128 i = (x - y).testBit i := by unfold fM; rw [decide_eq_true hi, Bool.true_and]
set_option maxRecDepth 100000 in
set_option maxHeartbeats 1000000 in
theorem minus_any (x y : Nat) (w : World) (hxy : y ≤ x) :
    Calls Try.prog 89 #[numB x, numB y] w fun e w' => e = .returned (numB (x - y)) ∧ Below w.heap.size w w' := by
  have z := zvNum
  unfold numB numF
  go_enter Try.func89, Try.ntmps89
  go_wp2
  go_loopw [6, 7] (fun c i wr => ∃ k : Nat, k ≤ 128 ∧ c = .bool (bor x y k) ∧ i = .int .i64 k ∧ Below w.heap.size w wr ∧ BB wr w.heap.size 106 128 (fun i => x.testBit i) ∧ BB wr (w.heap.size + 1) 106 128 (fun i => y.testBit i) ∧ BB wr (w.heap.size + 2) 106 128 (fun _ => false) ∧ BB wr (w.heap.size + 3) 106 128 (fM x y k)) (fun _ i _ => 128 - (intOf i).toNat)
  case atStart =>
    refine ⟨0, by omega, by rw [bor_zero], rfl, (bel3 _ _ _ _).alloc (by simp; omega) _, (((BB.new _ _ _ _).alloc _).alloc _).alloc _, ?_, ?_, ?_⟩
    · have h := BB.new (w.alloc (.cells (cellsB 128 fun i => x.testBit i) 106)) 106 128 (fun i => y.testBit i)
      simp only [World.size_alloc] at h
      exact (h.alloc _).alloc _
    · have h := BB.new ((w.alloc (.cells (cellsB 128 fun i => x.testBit i) 106)).alloc (.cells (cellsB 128 fun i => y.testBit i) 106)) 106 128 (fun _ => false)
      simp only [World.size_alloc] at h
      exact h.alloc _
    · have h := BB.new (((w.alloc (.cells (cellsB 128 fun i => x.testBit i) 106)).alloc (.cells (cellsB 128 fun i => y.testBit i) 106)).alloc (.cells (cellsB 128 fun _ => false) 106)) 106 128 (fun _ => false)
      simp only [World.size_alloc] at h
      exact h.congr fun i _ => by unfold fM; simp
  case round =>
    obtain ⟨k, hk, rfl, rfl, hbl, hx0, hy0, hs0, ho⟩ := hrel
    obtain ⟨c, hc⟩ : ∃ c, c = bor x y k := ⟨_, rfl⟩
    rw [← hc]
    have HC := Lib.hid hc
    clear hc
    by_cases hlt : k < 128
    · have cx := hx0.cell (i := k) (by omega)
      have cy := hy0.cell (i := k) (by omega)
      have co := ho.cell (i := k) (by omega)
      have fo := ho.frozen (i := k)
      have HX := Lib.hid hx0
      have HY := Lib.hid hy0
      have HS := Lib.hid hs0
      have HO := Lib.hid ho
      have ab := sub_bit x y k hxy
      have cs := bor_succ x y k hxy
      unfold subN at ab cs
      obtain ⟨p, hp⟩ : ∃ p, p = x.testBit k := ⟨_, rfl⟩
      obtain ⟨q, hq⟩ : ∃ q, q = y.testBit k := ⟨_, rfl⟩
      rw [← hp] at cx
      rw [← hq] at cy
      rw [← hp, ← hq, ← HC.out] at ab cs
      have AB := Lib.hid ab
      have CS := Lib.hid cs
      clear hx0 hy0 hs0 ho z ab cs hp hq
      cases p <;> cases q <;> cases c
      all_goals
        go_wp2
        go_roundw
        case rel =>
          refine ⟨k + 1, by omega, ?_, by go_num, hbl.setCell (by simp; omega) _, HX.out.other (by omega) _, HY.out.other (by omega) _, HS.out.other (by omega) _, (HO.out.set k _).congr fun i hi => ?_⟩
          · rw [CS.out]; rfl
          · rw [← fM_succ x y k i, AB.out]; rfl
        case measure => simp [intOf]; omega
    · obtain rfl : k = 128 := by omega
      have HO := ho.congr (f' := fun i => (x - y).testBit i) fun i hi => fM_end x y i hi
      clear ho hx0 hy0 z
      go_wp2_with (first | (refine ld_num rfl _ rfl _ rfl _ HO ?_) | (refine st_num rfl _ _ rfl _ _ _ rfl rfl hs0 ?_))
      exact bodyPost_ret (v := numB (x - y)) (res_num rfl _ _ _ _ rfl (hs0.row _)) rfl ⟨rfl, Below.setRow hbl (by omega) _⟩
end Go.Proofs.Ytojphpncidjdiaa
