/- Least: package cost's and the document's. -/
import Derived.Test.YtofellaihiclkaaCList
namespace Go.Proofs.Ytofellaihiclkaa
open Go.RowKit
set_option linter.unusedVariables false

theorem bdrewN {B : Nat} {a w : World} (h : Below B a w) (n : Nat) : Below B a (w.drewN n) := ⟨h.os, h.tape, h.output, h.size, h.block⟩
theorem leastTo_next (l : List (Int × Int)) (k j : Nat) (h : leastTo l k = (j : Int)) : leastTo l (k + 1) = if cmpC (l.getD k (0, 0)) (l.getD j (0, 0)) < 0 then (k : Int) else (j : Int) := by
  show (if leastTo l k < 0 ∨ cmpC (l.getD k (0, 0)) (l.getD (leastTo l k).toNat (0, 0)) < 0 then (k : Int) else leastTo l k) = _
  rw [h]
  by_cases hc : cmpC (l.getD k (0, 0)) (l.getD j (0, 0)) < 0
  · rw [if_pos (.inr (by simpa using hc)), if_pos hc]
  · rw [if_neg (by simpa using hc), if_neg hc]
theorem least_at (l : List (Int × Int)) (k : Nat) (hk : 0 < k) : ∃ j : Nat, j < k ∧ leastTo l k = (j : Int) := by
  have := leastTo_bd l k
  exact ⟨(leastTo l k).toNat, by omega, by omega⟩
theorem rleast_walk (a : Option Addr) (cap : Nat) (l : List (Int × Int)) (w : World) (hn : l.length ≤ 100) (hr : CRow w a l) :
    Calls Try.prog 20 #[.slice a l.length cap] w fun e w' => e = .returned (.int .i64 (leastC l)) ∧ Below w.heap.size w w' := by
  go_enter Try.func20, Try.ntmps20
  go_wp2_with fail
  go_loopw [3, 4] (fun t i wr => ∃ k : Nat, k ≤ l.length ∧ i = .int .i64 k ∧ t = .int .i64 (leastTo l k) ∧ Below w.heap.size w wr) (fun _ i _ => l.length - (intOf i).toNat)
  case atStart => exact ⟨0, Nat.zero_le _, rfl, rfl, Below.refl _ _⟩
  case round =>
    obtain ⟨k, hk, rfl, rfl, hbl⟩ := hrel
    by_cases hlt : k < l.length
    · by_cases h0 : k = 0
      · subst h0
        have e0 : leastTo l 0 = -1 := rfl
        rw [e0]
        have e1 : leastTo l 1 = 0 := by unfold leastTo; rw [e0, if_pos (.inl (by decide))]; rfl
        have E1 := Lib.hid e1
        clear e1 e0 hr
        go_wp2_with fail
        go_quiet (fail)
        go_wp2
        go_roundw
        case rel => exact ⟨1, by omega, by go_num, by rw [E1.out]; rfl, bdrewN hbl nq⟩
        case measure => simp [intOf]; omega
      · obtain ⟨j, hj, ej⟩ := least_at l k (by omega)
        have en := leastTo_next l k j ej
        obtain ⟨b, off, rfl, hB, hck, hck1⟩ := hr.carry hbl k hlt
        obtain ⟨b', off', ha, hB', hcj, hcj1⟩ := hr.carry hbl j (by omega)
        obtain ⟨rfl, rfl⟩ : b = b' ∧ off = off' := by simpa using ha
        rw [ej]
        obtain ⟨⟨y0, y1⟩, hy⟩ : ∃ y, y = l.getD k (0, 0) := ⟨_, rfl⟩
        obtain ⟨⟨z0, z1⟩, hzz⟩ : ∃ y, y = l.getD j (0, 0) := ⟨_, rfl⟩
        rw [← hy, ← hzz] at en
        rw [← hy] at hck hck1
        rw [← hzz] at hcj hcj1
        have EN := Lib.hid en
        clear hy hzz en ej hr ha
        have hj100 : (j : Int) < l.length := by omega
        have C := Lib.hid (fun w => rCmp_any (y0, y1) (z0, z1) w)
        generalize cmpC (y0, y1) (z0, z1) = c at EN C
        by_cases hc : c < 0
        · rw [if_pos hc] at EN
          go_wp2_with fail
          go_still_tail 11, (by kernel_rfl)
          change wpList _ _ _ _ _ wr.drew
          go_wp2_with fail
          refine (C.out _).mono ?_
          rintro e w1 ⟨rfl, u1⟩
          have hb1 : Below w.heap.size w w1 := hbl.trans (((Below.refl _ wr).drew.trans u1).mono hbl.size)
          clear hck hck1 hcj hcj1 u1
          go_wp2
          go_roundw
          case rel => exact ⟨k + 1, by omega, by go_num, by rw [EN.out], hb1⟩
          case measure => simp [intOf]; omega
        · rw [if_neg hc] at EN
          go_wp2_with fail
          go_still_tail 11, (by kernel_rfl)
          change wpList _ _ _ _ _ wr.drew
          go_wp2_with fail
          refine (C.out _).mono ?_
          rintro e w1 ⟨rfl, u1⟩
          have hb1 : Below w.heap.size w w1 := hbl.trans (((Below.refl _ wr).drew.trans u1).mono hbl.size)
          clear hck hck1 hcj hcj1 u1
          go_wp2
          go_roundw
          case rel => exact ⟨k + 1, by omega, by go_num, by rw [EN.out], hb1⟩
          case measure => simp [intOf]; omega
    · clear hr
      go_wp2
      go_ret
      have e : l.length = k := by omega
      exact ⟨by unfold leastC; rw [e]; rfl, hbl⟩
theorem first_walk (a : Option Addr) (cap : Nat) (l : List (Int × Int)) (w : World) (hn : l.length ≤ 100) (hr : CRow w a l) :
    Calls Try.prog 27 #[.slice a l.length cap, .func (.func 24) #[] #[]] w fun e w' => e = .returned (.int .i64 (leastC l)) ∧ Below w.heap.size w w' := by
  go_enter Try.func27, Try.ntmps27
  go_wp2_with fail
  go_loopw [5, 10] (fun t i wr => ∃ k : Nat, k ≤ l.length ∧ i = .int .i64 k ∧ t = .int .i64 (leastTo l k) ∧ Below w.heap.size w wr) (fun _ i _ => l.length - (intOf i).toNat)
  case atStart => exact ⟨0, Nat.zero_le _, rfl, rfl, Below.refl _ _⟩
  case round =>
    obtain ⟨k, hk, rfl, rfl, hbl⟩ := hrel
    by_cases hlt : k < l.length
    · obtain ⟨b, off, rfl, hB, hck, hck1⟩ := hr.carry hbl k hlt
      obtain ⟨⟨y0, y1⟩, hy⟩ : ∃ y, y = l.getD k (0, 0) := ⟨_, rfl⟩
      rw [← hy] at hck hck1
      by_cases h0 : k = 0
      · subst h0
        have e0 : leastTo l 0 = -1 := rfl
        rw [e0]
        have e1 : leastTo l 1 = 0 := by unfold leastTo; rw [e0, if_pos (.inl (by decide))]; rfl
        have E1 := Lib.hid e1
        clear e1 e0 hr hy
        simp only [Nat.zero_mul, Nat.add_zero] at hck hck1
        go_wp2_with fail
        have hb1 : Below w.heap.size w (wr.alloc (.cells #[.int .i64 y0, .int .i64 y1] 23)) := hbl.alloc hbl.size _
        generalize wr.alloc (.cells #[.int .i64 y0, .int .i64 y1] 23) = W at hb1 ⊢
        go_quiet (fail)
        go_wp2
        go_roundw
        case rel => exact ⟨1, by omega, by go_num, by rw [E1.out]; rfl, bdrewN hb1 nq⟩
        case measure => simp [intOf]; omega
      · obtain ⟨j, hj, ej⟩ := least_at l k (by omega)
        have en := leastTo_next l k j ej
        obtain ⟨b', off', ha, hB', hcj, hcj1⟩ := hr.carry hbl j (by omega)
        obtain ⟨rfl, rfl⟩ : b = b' ∧ off = off' := by simpa using ha
        rw [ej]
        obtain ⟨⟨z0, z1⟩, hzz⟩ : ∃ y, y = l.getD j (0, 0) := ⟨_, rfl⟩
        rw [← hy, ← hzz] at en
        rw [← hzz] at hcj hcj1
        have EN := Lib.hid en
        clear hy hzz en ej hr ha
        have hj100 : (j : Int) < l.length := by omega
        have C := Lib.hid (fun w => below_any (y0, y1) (z0, z1) w)
        generalize cmpC (y0, y1) (z0, z1) = c at EN C
        go_wp2_with fail
        have k0 := cel2_new wr (.int .i64 y0) (.int .i64 y1) 23
        have hb1 : Below w.heap.size w (wr.alloc (.cells #[.int .i64 y0, .int .i64 y1] 23)) := hbl.alloc hbl.size _
        have hb2 := bel1 wr (.cells #[.int .i64 y0, .int .i64 y1] 23)
        have d0 := (hb2.cell (p := ⟨b, off + j * 2, none⟩) hB).trans hcj
        have d1 := (hb2.cell (p := ⟨b, off + j * 2 + 1, none⟩) hB).trans hcj1
        clear hck hck1 hcj hcj1 hb2 hB hB'
        generalize wr.alloc (.cells #[.int .i64 y0, .int .i64 y1] 23) = W at k0 hb1 d0 d1 ⊢
        obtain ⟨k0, k1, _, _⟩ := k0
        go_still_tail 9, (by kernel_rfl)
        change wpList _ _ _ _ _ W.drew
        by_cases hc : c < 0
        · rw [if_pos hc] at EN
          rw [show decide (c < 0) = true from decide_eq_true hc] at C
          go_wp2_with fail
          refine (C.out _).mono ?_
          rintro e w1 ⟨rfl, u1⟩
          have hb3 : Below w.heap.size w w1 := hb1.trans (((Below.refl _ W).drew.trans u1).mono hb1.size)
          clear k0 k1 d0 d1 u1 hb1
          go_wp2
          go_roundw
          case rel => exact ⟨k + 1, by omega, by go_num, by rw [EN.out], hb3⟩
          case measure => simp [intOf]; omega
        · rw [if_neg hc] at EN
          rw [show decide (c < 0) = false from decide_eq_false hc] at C
          go_wp2_with fail
          refine (C.out _).mono ?_
          rintro e w1 ⟨rfl, u1⟩
          have hb3 : Below w.heap.size w w1 := hb1.trans (((Below.refl _ W).drew.trans u1).mono hb1.size)
          clear k0 k1 d0 d1 u1 hb1
          go_wp2
          go_roundw
          case rel => exact ⟨k + 1, by omega, by go_num, by rw [EN.out], hb3⟩
          case measure => simp [intOf]; omega
    · clear hr
      go_wp2
      go_ret
      have e : l.length = k := by omega
      exact ⟨by unfold leastC; rw [e]; rfl, hbl⟩
theorem Least_walk (a : Option Addr) (n cap : Nat) (r : Int) (w : World)
    (c : ∀ w', w' = w → Calls Try.prog 27 #[.slice a n cap, .func (.func 24) #[] #[]] w' fun e w'' => e = .returned (.int .i64 r) ∧ Below w'.heap.size w' w'') :
    Calls Try.prog 19 #[.slice a n cap] w fun e w' => e = .returned (.int .i64 r) ∧ Below w.heap.size w w' := by
  go_enter Try.func19, Try.ntmps19
  go_wp2_with fail
  refine (c _ rfl).mono ?_
  rintro e w1 ⟨rfl, u1⟩
  go_wp2
  go_ret
  exact ⟨rfl, u1⟩
theorem all_any (a : Option Addr) (n cap : Nat) (l : List (Int × Int)) (w : World) (hl : l.length = n) (hn : n ≤ 100) (hr : CRow w a l) :
    Calls Try.prog 18 #[.slice a n cap] w fun e w' => e = .returned (cst (sumC l)) ∧ Below w.heap.size w w' := by
  subst hl; exact all_walk a cap l w hn hr
theorem rleast_any (a : Option Addr) (n cap : Nat) (l : List (Int × Int)) (w : World) (hl : l.length = n) (hn : n ≤ 100) (hr : CRow w a l) :
    Calls Try.prog 20 #[.slice a n cap] w fun e w' => e = .returned (.int .i64 (leastC l)) ∧ Below w.heap.size w w' := by
  subst hl; exact rleast_walk a cap l w hn hr
theorem Least_any (a : Option Addr) (n cap : Nat) (l : List (Int × Int)) (w : World) (hl : l.length = n) (hn : n ≤ 100) (hr : CRow w a l) :
    Calls Try.prog 19 #[.slice a n cap] w fun e w' => e = .returned (.int .i64 (leastC l)) ∧ Below w.heap.size w w' := by
  subst hl; exact Least_walk a _ cap _ w fun w' e => by subst e; exact first_walk a cap l _ hn hr
end Go.Proofs.Ytofellaihiclkaa
