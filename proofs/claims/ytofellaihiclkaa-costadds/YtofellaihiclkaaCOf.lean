/- Of: package cost's and the document's. -/
import Derived.Test.YtofellaihiclkaaCAdd
import Derived.LoopTactic
namespace Go.Proofs.Ytofellaihiclkaa
open Go.RowKit
set_option linter.unusedVariables false

/-- The numbers of a list lie where a slice says (a slice of none may lie nowhere). -/
def RowIn (w : World) (a : Option Addr) (l : List Int) : Prop := ∀ k, k < l.length → ∃ b off, a = some ⟨b, off, none⟩ ∧ b < w.heap.size ∧ w.cell? ⟨b, off + k, none⟩ = some (.int .i64 (l.getD k 0))
theorem RowIn.carry {w w' : World} {a : Option Addr} {l : List Int} (h : RowIn w a l) (hb : Below w.heap.size w w') : RowIn w' a l := fun k hk => by
  obtain ⟨b, off, rfl, hB, hc⟩ := h k hk
  exact ⟨b, off, rfl, Nat.lt_of_lt_of_le hB hb.size, (hb.cell (p := ⟨b, off + k, none⟩) hB).trans hc⟩
theorem of_false (a : Option Addr) (cap : Nat) (l : List Int) (w : World) (hn : l.length ≤ 100) (hr : RowIn w a l) :
    Calls Try.prog 14 #[.bool false, .slice a l.length cap] w fun e w' => e = .returned (cst (ofC false l)) ∧ Below w.heap.size w w' := by
  go_enter Try.func14, Try.ntmps14
  go_wp2_with fail
  go_loopw [16] (fun i wr => ∃ k : Nat, k ≤ l.length ∧ i = .int .i64 k ∧ Below w.heap.size w wr ∧ w.heap.size + 1 < wr.heap.size ∧ Cel2 wr w.heap.size (.int .i64 0) (.int .i64 0) ∧ CAt wr (w.heap.size + 1) (ofC false (l.take k))) (fun i _ => l.length - (intOf i).toNat)
  case atStart => 
    refine ⟨0, Nat.zero_le _, rfl, bel2 _ _ _, by simp, ?_, ?_⟩
    · exact (cel2_new w (.int .i64 0) (.int .i64 0) 23).alloc (.cells #[.int .i64 0, .int .i64 0] 35)
    · have m1 := cel2_new (w.alloc (.cells #[.int .i64 0, .int .i64 0] 23)) (.int .i64 0) (.int .i64 0) 35
      rw [World.size_alloc] at m1
      exact m1
  case round =>
    obtain ⟨k, hk, rfl, hbl, hz, hc, hs⟩ := hrel
    by_cases hlt : k < l.length
    · obtain ⟨y, hy⟩ : ∃ y, y = l.getD k 0 := ⟨_, rfl⟩
      obtain ⟨b, off, rfl, hB, hck⟩ := hr.carry hbl k hlt
      rw [← hy] at hck
      have HY := Lib.hid hy
      clear hy hr
      go_wp2_with fail
      refine (put_any _ _ (0, y) wr hs (okC_of _ _)).mono ?_
      rintro e w1 ⟨rfl, n1, u1⟩
      have hc1 := hc.but u1 (by omega)
      have hb1 : Below w.heap.size w w1 := hbl.trans ((u1.below (by omega)).mono (by omega))
      have z1 : w.heap.size + 1 < w1.heap.size := Nat.lt_of_lt_of_le hz u1.size
      clear hck hc hs u1 hbl
      go_wp2
      go_roundw
      case rel =>
        refine ⟨k + 1, by omega, by go_num, hb1, z1, hc1, ?_⟩
        rw [ofC_snoc _ l k hlt, ← HY.out]
        exact n1
      case measure => simp [intOf]; omega
    · go_wp2_with fail
      refine (cost_any _ _ wr hs).mono ?_
      rintro e w1 ⟨rfl, u1⟩
      have hc1 := hc.carry u1 (by omega)
      have hb1 := bstep hbl u1 (by omega)
      rw [List.take_of_length_le (by omega)]
      obtain ⟨⟨x0, x1⟩, hx⟩ : ∃ x, x = ofC false l := ⟨_, rfl⟩
      rw [← hx]
      have HX := Lib.hid hx
      clear hx hr hc hs u1 hbl
      obtain ⟨c0, c1, c2, c3⟩ := hc1
      unfold cst
      go_wp2
      refine bodyPost_ret (v := .agg #[.int .i64 x0, .int .i64 x1]) (by simp [results, Try.results14, go_sem, *]) rfl ⟨by rw [← HX.out]; rfl, ?_⟩
      exact (hb1.setCell (p := ⟨w.heap.size, 0, none⟩) (Nat.le_refl _) _).setCell (p := ⟨w.heap.size, 1, none⟩) (Nat.le_refl _) _
theorem of_true (a : Option Addr) (cap : Nat) (l : List Int) (w : World) (hn : l.length ≤ 100) (hr : RowIn w a l) :
    Calls Try.prog 14 #[.bool true, .slice a l.length cap] w fun e w' => e = .returned (cst (ofC true l)) ∧ Below w.heap.size w w' := by
  go_enter Try.func14, Try.ntmps14
  go_wp2_with fail
  have m0 := (cel2_new w (.int .i64 0) (.int .i64 0) 23).alloc (.cells #[.int .i64 0, .int .i64 0] 35)
  have m1 := cel2_new (w.alloc (.cells #[.int .i64 0, .int .i64 0] 23)) (.int .i64 0) (.int .i64 0) 35
  rw [World.size_alloc] at m1
  have hb := bel2 w (.cells #[.int .i64 0, .int .i64 0] 23) (.cells #[.int .i64 0, .int .i64 0] 35)
  have z : w.heap.size + 1 < ((w.alloc (.cells #[.int .i64 0, .int .i64 0] 23)).alloc (.cells #[.int .i64 0, .int .i64 0] 35)).heap.size := by simp
  generalize (w.alloc (.cells #[.int .i64 0, .int .i64 0] 23)).alloc (.cells #[.int .i64 0, .int .i64 0] 35) = W at m0 m1 hb z ⊢
  refine (put_any _ (0, 0) (1, 0) W m1 okC_zero).mono ?_
  rintro e w1 ⟨rfl, n1, u1⟩
  have n0 := m0.but u1 (by omega)
  have hb1 : Below w.heap.size w w1 := hb.trans ((u1.below (by omega)).mono (by omega))
  have z1 : w.heap.size + 1 < w1.heap.size := Nat.lt_of_lt_of_le z u1.size
  clear m0 m1 hb z u1
  go_wp2_with fail
  go_loopw [16] (fun i wr => ∃ k : Nat, k ≤ l.length ∧ i = .int .i64 k ∧ Below w.heap.size w wr ∧ w.heap.size + 1 < wr.heap.size ∧ Cel2 wr w.heap.size (.int .i64 0) (.int .i64 0) ∧ CAt wr (w.heap.size + 1) (ofC true (l.take k))) (fun i _ => l.length - (intOf i).toNat)
  case atStart => exact ⟨0, Nat.zero_le _, rfl, hb1, z1, n0, n1⟩
  case round =>
    obtain ⟨k, hk, rfl, hbl, hz, hc, hs⟩ := hrel
    by_cases hlt : k < l.length
    · obtain ⟨y, hy⟩ : ∃ y, y = l.getD k 0 := ⟨_, rfl⟩
      obtain ⟨b, off, rfl, hB, hck⟩ := hr.carry hbl k hlt
      rw [← hy] at hck
      have HY := Lib.hid hy
      clear hy hr
      go_wp2_with fail
      refine (put_any _ _ (0, y) wr hs (okC_of _ _)).mono ?_
      rintro e w1 ⟨rfl, n1, u1⟩
      have hc1 := hc.but u1 (by omega)
      have hb1 : Below w.heap.size w w1 := hbl.trans ((u1.below (by omega)).mono (by omega))
      have z1 : w.heap.size + 1 < w1.heap.size := Nat.lt_of_lt_of_le hz u1.size
      clear hck hc hs u1 hbl
      go_wp2
      go_roundw
      case rel =>
        refine ⟨k + 1, by omega, by go_num, hb1, z1, hc1, ?_⟩
        rw [ofC_snoc _ l k hlt, ← HY.out]
        exact n1
      case measure => simp [intOf]; omega
    · go_wp2_with fail
      refine (cost_any _ _ wr hs).mono ?_
      rintro e w1 ⟨rfl, u1⟩
      have hc1 := hc.carry u1 (by omega)
      have hb1 := bstep hbl u1 (by omega)
      rw [List.take_of_length_le (by omega)]
      obtain ⟨⟨x0, x1⟩, hx⟩ : ∃ x, x = ofC true l := ⟨_, rfl⟩
      rw [← hx]
      have HX := Lib.hid hx
      clear hx hr hc hs u1 hbl
      obtain ⟨c0, c1, c2, c3⟩ := hc1
      unfold cst
      go_wp2
      refine bodyPost_ret (v := .agg #[.int .i64 x0, .int .i64 x1]) (by simp [results, Try.results14, go_sem, *]) rfl ⟨by rw [← HX.out]; rfl, ?_⟩
      exact (hb1.setCell (p := ⟨w.heap.size, 0, none⟩) (Nat.le_refl _) _).setCell (p := ⟨w.heap.size, 1, none⟩) (Nat.le_refl _) _
theorem below_set (w : World) (b : Nat) (u v : Value) : Below b w ((w.setCell ⟨b, 0, none⟩ u).setCell ⟨b, 1, none⟩ v) :=
  ((Below.refl b w).setCell (p := ⟨b, 0, none⟩) (Nat.le_refl _) _).setCell (p := ⟨b, 1, none⟩) (Nat.le_refl _) _
theorem rof_false (a : Option Addr) (cap : Nat) (l : List Int) (w : World) (hn : l.length ≤ 100) (hr : RowIn w a l) :
    Calls Try.prog 15 #[.bool false, .slice a l.length cap] w fun e w' => e = .returned (cst (ofC false l)) ∧ Below w.heap.size w w' := by
  go_enter Try.func15, Try.ntmps15
  go_wp2_with fail
  go_loopw [6] (fun i wr => ∃ k : Nat, k ≤ l.length ∧ i = .int .i64 k ∧ Below w.heap.size w wr ∧ w.heap.size + 1 < wr.heap.size ∧ Cel2 wr w.heap.size (.int .i64 0) (.int .i64 0) ∧ CAt wr (w.heap.size + 1) (ofC false (l.take k))) (fun i _ => l.length - (intOf i).toNat)
  case atStart =>
    refine ⟨0, Nat.zero_le _, rfl, bel2 _ _ _, by simp, ?_, ?_⟩
    · exact (cel2_new w (.int .i64 0) (.int .i64 0) 23).alloc (.cells #[.int .i64 0, .int .i64 0] 23)
    · have m1 := cel2_new (w.alloc (.cells #[.int .i64 0, .int .i64 0] 23)) (.int .i64 0) (.int .i64 0) 23
      rw [World.size_alloc] at m1
      exact m1
  case round =>
    obtain ⟨k, hk, rfl, hbl, hz, hc, hs⟩ := hrel
    obtain ⟨x, hx⟩ : ∃ x, x = ofC false (l.take k) := ⟨_, rfl⟩
    rw [← hx] at hs
    have HX := Lib.hid hx
    clear hx
    obtain ⟨x0, x1⟩ := x
    have hs' := hs
    obtain ⟨s0, s1, s2, s3⟩ := hs'
    have hc' := hc
    obtain ⟨c0, c1, c2, c3⟩ := hc'
    simp only at s0 s1
    by_cases hlt : k < l.length
    · obtain ⟨y, hy⟩ : ∃ y, y = l.getD k 0 := ⟨_, rfl⟩
      obtain ⟨b, off, rfl, hB, hck⟩ := hr.carry hbl k hlt
      rw [← hy] at hck
      have HY := Lib.hid hy
      clear hy hr
      go_wp2_with fail
      go_still_tail 6, (by kernel_rfl)
      change wpList _ _ _ _ _ wr.drew
      go_wp2_with fail
      refine (rAdd_any (x0, x1) (0, y) _).mono ?_
      rintro e w1 ⟨rfl, u1⟩
      have u2 : Below wr.heap.size wr w1 := (Below.refl _ wr).drew.trans u1
      have hc1 := hc.carry u2 (by omega)
      have hs1 := Cel2.carry hs u2 (by omega)
      have hz1 : w.heap.size + 1 < w1.heap.size := Nat.lt_of_lt_of_le hz u2.size
      have hs1' := hs1
      obtain ⟨s0', s1', s2', s3'⟩ := hs1'
      clear u1 hs s0 s1 s2 s3 c0 c1 c2 c3 hc hck
      have e1 : addC (x0, x1) (0, y) = ofC false (l.take (k + 1)) := by rw [ofC_snoc _ l k hlt, ← HX.out, ← HY.out]
      rw [e1]
      obtain ⟨⟨q0, q1⟩, hq⟩ : ∃ q, q = ofC false (l.take (k + 1)) := ⟨_, rfl⟩
      rw [← hq]
      have HQ := Lib.hid hq
      clear hq e1
      unfold cst
      go_wp2
      go_roundw
      case rel =>
        have bs : Below (w.heap.size + 1) w1 ((w1.setCell ⟨w.heap.size + 1, 0, none⟩ (.int .i64 q0)).setCell ⟨w.heap.size + 1, 1, none⟩ (.int .i64 q1)) := below_set _ _ _ _
        refine ⟨k + 1, by omega, by go_num, (hbl.trans (u2.mono (by omega))).trans (bs.mono (by omega)), by simp; omega, hc1.carry bs (by omega), ?_⟩
        rw [← HQ.out]
        exact cel_set hs1 _ _
      case measure => simp [intOf]; omega
    · clear hr
      go_wp2
      refine bodyPost_ret (v := .agg #[.int .i64 x0, .int .i64 x1]) (by simp [results, Try.results15, go_sem, *]) rfl ⟨?_, (hbl.setCell (p := ⟨w.heap.size, 0, none⟩) (Nat.le_refl _) _).setCell (p := ⟨w.heap.size, 1, none⟩) (Nat.le_refl _) _⟩
      have e := HX.out
      rw [List.take_of_length_le (by omega)] at e
      rw [← e]; rfl
theorem rof_true (a : Option Addr) (cap : Nat) (l : List Int) (w : World) (hn : l.length ≤ 100) (hr : RowIn w a l) :
    Calls Try.prog 15 #[.bool true, .slice a l.length cap] w fun e w' => e = .returned (cst (ofC true l)) ∧ Below w.heap.size w w' := by
  go_enter Try.func15, Try.ntmps15
  go_wp2_with fail
  go_loopw [6] (fun i wr => ∃ k : Nat, k ≤ l.length ∧ i = .int .i64 k ∧ Below w.heap.size w wr ∧ w.heap.size + 1 < wr.heap.size ∧ Cel2 wr w.heap.size (.int .i64 0) (.int .i64 0) ∧ CAt wr (w.heap.size + 1) (ofC true (l.take k))) (fun i _ => l.length - (intOf i).toNat)
  case atStart =>
    refine ⟨0, Nat.zero_le _, rfl, bel2 _ _ _, by simp, ?_, ?_⟩
    · exact (cel2_new w (.int .i64 0) (.int .i64 0) 23).alloc (.cells #[.int .i64 1, .int .i64 0] 23)
    · have m1 := cel2_new (w.alloc (.cells #[.int .i64 0, .int .i64 0] 23)) (.int .i64 1) (.int .i64 0) 23
      rw [World.size_alloc] at m1
      exact m1
  case round =>
    obtain ⟨k, hk, rfl, hbl, hz, hc, hs⟩ := hrel
    obtain ⟨x, hx⟩ : ∃ x, x = ofC true (l.take k) := ⟨_, rfl⟩
    rw [← hx] at hs
    have HX := Lib.hid hx
    clear hx
    obtain ⟨x0, x1⟩ := x
    have hs' := hs
    obtain ⟨s0, s1, s2, s3⟩ := hs'
    have hc' := hc
    obtain ⟨c0, c1, c2, c3⟩ := hc'
    simp only at s0 s1
    by_cases hlt : k < l.length
    · obtain ⟨y, hy⟩ : ∃ y, y = l.getD k 0 := ⟨_, rfl⟩
      obtain ⟨b, off, rfl, hB, hck⟩ := hr.carry hbl k hlt
      rw [← hy] at hck
      have HY := Lib.hid hy
      clear hy hr
      go_wp2_with fail
      go_still_tail 6, (by kernel_rfl)
      change wpList _ _ _ _ _ wr.drew
      go_wp2_with fail
      refine (rAdd_any (x0, x1) (0, y) _).mono ?_
      rintro e w1 ⟨rfl, u1⟩
      have u2 : Below wr.heap.size wr w1 := (Below.refl _ wr).drew.trans u1
      have hc1 := hc.carry u2 (by omega)
      have hs1 := Cel2.carry hs u2 (by omega)
      have hz1 : w.heap.size + 1 < w1.heap.size := Nat.lt_of_lt_of_le hz u2.size
      have hs1' := hs1
      obtain ⟨s0', s1', s2', s3'⟩ := hs1'
      clear u1 hs s0 s1 s2 s3 c0 c1 c2 c3 hc hck
      have e1 : addC (x0, x1) (0, y) = ofC true (l.take (k + 1)) := by rw [ofC_snoc _ l k hlt, ← HX.out, ← HY.out]
      rw [e1]
      obtain ⟨⟨q0, q1⟩, hq⟩ : ∃ q, q = ofC true (l.take (k + 1)) := ⟨_, rfl⟩
      rw [← hq]
      have HQ := Lib.hid hq
      clear hq e1
      unfold cst
      go_wp2
      go_roundw
      case rel =>
        have bs : Below (w.heap.size + 1) w1 ((w1.setCell ⟨w.heap.size + 1, 0, none⟩ (.int .i64 q0)).setCell ⟨w.heap.size + 1, 1, none⟩ (.int .i64 q1)) := below_set _ _ _ _
        refine ⟨k + 1, by omega, by go_num, (hbl.trans (u2.mono (by omega))).trans (bs.mono (by omega)), by simp; omega, hc1.carry bs (by omega), ?_⟩
        rw [← HQ.out]
        exact cel_set hs1 _ _
      case measure => simp [intOf]; omega
    · clear hr
      go_wp2
      refine bodyPost_ret (v := .agg #[.int .i64 x0, .int .i64 x1]) (by simp [results, Try.results15, go_sem, *]) rfl ⟨?_, (hbl.setCell (p := ⟨w.heap.size, 0, none⟩) (Nat.le_refl _) _).setCell (p := ⟨w.heap.size, 1, none⟩) (Nat.le_refl _) _⟩
      have e := HX.out
      rw [List.take_of_length_le (by omega)] at e
      rw [← e]; rfl
theorem of_any (o : Bool) (a : Option Addr) (n cap : Nat) (l : List Int) (w : World) (hl : l.length = n) (hn : n ≤ 100) (hr : RowIn w a l) :
    Calls Try.prog 14 #[.bool o, .slice a n cap] w fun e w' => e = .returned (cst (ofC o l)) ∧ Below w.heap.size w w' := by
  subst hl
  cases o
  · exact of_false a cap l w hn hr
  · exact of_true a cap l w hn hr
theorem rof_any (o : Bool) (a : Option Addr) (n cap : Nat) (l : List Int) (w : World) (hl : l.length = n) (hn : n ≤ 100) (hr : RowIn w a l) :
    Calls Try.prog 15 #[.bool o, .slice a n cap] w fun e w' => e = .returned (cst (ofC o l)) ∧ Below w.heap.size w w' := by
  subst hl
  cases o
  · exact rof_false a cap l w hn hr
  · exact rof_true a cap l w hn hr
end Go.Proofs.Ytofellaihiclkaa
