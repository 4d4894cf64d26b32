/- The document's ints, Bare, Geom. -/
import Derived.Test.YthglidbhabknkaaQFlt
import Derived.Test.YthglidbhabknkaaVRget
namespace Go.Proofs.Ythglidbhabknkaa
open Go.RowKit
set_option maxRecDepth 20000
set_option linter.unusedVariables false
set_option linter.unusedSimpArgs false

theorem ints_any (a : Option Addr) (c : Nat) (l : List Int) (hin : ∀ x ∈ l, inR x) (hl : l.length ≤ 1000000) (w : World) (hr : RowK .i64 w a c l) :
    Calls Try.prog 29 #[.slice a l.length c] w fun e w' => ∃ v, e = .returned v ∧ Own w' w.heap.size v (l.flatMap chZ) ∧ Below w.heap.size w w' := by
  have HR := Lib.hid hr
  clear hr
  go_enter Try.func29, Try.ntmps29
  go_wp2_with fail
  go_loopw [3, 4] (fun v i wr => ∃ k : Nat, k ≤ l.length ∧ i = .int .i64 k ∧ Own wr w.heap.size v ((l.take k).flatMap chZ) ∧ Below w.heap.size w wr) (fun _ i _ => l.length - (intOf i).toNat)
  case atStart => exact ⟨0, Nat.zero_le _, rfl, World.ownsRow_nil _ _ _ _, Below.refl _ _⟩
  case round =>
    obtain ⟨k, hk, rfl, hown, hbl⟩ := hrel
    by_cases hlt : k < l.length
    · obtain ⟨b, off, rfl, hB, hck⟩ := (HR.out.carry hbl).2 k hlt
      have hyin := getD_in hin k hlt
      have hlen := flatZ_take hin k
      have HN := Lib.hid (flatZ_step l k hlt)
      have ly := chZ_ten hyin
      have cy := fun w => chain_any (l.getD k 0) hyin.1 hyin.2 w
      change (chainL (foldZ (l.getD k 0))).length ≤ 10 at ly
      change Hid (_ = _ ++ chainL (foldZ (l.getD k 0))) at HN
      generalize chainL (foldZ (l.getD k 0)) = C at *
      generalize l.getD k 0 = y at *
      generalize (l.take k).flatMap chZ = D at *
      go_wp2_with fail
      refine (cy _).mono ?_
      rintro e w2 ⟨v2, rfl, o2, b2⟩
      obtain ⟨a2, k2, rfl, r2⟩ := own_row o2
      have hown2 := hown.carry b2
      have hb2 := bstep hbl b2 hbl.size
      clear o2 hown hbl b2 cy hck
      go_wp2_with (at_builtin; refine wpList_app rfl (.tmp 11) (.tmp 16) rfl rfl hown2 rfl r2 (by omega) hb2 hb2.size ?_; intro v3 w3 o3 b3)
      go_roundw
      case rel => exact ⟨k + 1, by omega, by go_num, by rw [HN.out]; exact o3, b3⟩
      case measure => simp [intOf]; omega
    · rw [List.take_of_length_le (by omega)] at hown
      go_wp2_with fail
      go_ret
      exact ⟨_, rfl, hown, hbl⟩
set_option maxHeartbeats 1000000 in
theorem run_eql_I (x y : I7) (w : World) : Sem.run Try.prog (binOp .eql 44 (.agg #[.int .i64 x.k, .int .i64 x.h, .int .i64 x.f, .int .i64 x.s, .int .i64 x.o, .int .i64 x.r, .int .i64 x.n]) (.agg #[.int .i64 y.k, .int .i64 y.h, .int .i64 y.f, .int .i64 y.s, .int .i64 y.o, .int .i64 y.r, .int .i64 y.n])) w = .ok (.bool (isB (x = y))) w := by
  obtain ⟨a0, a1, a2, a3, a4, a5, a6⟩ := x
  obtain ⟨b0, b1, b2, b3, b4, b5, b6⟩ := y
  by_cases h : (⟨a0, a1, a2, a3, a4, a5, a6⟩ : I7) = ⟨b0, b1, b2, b3, b4, b5, b6⟩
  · rw [isB_yes h]
    injection h with h0 h1 h2 h3 h4 h5 h6
    subst h0 h1 h2 h3 h4 h5 h6
    simp [go_sem]
  · rw [isB_no h]
    simp only [I7.mk.injEq] at h
    simp [go_sem]
    intro e0 e1 e2 e3 e4 e5 e6
    exact h ⟨e0, e1, e2, e3, e4, e5, e6⟩
/-- An item's own fields alone. -/
def onlyQ (x : I7) : I7 := if x.k = 1 then ⟨x.k, x.h, x.f, 0, 0, 0, 0⟩ else if x.k = 2 then ⟨x.k, x.h, 0, x.s, x.o, x.r, 0⟩ else if 3 ≤ x.k ∧ x.k ≤ 6 then ⟨x.k, 0, 0, 0, 0, 0, x.n⟩ else ⟨x.k, 0, 0, 0, 0, 0, 0⟩
theorem bare_only (x : I7) (h1 : 1 ≤ x.k) (h2 : x.k ≤ 7) : isB (bareI x) = isB (x = onlyQ x) := by
  apply isB_congr
  obtain ⟨k, h, f, s, o, r, n⟩ := x
  dsimp only at h1 h2
  have hk : k = 1 ∨ k = 2 ∨ k = 3 ∨ k = 4 ∨ k = 5 ∨ k = 6 ∨ k = 7 := by omega
  rcases hk with rfl | rfl | rfl | rfl | rfl | rfl | rfl <;> simp [bareI, onlyQ]
set_option maxHeartbeats 1000000 in
theorem rBare_any (x : I7) (w : World) :
    Calls Try.prog 16 #[itm x] w fun e w' => e = .returned (.bool (isB (bareI x))) ∧ Below w.heap.size w w' := by
  by_cases hk : 1 ≤ x.k ∧ x.k ≤ 7
  · rw [bare_only x hk.1 hk.2]
    obtain ⟨k, h, f, s, o, r, n⟩ := x
    unfold itm
    dsimp only at hk ⊢
    have hk' : k = 1 ∨ k = 2 ∨ k = 3 ∨ k = 4 ∨ k = 5 ∨ k = 6 ∨ k = 7 := by omega
    clear hk
    rcases hk' with rfl | rfl | rfl | rfl | rfl | rfl | rfl
    · rw [show onlyQ ⟨1, h, f, s, o, r, n⟩ = ⟨1, h, f, 0, 0, 0, 0⟩ by simp [onlyQ]]
      have hE := run_eql_I ⟨1, h, f, s, o, r, n⟩ ⟨1, h, f, 0, 0, 0, 0⟩
      generalize isB _ = R at *
      dsimp only at hE
      go_enter Try.func16, Try.ntmps16
      go_wp2
      go_ret
      exact ⟨rfl, tbel2 w _ _⟩
    · rw [show onlyQ ⟨2, h, f, s, o, r, n⟩ = ⟨2, h, 0, s, o, r, 0⟩ by simp [onlyQ]]
      have hE := run_eql_I ⟨2, h, f, s, o, r, n⟩ ⟨2, h, 0, s, o, r, 0⟩
      generalize isB _ = R at *
      dsimp only at hE
      go_enter Try.func16, Try.ntmps16
      go_wp2
      go_ret
      exact ⟨rfl, tbel2 w _ _⟩
    · rw [show onlyQ ⟨3, h, f, s, o, r, n⟩ = ⟨3, 0, 0, 0, 0, 0, n⟩ by simp [onlyQ]]
      have hE := run_eql_I ⟨3, h, f, s, o, r, n⟩ ⟨3, 0, 0, 0, 0, 0, n⟩
      generalize isB _ = R at *
      dsimp only at hE
      go_enter Try.func16, Try.ntmps16
      go_wp2
      go_ret
      exact ⟨rfl, tbel2 w _ _⟩
    · rw [show onlyQ ⟨4, h, f, s, o, r, n⟩ = ⟨4, 0, 0, 0, 0, 0, n⟩ by simp [onlyQ]]
      have hE := run_eql_I ⟨4, h, f, s, o, r, n⟩ ⟨4, 0, 0, 0, 0, 0, n⟩
      generalize isB _ = R at *
      dsimp only at hE
      go_enter Try.func16, Try.ntmps16
      go_wp2
      go_ret
      exact ⟨rfl, tbel2 w _ _⟩
    · rw [show onlyQ ⟨5, h, f, s, o, r, n⟩ = ⟨5, 0, 0, 0, 0, 0, n⟩ by simp [onlyQ]]
      have hE := run_eql_I ⟨5, h, f, s, o, r, n⟩ ⟨5, 0, 0, 0, 0, 0, n⟩
      generalize isB _ = R at *
      dsimp only at hE
      go_enter Try.func16, Try.ntmps16
      go_wp2
      go_ret
      exact ⟨rfl, tbel2 w _ _⟩
    · rw [show onlyQ ⟨6, h, f, s, o, r, n⟩ = ⟨6, 0, 0, 0, 0, 0, n⟩ by simp [onlyQ]]
      have hE := run_eql_I ⟨6, h, f, s, o, r, n⟩ ⟨6, 0, 0, 0, 0, 0, n⟩
      generalize isB _ = R at *
      dsimp only at hE
      go_enter Try.func16, Try.ntmps16
      go_wp2
      go_ret
      exact ⟨rfl, tbel2 w _ _⟩
    · rw [show onlyQ ⟨7, h, f, s, o, r, n⟩ = ⟨7, 0, 0, 0, 0, 0, 0⟩ by simp [onlyQ]]
      have hE := run_eql_I ⟨7, h, f, s, o, r, n⟩ ⟨7, 0, 0, 0, 0, 0, 0⟩
      generalize isB _ = R at *
      dsimp only at hE
      go_enter Try.func16, Try.ntmps16
      go_wp2
      go_ret
      exact ⟨rfl, tbel2 w _ _⟩
  · rw [isB_no fun h => hk ⟨h.1, h.2.1⟩]
    obtain ⟨k, h, f, s, o, r, n⟩ := x
    unfold itm
    dsimp only at hk ⊢
    have hk' : k < 1 ∨ 7 < k := by omega
    clear hk
    rcases hk' with hk | hk
    all_goals
      go_enter Try.func16, Try.ntmps16
      go_wp2
      go_ret
      exact ⟨rfl, tbel2 w _ _⟩
theorem numA_at (g : G19) (j : Nat) (hj : j < 18) : (numA g)[j]? = some (.int .i64 ((numsG g).getD j 0)) := by
  have : j = 0 ∨ j = 1 ∨ j = 2 ∨ j = 3 ∨ j = 4 ∨ j = 5 ∨ j = 6 ∨ j = 7 ∨ j = 8 ∨ j = 9 ∨ j = 10 ∨ j = 11 ∨ j = 12 ∨ j = 13 ∨ j = 14 ∨ j = 15 ∨ j = 16 ∨ j = 17 := by omega
  rcases this with rfl | rfl | rfl | rfl | rfl | rfl | rfl | rfl | rfl | rfl | rfl | rfl | rfl | rfl | rfl | rfl | rfl | rfl <;> rfl
theorem numA_row (w : World) (g : G19) : RowK .i64 (w.alloc (.cells (numA g) 2)) (some ⟨w.heap.size, 0, none⟩) 18 (numsG g) := ⟨Nat.le_refl _, fun j hj => ⟨w.heap.size, 0, rfl, by simp, by
  rw [Nat.zero_add]
  exact ((blk_new w (numA g) 2).cell j).trans (numA_at g j hj)⟩⟩
set_option maxHeartbeats 1000000 in
theorem rGeom_any (x : G19) (hx : inE x) (w : World) :
    Calls Try.prog 12 #[.agg (geoC x)] w fun e w' => ∃ a c, e = .returned (.slice a (geomE x).length c) ∧ Row w' a c (geomE x) ∧ Below w.heap.size w w' := by
  have HG : Hid (geomE x = (numsG x).flatMap chZ ++ [if x.bal then 1 else 0]) := Lib.hid rfl
  have ln := flatZ_len (numsG_in hx)
  have h18 : (numsG x).length = 18 := rfl
  rw [h18] at ln
  have ci := fun w => ints_any (some ⟨w.heap.size, 0, none⟩) 18 (numsG x) (numsG_in hx) (by omega) _ (numA_row w x)
  rw [h18] at ci
  unfold numA at ci
  generalize (numsG x).flatMap chZ = E at *
  generalize geomE x = G at *
  have D := geo_new w x
  have b0 := tbel1 w (.cells (geoC x) 24)
  clear hx h18
  go_enter Try.func12, Try.ntmps12
  go_upto_region 1 with (fail)
  generalize w.alloc _ = U at *
  obtain ⟨q0, q1, q2, q3, q4, q5, q6, q7, q8, q9, q10, q11, q12, q13, q14, q15, q16, q17, q18⟩ := D.cells
  go_wp2_with fail
  refine (ci _).mono ?_
  rintro e w1 ⟨v, rfl, o1, b1⟩
  have b2 := tbel1 U (.cells (numA x) 2)
  have b3 := tstep (tstep b0 b2 b0.size) b1 (by have := b0.size; have := b2.size; omega)
  have q18' := ((D.old b2).old b1).cells.2.2.2.2.2.2.2.2.2.2.2.2.2.2.2.2.2.2
  have hN := b1.size
  have hN0 : w.heap.size ≤ (U.alloc (.cells (numA x) 2)).heap.size := by have := b0.size; have := b2.size; omega
  change Own w1 (U.alloc (.cells (numA x) 2)).heap.size v E at o1
  change (U.alloc (.cells (numA x) 2)).heap.size ≤ w1.heap.size at hN
  clear q0 q1 q2 q3 q4 q5 q6 q7 q8 q9 q10 q11 q12 q13 q14 q15 q16 q17 q18 ci b1 b2 b0 D
  obtain ⟨z, hz⟩ : ∃ b, b = x.bal := ⟨_, rfl⟩
  rw [← hz] at q18' HG
  generalize (U.alloc (.cells (numA x) 2)).heap.size = N at *
  clear hz
  cases z
  · go_wp2_with (at_builtin; refine wpList_app rfl (.tmp 47) (.tmp 48) rfl rfl (o1.alloc1 _) (m := [0]) rfl (row_new _ _ _ (by decide)) (by simp; omega) ((Below.refl N w1).alloc hN _) (by simp; omega) ?_; intro v2 w2 o2 b2)
    go_ret
    obtain ⟨a2, c2, rfl, r2⟩ := own_row o2
    exact ⟨a2, c2, by rw [HG.out]; rfl, by rw [HG.out]; exact r2, Below.trans b3 (b2.mono hN0)⟩
  · go_wp2_with (at_builtin; refine wpList_app rfl (.tmp 44) (.tmp 45) rfl rfl (o1.alloc1 _) (m := [1]) rfl (row_new _ _ _ (by decide)) (by simp; omega) ((Below.refl N w1).alloc hN _) (by simp; omega) ?_; intro v2 w2 o2 b2)
    go_ret
    obtain ⟨a2, c2, rfl, r2⟩ := own_row o2
    exact ⟨a2, c2, by rw [HG.out]; rfl, by rw [HG.out]; exact r2, Below.trans b3 (b2.mono hN0)⟩
end Go.Proofs.Ythglidbhabknkaa
