/- The document's ints, Bare, Geom. The document's Items. -/
import Derived.Test.YtjfjekncmejfpaaQFlt
import Derived.Test.YtjfjekncmejfpaaVRget
import Derived.Test.YtjfjekncmejfpaaQJob
namespace Go.Proofs.Ytjfjekncmejfpaa
open Go.RowKit
set_option maxRecDepth 20000
set_option linter.unusedVariables false
set_option linter.unusedSimpArgs false

theorem rqints_any (a : Option Addr) (c : Nat) (l : List Int) (hin : ∀ x ∈ l, inR x) (hl : l.length ≤ 1000000) (w : World) (hr : RowK .i64 w a c l) :
    Calls Try.prog 47 #[.slice a l.length c] w fun e w' => ∃ v, e = .returned v ∧ Own w' w.heap.size v (l.flatMap chZ) ∧ Below w.heap.size w w' := by
  have HR := Lib.hid hr
  clear hr
  go_enter Try.func47, Try.ntmps47
  go_wp2_with fail
  go_loopw [3, 4] (fun v i wr => ∃ k : Nat, k ≤ l.length ∧ i = .int .i64 k ∧ Own wr w.heap.size v ((l.take k).flatMap chZ) ∧ Below w.heap.size w wr) (fun _ i _ => l.length - (intOf i).toNat)
  case atStart => exact ⟨0, Nat.zero_le _, rfl, World.ownsRow_nil _ _ _ _, Below.refl _ _⟩
  case round =>
    obtain ⟨k, hk, rfl, hown, hbl⟩ := hrel
    by_cases hlt : k < l.length
    · obtain ⟨b, off, rfl, hB, hck⟩ := (HR.out.carry hbl).2 k hlt
      have hyin := getD_in hin k hlt
      have hlen := flatZ_take hin k
      have HN := Lib.hid (flatZ_step l k hlt)
      have ly := chZ_ten hyin
      have cy := fun w => chain_any (l.getD k 0) hyin.1 hyin.2 w
      change (chainL (foldZ (l.getD k 0))).length ≤ 10 at ly
      change Hid (_ = _ ++ chainL (foldZ (l.getD k 0))) at HN
      generalize chainL (foldZ (l.getD k 0)) = C at *
      generalize l.getD k 0 = y at *
      generalize (l.take k).flatMap chZ = D at *
      go_wp2_with fail
      refine (cy _).mono ?_
      rintro e w2 ⟨v2, rfl, o2, b2⟩
      obtain ⟨a2, k2, rfl, r2⟩ := own_row o2
      have hown2 := hown.carry b2
      have hb2 := bstep hbl b2 hbl.size
      clear o2 hown hbl b2 cy hck
      go_wp2_with (at_builtin; refine wpList_app rfl (.tmp 11) (.tmp 16) rfl rfl hown2 rfl r2 (by omega) hb2 hb2.size ?_; intro v3 w3 o3 b3)
      go_roundw
      case rel => exact ⟨k + 1, by omega, by go_num, by rw [HN.out]; exact o3, b3⟩
      case measure => simp [intOf]; omega
    · rw [List.take_of_length_le (by omega)] at hown
      go_wp2_with fail
      go_ret
      exact ⟨_, rfl, hown, hbl⟩
set_option maxHeartbeats 1000000 in
theorem run_eql_I (x y : I7) (w : World) : Sem.run Try.prog (binOp .eql 49 (.agg #[.int .i64 x.k, .int .i64 x.h, .int .i64 x.f, .int .i64 x.s, .int .i64 x.o, .int .i64 x.r, .int .i64 x.n]) (.agg #[.int .i64 y.k, .int .i64 y.h, .int .i64 y.f, .int .i64 y.s, .int .i64 y.o, .int .i64 y.r, .int .i64 y.n])) w = .ok (.bool (isB (x = y))) w := by
  obtain ⟨a0, a1, a2, a3, a4, a5, a6⟩ := x
  obtain ⟨b0, b1, b2, b3, b4, b5, b6⟩ := y
  by_cases h : (⟨a0, a1, a2, a3, a4, a5, a6⟩ : I7) = ⟨b0, b1, b2, b3, b4, b5, b6⟩
  · rw [isB_yes h]
    injection h with h0 h1 h2 h3 h4 h5 h6
    subst h0 h1 h2 h3 h4 h5 h6
    simp [go_sem]
  · rw [isB_no h]
    simp only [I7.mk.injEq] at h
    simp [go_sem]
    intro e0 e1 e2 e3 e4 e5 e6
    exact h ⟨e0, e1, e2, e3, e4, e5, e6⟩
/-- An item's own fields alone. -/
def onlyQ (x : I7) : I7 := if x.k = 1 then ⟨x.k, x.h, x.f, 0, 0, 0, 0⟩ else if x.k = 2 then ⟨x.k, x.h, 0, x.s, x.o, x.r, 0⟩ else if 3 ≤ x.k ∧ x.k ≤ 6 then ⟨x.k, 0, 0, 0, 0, 0, x.n⟩ else ⟨x.k, 0, 0, 0, 0, 0, 0⟩
theorem bare_only (x : I7) (h1 : 1 ≤ x.k) (h2 : x.k ≤ 7) : isB (bareI x) = isB (x = onlyQ x) := by
  apply isB_congr
  obtain ⟨k, h, f, s, o, r, n⟩ := x
  dsimp only at h1 h2
  have hk : k = 1 ∨ k = 2 ∨ k = 3 ∨ k = 4 ∨ k = 5 ∨ k = 6 ∨ k = 7 := by omega
  rcases hk with rfl | rfl | rfl | rfl | rfl | rfl | rfl <;> simp [bareI, onlyQ]
set_option maxHeartbeats 1000000 in
theorem rBare_any (x : I7) (w : World) :
    Calls Try.prog 66 #[itm x] w fun e w' => e = .returned (.bool (isB (bareI x))) ∧ Below w.heap.size w w' := by
  by_cases hk : 1 ≤ x.k ∧ x.k ≤ 7
  · rw [bare_only x hk.1 hk.2]
    obtain ⟨k, h, f, s, o, r, n⟩ := x
    unfold itm
    dsimp only at hk ⊢
    have hk' : k = 1 ∨ k = 2 ∨ k = 3 ∨ k = 4 ∨ k = 5 ∨ k = 6 ∨ k = 7 := by omega
    clear hk
    rcases hk' with rfl | rfl | rfl | rfl | rfl | rfl | rfl
    · rw [show onlyQ ⟨1, h, f, s, o, r, n⟩ = ⟨1, h, f, 0, 0, 0, 0⟩ by simp [onlyQ]]
      have hE := run_eql_I ⟨1, h, f, s, o, r, n⟩ ⟨1, h, f, 0, 0, 0, 0⟩
      generalize isB _ = R at *
      dsimp only at hE
      go_enter Try.func66, Try.ntmps66
      go_wp2
      go_ret
      exact ⟨rfl, tbel2 w _ _⟩
    · rw [show onlyQ ⟨2, h, f, s, o, r, n⟩ = ⟨2, h, 0, s, o, r, 0⟩ by simp [onlyQ]]
      have hE := run_eql_I ⟨2, h, f, s, o, r, n⟩ ⟨2, h, 0, s, o, r, 0⟩
      generalize isB _ = R at *
      dsimp only at hE
      go_enter Try.func66, Try.ntmps66
      go_wp2
      go_ret
      exact ⟨rfl, tbel2 w _ _⟩
    · rw [show onlyQ ⟨3, h, f, s, o, r, n⟩ = ⟨3, 0, 0, 0, 0, 0, n⟩ by simp [onlyQ]]
      have hE := run_eql_I ⟨3, h, f, s, o, r, n⟩ ⟨3, 0, 0, 0, 0, 0, n⟩
      generalize isB _ = R at *
      dsimp only at hE
      go_enter Try.func66, Try.ntmps66
      go_wp2
      go_ret
      exact ⟨rfl, tbel2 w _ _⟩
    · rw [show onlyQ ⟨4, h, f, s, o, r, n⟩ = ⟨4, 0, 0, 0, 0, 0, n⟩ by simp [onlyQ]]
      have hE := run_eql_I ⟨4, h, f, s, o, r, n⟩ ⟨4, 0, 0, 0, 0, 0, n⟩
      generalize isB _ = R at *
      dsimp only at hE
      go_enter Try.func66, Try.ntmps66
      go_wp2
      go_ret
      exact ⟨rfl, tbel2 w _ _⟩
    · rw [show onlyQ ⟨5, h, f, s, o, r, n⟩ = ⟨5, 0, 0, 0, 0, 0, n⟩ by simp [onlyQ]]
      have hE := run_eql_I ⟨5, h, f, s, o, r, n⟩ ⟨5, 0, 0, 0, 0, 0, n⟩
      generalize isB _ = R at *
      dsimp only at hE
      go_enter Try.func66, Try.ntmps66
      go_wp2
      go_ret
      exact ⟨rfl, tbel2 w _ _⟩
    · rw [show onlyQ ⟨6, h, f, s, o, r, n⟩ = ⟨6, 0, 0, 0, 0, 0, n⟩ by simp [onlyQ]]
      have hE := run_eql_I ⟨6, h, f, s, o, r, n⟩ ⟨6, 0, 0, 0, 0, 0, n⟩
      generalize isB _ = R at *
      dsimp only at hE
      go_enter Try.func66, Try.ntmps66
      go_wp2
      go_ret
      exact ⟨rfl, tbel2 w _ _⟩
    · rw [show onlyQ ⟨7, h, f, s, o, r, n⟩ = ⟨7, 0, 0, 0, 0, 0, 0⟩ by simp [onlyQ]]
      have hE := run_eql_I ⟨7, h, f, s, o, r, n⟩ ⟨7, 0, 0, 0, 0, 0, 0⟩
      generalize isB _ = R at *
      dsimp only at hE
      go_enter Try.func66, Try.ntmps66
      go_wp2
      go_ret
      exact ⟨rfl, tbel2 w _ _⟩
  · rw [isB_no fun h => hk ⟨h.1, h.2.1⟩]
    obtain ⟨k, h, f, s, o, r, n⟩ := x
    unfold itm
    dsimp only at hk ⊢
    have hk' : k < 1 ∨ 7 < k := by omega
    clear hk
    rcases hk' with hk | hk
    all_goals
      go_enter Try.func66, Try.ntmps66
      go_wp2
      go_ret
      exact ⟨rfl, tbel2 w _ _⟩
theorem numA_at (g : G19) (j : Nat) (hj : j < 18) : (numA g)[j]? = some (.int .i64 ((numsG g).getD j 0)) := by
  have : j = 0 ∨ j = 1 ∨ j = 2 ∨ j = 3 ∨ j = 4 ∨ j = 5 ∨ j = 6 ∨ j = 7 ∨ j = 8 ∨ j = 9 ∨ j = 10 ∨ j = 11 ∨ j = 12 ∨ j = 13 ∨ j = 14 ∨ j = 15 ∨ j = 16 ∨ j = 17 := by omega
  rcases this with rfl | rfl | rfl | rfl | rfl | rfl | rfl | rfl | rfl | rfl | rfl | rfl | rfl | rfl | rfl | rfl | rfl | rfl <;> rfl
theorem numA_row (w : World) (g : G19) : RowK .i64 (w.alloc (.cells (numA g) 2)) (some ⟨w.heap.size, 0, none⟩) 18 (numsG g) := ⟨Nat.le_refl _, fun j hj => ⟨w.heap.size, 0, rfl, by simp, by
  rw [Nat.zero_add]
  exact ((blk_new w (numA g) 2).cell j).trans (numA_at g j hj)⟩⟩
set_option maxHeartbeats 1000000 in
theorem rGeom_any (x : G19) (hx : inE x) (w : World) :
    Calls Try.prog 46 #[.agg (geoC x)] w fun e w' => ∃ a c, e = .returned (.slice a (geomE x).length c) ∧ Row w' a c (geomE x) ∧ Below w.heap.size w w' := by
  have HG : Hid (geomE x = (numsG x).flatMap chZ ++ [if x.bal then 1 else 0]) := Lib.hid rfl
  have ln := flatZ_len (numsG_in hx)
  have h18 : (numsG x).length = 18 := rfl
  rw [h18] at ln
  have ci := fun w => rqints_any (some ⟨w.heap.size, 0, none⟩) 18 (numsG x) (numsG_in hx) (by omega) _ (numA_row w x)
  rw [h18] at ci
  unfold numA at ci
  generalize (numsG x).flatMap chZ = E at *
  generalize geomE x = G at *
  have D := geo_new w x
  have b0 := tbel1 w (.cells (geoC x) 26)
  clear hx h18
  go_enter Try.func46, Try.ntmps46
  go_upto_region 1 with (fail)
  generalize w.alloc _ = U at *
  obtain ⟨q0, q1, q2, q3, q4, q5, q6, q7, q8, q9, q10, q11, q12, q13, q14, q15, q16, q17, q18⟩ := D.cells
  go_wp2_with fail
  refine (ci _).mono ?_
  rintro e w1 ⟨v, rfl, o1, b1⟩
  have b2 := tbel1 U (.cells (numA x) 2)
  have b3 := tstep (tstep b0 b2 b0.size) b1 (by have := b0.size; have := b2.size; omega)
  have q18' := ((D.old b2).old b1).cells.2.2.2.2.2.2.2.2.2.2.2.2.2.2.2.2.2.2
  have hN := b1.size
  have hN0 : w.heap.size ≤ (U.alloc (.cells (numA x) 2)).heap.size := by have := b0.size; have := b2.size; omega
  change Own w1 (U.alloc (.cells (numA x) 2)).heap.size v E at o1
  change (U.alloc (.cells (numA x) 2)).heap.size ≤ w1.heap.size at hN
  clear q0 q1 q2 q3 q4 q5 q6 q7 q8 q9 q10 q11 q12 q13 q14 q15 q16 q17 q18 ci b1 b2 b0 D
  obtain ⟨z, hz⟩ : ∃ b, b = x.bal := ⟨_, rfl⟩
  rw [← hz] at q18' HG
  generalize (U.alloc (.cells (numA x) 2)).heap.size = N at *
  clear hz
  cases z
  · go_wp2_with (at_builtin; refine wpList_app rfl (.tmp 47) (.tmp 48) rfl rfl (o1.alloc1 _) (m := [0]) rfl (row_new _ _ _ (by decide)) (by simp; omega) ((Below.refl N w1).alloc hN _) (by simp; omega) ?_; intro v2 w2 o2 b2)
    go_ret
    obtain ⟨a2, c2, rfl, r2⟩ := own_row o2
    exact ⟨a2, c2, by rw [HG.out]; rfl, by rw [HG.out]; exact r2, Below.trans b3 (b2.mono hN0)⟩
  · go_wp2_with (at_builtin; refine wpList_app rfl (.tmp 44) (.tmp 45) rfl rfl (o1.alloc1 _) (m := [1]) rfl (row_new _ _ _ (by decide)) (by simp; omega) ((Below.refl N w1).alloc hN _) (by simp; omega) ?_; intro v2 w2 o2 b2)
    go_ret
    obtain ⟨a2, c2, rfl, r2⟩ := own_row o2
    exact ⟨a2, c2, by rw [HG.out]; rfl, by rw [HG.out]; exact r2, Below.trans b3 (b2.mono hN0)⟩
end Go.Proofs.Ytjfjekncmejfpaa
namespace Go.Proofs.Ytjfjekncmejfpaa
open Go.RowKit
set_option maxRecDepth 20000
set_option linter.unusedVariables false
set_option linter.unusedSimpArgs false

/-- The numbers of an item. -/
def fldQ (x : I7) : List Int := if x.k = 1 then [x.k] ++ [x.h, x.f] else if x.k = 2 then [x.k] ++ [x.h, x.s, x.o, x.r] else if x.k < 7 then [x.k] ++ [x.n] else [x.k]
theorem fldQ_enc (x : I7) : itemE x = (fldQ x).flatMap chZ := by
  unfold itemE fldQ
  split
  · simp
  · split
    · simp
    · split <;> simp
theorem fldQ_in {x : I7} (h : inI x) : ∀ n ∈ fldQ x, inR n := by
  obtain ⟨h0, h1, h2, h3, h4, h5, h6⟩ := h
  intro n hn
  unfold fldQ at hn
  split at hn
  · simp only [List.cons_append, List.nil_append, List.mem_cons, List.not_mem_nil, or_false] at hn
    rcases hn with rfl | rfl | rfl <;> assumption
  · split at hn
    · simp only [List.cons_append, List.nil_append, List.mem_cons, List.not_mem_nil, or_false] at hn
      rcases hn with rfl | rfl | rfl | rfl | rfl <;> assumption
    · split at hn
      · simp only [List.cons_append, List.nil_append, List.mem_cons, List.not_mem_nil, or_false] at hn
        rcases hn with rfl | rfl <;> assumption
      · simp only [List.mem_cons, List.not_mem_nil, or_false] at hn
        rcases hn with rfl
        assumption
theorem fldQ_len (x : I7) : (fldQ x).length ≤ 5 := by
  unfold fldQ
  split
  · simp
  · split
    · simp
    · split <;> simp
/-- A slice literal. -/
theorem own_lit (w : World) (l : List Int) (hl : l.length ≤ 1000) : OwnK .i64 2 (w.alloc (.cells (l.map (Value.int .i64)).toArray 2)) w.heap.size (.slice (some ⟨w.heap.size, 0, none⟩) l.length l.length) l := by
  refine ⟨by simp, .inr ⟨w.heap.size, l.length, _, rfl, Nat.le_refl _, heap_alloc_new _ _, Nat.le_refl _, by unfold maxLen; omega, by simp, ?_⟩⟩
  rw [Nat.mul_one]
  exact List.take_of_length_le (by simp)
theorem row_lit (w : World) (l : List Int) : RowK .i64 (w.alloc (.cells (l.map (Value.int .i64)).toArray 2)) (some ⟨w.heap.size, 0, none⟩) l.length l := ⟨Nat.le_refl _, fun j hj => ⟨w.heap.size, 0, rfl, by simp, by
  rw [Nat.zero_add, (blk_new w _ 2).cell j]
  simp [hj]⟩⟩
theorem OwnK.old {w w' : World} {B : Nat} {v : Value} {l : List Int} {k : IntKind} {e : TypeId} (h : OwnK k e w B v l) (hb : Below w.heap.size w w') : OwnK k e w' B v l :=
  World.ownsRow.kept (row := none) h ⟨hb.os, hb.tape, hb.output, hb.size, fun i hi _ => hb.block i hi⟩ (by cases v.ownBlock <;> simp)
theorem OwnK.low {w : World} {B B' : Nat} {v : Value} {l : List Int} {kk : IntKind} {e : TypeId} (h : OwnK kk e w B' v l) (hB : B ≤ B') : OwnK kk e w B v l := by
  refine ⟨h.1, ?_⟩
  rcases h.2 with h2 | ⟨g, cap, cur, h1, h2, h3⟩
  · exact .inl h2
  · exact .inr ⟨g, cap, cur, h1, Nat.le_trans hB h2, h3⟩
theorem own_far {w : World} {B g : Nat} {v : Value} {l : List Int} (h : Own w B v l) (hg : g < B) : v.ownBlock ≠ some g := by
  rcases h.2 with ⟨rfl, _⟩ | ⟨g', cap, cur, rfl, h2, _⟩
  · simp [Value.ownBlock]
  · simp only [Value.ownBlock]
    intro e
    injection e with e
    omega
theorem Own.low {w : World} {B B' : Nat} {v : Value} {l : List Int} (h : Own w B' v l) (hB : B ≤ B') : Own w B v l := by
  refine ⟨h.1, ?_⟩
  rcases h.2 with h2 | ⟨g, cap, cur, h1, h2, h3⟩
  · exact .inl h2
  · exact .inr ⟨g, cap, cur, h1, Nat.le_trans hB h2, h3⟩
set_option maxHeartbeats 2000000 in
theorem rItems_any (a : Option Addr) (cap : Nat) (L : List I7) (w : World) (hin : ∀ k, inI (L.getD k zeroI)) (hl : L.length ≤ 10000) (ha : Els 7 encI w a L.length fun k => L.getD k zeroI) :
    Calls Try.prog 45 #[.slice a L.length cap] w fun e w' => ∃ a' c', e = .returned (.agg #[.slice a' (itemsB L).length c', .bool (isB (∀ x ∈ L, bareI x))]) ∧ Row w' a' c' (itemsB L) ∧ Below w.heap.size w w' := by
  have hB0 : w.heap.size < (w.alloc (.cells #[.slice none 0 0, .bool false] 66)).heap.size := by simp
  have Z0 := blk_new w #[.slice none 0 0, .bool false] 66
  have b0 := tbel1 w (.cells #[.slice none 0 0, .bool false] 66)
  have HA := Lib.hid fun y (hy : Below w.heap.size w y) => ha.carry hy
  have hln : isB (∀ x ∈ L, bareI x) = true → itemsB L = listE itemE L := fun h => by unfold itemsB; rw [h, cond_true]
  have hno : isB (∀ x ∈ L, bareI x) = false → itemsB L = [] := fun h => by unfold itemsB; rw [h, cond_false]
  generalize itemsB L = T at *
  obtain ⟨R, hR⟩ : ∃ R, R = isB (∀ x ∈ L, bareI x) := ⟨_, rfl⟩
  rw [← hR] at hln hno ⊢
  have HY := Lib.hid hln
  have HNo := Lib.hid hno
  have HR := Lib.hid hR
  have HE : Hid (listE itemE L = chZ (L.length : Int) ++ L.flatMap itemE) := Lib.hid rfl
  have HX := Lib.hid hin
  have HS := Lib.hid (take_step itemE zeroI L)
  clear ha hln hno hR hin
  have c1 := fun U => rqints_any (some ⟨U.heap.size, 0, none⟩) 1 [(L.length : Int)] (fun x hx => by rw [List.mem_singleton.1 hx]; unfold inR; omega) (by simp) (U.alloc (.cells ([(L.length : Int)].map (Value.int .i64)).toArray 2)) (row_lit U [(L.length : Int)])
  rw [show [(L.length : Int)].flatMap chZ = chZ (L.length : Int) by simp] at c1
  simp only [List.map_cons, List.map_nil, List.length_singleton] at c1
  have lc := chZ_ten (n := (L.length : Int)) (by unfold inR; omega)
  generalize chZ (L.length : Int) = C at *
  go_enter Try.func45, Try.ntmps45
  go_upto_region 1 with (fail)
  generalize w.alloc _ = U at *
  go_wp2_with fail
  refine (c1 _).mono ?_
  rintro e w1 ⟨v1, rfl, o1, b1⟩
  have bU := tbel1 U (.cells #[.int .i64 (L.length : Int)] 2)
  have hsz : U.heap.size ≤ (U.alloc (.cells #[.int .i64 (L.length : Int)] 2)).heap.size := bU.size
  have b2 : Below U.heap.size U w1 := tstep bU b1 hsz
  have ZU := Lib.hid Z0
  have o1' := Own.low o1 hsz
  have hBw : w.heap.size ≤ U.heap.size := b0.size
  clear c1 bU hsz b1 o1 Z0
  generalize hBe : U.heap.size = B at *
  have hUB := Lib.hid (show B ≤ U.heap.size by omega)
  clear hBe
  go_wp2_with fail
  go_loopw [3, 4] (fun v i wr => ∃ k : Nat, k ≤ L.length ∧ i = .int .i64 k ∧ Own wr B v (C ++ (L.take k).flatMap itemE) ∧ Below B U wr ∧ Hid (∀ j, j < k → bareI (L.getD j zeroI))) (fun _ i _ => L.length - (intOf i).toNat)
  case atStart => exact ⟨0, Nat.zero_le _, rfl, by simpa [Own] using o1', b2, Lib.hid fun j hj => by omega⟩
  case round =>
    clear o1' b2
    obtain ⟨k, hk, rfl, hown, hbl, HP⟩ := hrel
    have bw := Below.trans b0 (hbl.mono hBw)
    have hBr := Lib.hid (Nat.le_trans hUB.out hbl.size)
    have Z2 : Blk wr w.heap.size #[.slice none 0 0, .bool false] 66 := (hbl.block _ hB0).trans ZU.out
    by_cases hlt : k < L.length
    · obtain ⟨b1, o1, rfl, hB1, p0, p1, p2, p3, p4, p5, p6⟩ := els7 (HA.out wr bw) hlt
      have hxi := HX.out k
      have HN := Lib.hid (HS.out k hlt)
      have hDl : (C ++ (L.take k).flatMap itemE).length ≤ 1000000 := by
        have := take_bound (f := itemE) (c := 50) (l := L) (fun x hx => by rw [fldQ_enc]; exact Nat.le_trans (flatZ_len (fldQ_in (all_in HX.out x hx))) (by have := fldQ_len x; omega)) k hk
        rw [List.length_append]
        omega
      have HPs : Hid (bareI (L.getD k zeroI) → ∀ j, j < k + 1 → bareI (L.getD j zeroI)) := Lib.hid fun h j hj => by
        rcases Nat.lt_or_ge j k with h' | h'
        · exact HP.out j h'
        · obtain rfl : j = k := by omega
          exact h
      have HNo' : Hid (¬ bareI (L.getD k zeroI) → R = false) := Lib.hid fun h => by rw [HR.out]; exact isB_no fun g => h (g _ (mem_getD hlt))
      clear HP
      generalize L.getD k zeroI = x at *
      have c2 := fun w => rBare_any x w
      have cf := fldQ_enc x
      have cl := fldQ_len x
      have cn := fldQ_in hxi
      obtain ⟨q, hq⟩ : ∃ q, q = isB (bareI x) := ⟨_, rfl⟩
      rw [← hq] at c2
      unfold itm at c2
      have E3 := blk_new wr #[.int .i64 x.k, .int .i64 x.h, .int .i64 x.f, .int .i64 x.s, .int .i64 x.o, .int .i64 x.r, .int .i64 x.n] 49
      have bx := tbel1 wr (.cells #[.int .i64 x.k, .int .i64 x.h, .int .i64 x.f, .int .i64 x.s, .int .i64 x.o, .int .i64 x.r, .int .i64 x.n] 49)
      cases q
      · have hr := HNo'.out fun h => by rw [isB_yes h] at hq; cases hq
        have HT := Lib.hid (And.intro hr (HNo.out hr))
        clear hq hr cf cl cn HPs HNo' hown
        have Z3 := Z2.old bx
        have bw3 := tstep bw bx bw.size
        go_wp2_with fail
        refine (c2 _).mono ?_
        rintro e w4 ⟨rfl, b4⟩
        have Z4 := Z3.old b4
        obtain ⟨z0, z1⟩ := Z4.two
        have f0 := Z4.free 0
        have f1 := Z4.free 1
        have bw4 := tstep bw3 b4 bw3.size
        clear Z2 Z3 Z4 b4 bw3 bx E3 p0 p1 p2 p3 p4 p5 p6 c2
        go_wp2
        refine bodyPost_ret (v := .agg #[.slice none 0 0, .bool false]) (by simp [results, Try.results45, go_sem, *]) rfl ⟨none, 0, by rw [HT.out.1, HT.out.2]; rfl, by rw [HT.out.2]; exact Row.none _ _, ?_⟩
        exact (bw4.setCell (p := ⟨w.heap.size, 0, none⟩) (Nat.le_refl _) _).setCell (p := ⟨w.heap.size, 1, none⟩) (Nat.le_refl _) _
      · have hb := isB_iff.1 hq.symm
        have HP' := Lib.hid (HPs.out hb)
        obtain ⟨k1, k2, _⟩ := hb
        clear HPs HNo' hq Z2
        rw [cf] at HN
        have hwx := bx
        go_wp2_with fail
        refine (c2 _).mono ?_
        rintro e w4 ⟨rfl, b4⟩
        have hw4 := tstep hwx b4 hwx.size
        have E4 := E3.old b4
        clear c2 b4 hwx bx E3 p0 p1 p2 p3 p4 p5 p6 cf
        obtain ⟨xk, xh, xf, xs, xo, xr, xn⟩ := x
        dsimp only at *
        have hkk : xk = 1 ∨ xk = 2 ∨ (3 ≤ xk ∧ xk ≤ 6) ∨ xk = 7 := by omega
        rcases hkk with rfl | rfl | ⟨k3, k4⟩ | rfl
        · have ef : fldQ ⟨1, xh, xf, xs, xo, xr, xn⟩ = [1] ++ [xh, xf] := by simp [fldQ]
          have c3 := fun a c w hr => rqints_any a c _ cn (by omega) w hr
          have lF := Nat.le_trans (flatZ_len cn) (Nat.mul_le_mul_left 10 cl)
          rw [ef] at c3 HN lF
          generalize List.flatMap chZ ([1] ++ [xh, xf]) = F at *
          clear ef cn cl k1 k2
          have B5 := tbel1 w4 (.cells #[.int .i64 1] 2)
          have O5 := own_lit w4 [1] (by simp)
          simp only [List.map_cons, List.map_nil, List.length_singleton] at O5
          have E5 := E4.old B5
          have hw5 := tstep hw4 B5 hw4.size
          obtain ⟨r0, r1, r2, r3, r4, r5, r6⟩ := E5.seven
          obtain ⟨s0, _⟩ := E4.seven
          have B6 := tbel1 (w4.alloc (.cells #[.int .i64 1] 2)) (.cells #[.int .i64 xh, .int .i64 xf] 2)
          have R6 := row_lit (w4.alloc (.cells #[.int .i64 1] 2)) [xh, xf]
          simp only [List.map_cons, List.map_nil, World.size_alloc] at R6
          have hw6 := tstep hw5 B6 hw5.size
          have O6 := (OwnK.old O5 B6)
          clear E4 E5 O5 B5 B6
          go_wp2_with (at_builtin; refine wpList_appK Try.underlying100 infoI64 (by decide) rfl (.tmp 31) (.tmp 36) rfl rfl O6 rfl R6 (by simp) (by simp only [World.size_alloc]; omega) ?_; intro v7 w7 o7 g7)
          have hw7 : Below wr.heap.size wr w7 := (OwnK.low O6 hw4.size).below hw6 g7 hw6.size
          obtain ⟨a7, c7, e7, r7⟩ := o7.row
          generalize ([1] ++ [xh, xf]).length = n7 at e7 c3
          subst e7
          clear r0 r1 r2 r3 r4 r5 r6 s0 O6 R6 o7 g7 hw5 hw6 hw4
          go_wp2_with fail
          refine (c3 a7 c7 _ r7).mono ?_
          rintro e w8 ⟨v8, rfl, o8, b8⟩
          obtain ⟨a8, c8, rfl, r8⟩ := own_row o8
          have hw8 := tstep hw7 b8 hw7.size
          have hown8 := hown.carry hw8
          have hb8 := tstep hbl hw8 hBr.out
          clear o8 b8 c3 r7 hw7
          go_wp2_with (at_builtin; refine wpList_app rfl (.tmp 60) (.tmp 62) rfl rfl hown8 rfl r8 (by omega) hb8 (Nat.le_trans hBr.out hw8.size) ?_; intro v9 w9 o9 b9)
          go_roundw
          case rel => exact ⟨k + 1, by omega, by go_num, by rw [HN.out, ← List.append_assoc]; exact o9, b9, HP'⟩
          case measure => simp [intOf]; omega
        · have ef : fldQ ⟨2, xh, xf, xs, xo, xr, xn⟩ = [2] ++ [xh, xs, xo, xr] := by simp [fldQ]
          have c3 := fun a c w hr => rqints_any a c _ cn (by omega) w hr
          have lF := Nat.le_trans (flatZ_len cn) (Nat.mul_le_mul_left 10 cl)
          rw [ef] at c3 HN lF
          generalize List.flatMap chZ ([2] ++ [xh, xs, xo, xr]) = F at *
          clear ef cn cl k1 k2
          have B5 := tbel1 w4 (.cells #[.int .i64 2] 2)
          have O5 := own_lit w4 [2] (by simp)
          simp only [List.map_cons, List.map_nil, List.length_singleton] at O5
          have E5 := E4.old B5
          have hw5 := tstep hw4 B5 hw4.size
          obtain ⟨r0, r1, r2, r3, r4, r5, r6⟩ := E5.seven
          obtain ⟨s0, _⟩ := E4.seven
          have B6 := tbel1 (w4.alloc (.cells #[.int .i64 2] 2)) (.cells #[.int .i64 xh, .int .i64 xs, .int .i64 xo, .int .i64 xr] 2)
          have R6 := row_lit (w4.alloc (.cells #[.int .i64 2] 2)) [xh, xs, xo, xr]
          simp only [List.map_cons, List.map_nil, World.size_alloc] at R6
          have hw6 := tstep hw5 B6 hw5.size
          have O6 := (OwnK.old O5 B6)
          clear E4 E5 O5 B5 B6
          go_wp2_with (at_builtin; refine wpList_appK Try.underlying100 infoI64 (by decide) rfl (.tmp 41) (.tmp 50) rfl rfl O6 rfl R6 (by simp) (by simp only [World.size_alloc]; omega) ?_; intro v7 w7 o7 g7)
          have hw7 : Below wr.heap.size wr w7 := (OwnK.low O6 hw4.size).below hw6 g7 hw6.size
          obtain ⟨a7, c7, e7, r7⟩ := o7.row
          generalize ([2] ++ [xh, xs, xo, xr]).length = n7 at e7 c3
          subst e7
          clear r0 r1 r2 r3 r4 r5 r6 s0 O6 R6 o7 g7 hw5 hw6 hw4
          go_wp2_with fail
          refine (c3 a7 c7 _ r7).mono ?_
          rintro e w8 ⟨v8, rfl, o8, b8⟩
          obtain ⟨a8, c8, rfl, r8⟩ := own_row o8
          have hw8 := tstep hw7 b8 hw7.size
          have hown8 := hown.carry hw8
          have hb8 := tstep hbl hw8 hBr.out
          clear o8 b8 c3 r7 hw7
          go_wp2_with (at_builtin; refine wpList_app rfl (.tmp 60) (.tmp 62) rfl rfl hown8 rfl r8 (by omega) hb8 (Nat.le_trans hBr.out hw8.size) ?_; intro v9 w9 o9 b9)
          go_roundw
          case rel => exact ⟨k + 1, by omega, by go_num, by rw [HN.out, ← List.append_assoc]; exact o9, b9, HP'⟩
          case measure => simp [intOf]; omega
        · have n1 : ¬ xk = 1 := by omega
          have n2 : ¬ xk = 2 := by omega
          have n7 : xk < 7 := by omega
          have ef : fldQ ⟨xk, xh, xf, xs, xo, xr, xn⟩ = [xk] ++ [xn] := by simp [fldQ, n1, n2, n7]
          have c3 := fun a c w hr => rqints_any a c _ cn (by omega) w hr
          have lF := Nat.le_trans (flatZ_len cn) (Nat.mul_le_mul_left 10 cl)
          rw [ef] at c3 HN lF
          generalize List.flatMap chZ ([xk] ++ [xn]) = F at *
          clear ef cn cl k1 k2 k3 k4
          have B5 := tbel1 w4 (.cells #[.int .i64 xk] 2)
          have O5 := own_lit w4 [xk] (by simp)
          simp only [List.map_cons, List.map_nil, List.length_singleton] at O5
          have E5 := E4.old B5
          have hw5 := tstep hw4 B5 hw4.size
          obtain ⟨r0, r1, r2, r3, r4, r5, r6⟩ := E5.seven
          obtain ⟨s0, _⟩ := E4.seven
          have B6 := tbel1 (w4.alloc (.cells #[.int .i64 xk] 2)) (.cells #[.int .i64 xn] 2)
          have R6 := row_lit (w4.alloc (.cells #[.int .i64 xk] 2)) [xn]
          simp only [List.map_cons, List.map_nil, World.size_alloc] at R6
          have hw6 := tstep hw5 B6 hw5.size
          have O6 := (OwnK.old O5 B6)
          clear E4 E5 O5 B5 B6
          go_wp2_with (at_builtin; refine wpList_appK Try.underlying100 infoI64 (by decide) rfl (.tmp 55) (.tmp 58) rfl rfl O6 rfl R6 (by simp) (by simp only [World.size_alloc]; omega) ?_; intro v7 w7 o7 g7)
          have hw7 : Below wr.heap.size wr w7 := (OwnK.low O6 hw4.size).below hw6 g7 hw6.size
          obtain ⟨a7, c7, e7, r7⟩ := o7.row
          generalize ([xk] ++ [xn]).length = n7 at e7 c3
          subst e7
          clear r0 r1 r2 r3 r4 r5 r6 s0 O6 R6 o7 g7 hw5 hw6 hw4
          go_wp2_with fail
          refine (c3 a7 c7 _ r7).mono ?_
          rintro e w8 ⟨v8, rfl, o8, b8⟩
          obtain ⟨a8, c8, rfl, r8⟩ := own_row o8
          have hw8 := tstep hw7 b8 hw7.size
          have hown8 := hown.carry hw8
          have hb8 := tstep hbl hw8 hBr.out
          clear o8 b8 c3 r7 hw7
          go_wp2_with (at_builtin; refine wpList_app rfl (.tmp 60) (.tmp 62) rfl rfl hown8 rfl r8 (by omega) hb8 (Nat.le_trans hBr.out hw8.size) ?_; intro v9 w9 o9 b9)
          go_roundw
          case rel => exact ⟨k + 1, by omega, by go_num, by rw [HN.out, ← List.append_assoc]; exact o9, b9, HP'⟩
          case measure => simp [intOf]; omega
        · have ef : fldQ ⟨7, xh, xf, xs, xo, xr, xn⟩ = [7] := by simp [fldQ]
          have c3 := fun a c w hr => rqints_any a c _ cn (by omega) w hr
          have lF := Nat.le_trans (flatZ_len cn) (Nat.mul_le_mul_left 10 cl)
          rw [ef] at c3 HN lF
          generalize List.flatMap chZ [7] = F at *
          clear ef cn cl k1 k2
          have B5 := tbel1 w4 (.cells #[.int .i64 7] 2)
          have R5 := row_lit w4 [7]
          simp only [List.map_cons, List.map_nil, List.length_singleton] at R5
          have E5 := E4.old B5
          have hw7 := tstep hw4 B5 hw4.size
          obtain ⟨r0, r1, r2, r3, r4, r5, r6⟩ := E5.seven
          obtain ⟨s0, _⟩ := E4.seven
          clear E4 E5 B5 hw4
          have r7 := R5
          clear R5
          go_wp2_with fail
          refine (c3 (some ⟨w4.heap.size, 0, none⟩) 1 _ r7).mono ?_
          rintro e w8 ⟨v8, rfl, o8, b8⟩
          obtain ⟨a8, c8, rfl, r8⟩ := own_row o8
          have hw8 := tstep hw7 b8 hw7.size
          have hown8 := hown.carry hw8
          have hb8 := tstep hbl hw8 hBr.out
          clear o8 b8 c3 r7 hw7
          go_wp2_with (at_builtin; refine wpList_app rfl (.tmp 60) (.tmp 62) rfl rfl hown8 rfl r8 (by omega) hb8 (Nat.le_trans hBr.out hw8.size) ?_; intro v9 w9 o9 b9)
          go_roundw
          case rel => exact ⟨k + 1, by omega, by go_num, by rw [HN.out, ← List.append_assoc]; exact o9, b9, HP'⟩
          case measure => simp [intOf]; omega
    · have hR1 : R = true := by
        rw [HR.out]
        refine isB_yes fun x hx => ?_
        obtain ⟨i, hi, rfl⟩ := List.getElem_of_mem hx
        have := HP.out i (by omega)
        rwa [List.getD_eq_getElem?_getD, List.getElem?_eq_getElem hi] at this
      have hR2 := Lib.hid hR1
      rw [List.take_of_length_le (by omega), ← (HY.out hR1).trans HE.out] at hown
      obtain ⟨a9, c9, rfl, r9⟩ := own_row hown
      have HO := Lib.hid hown
      obtain ⟨z0, z1⟩ := Z2.two
      have f0 := Z2.free 0
      have f1 := Z2.free 1
      clear hR1 hown Z2 HP r9
      go_wp2
      refine bodyPost_ret (v := .agg #[.slice a9 T.length c9, .bool true]) (by simp [results, Try.results45, go_sem, *]) rfl ⟨a9, c9, by rw [hR2.out], ?_, ?_⟩
      · obtain ⟨a10, c10, e10, r10⟩ := own_row (World.ownsRow.kept HO.out (((But.refl w.heap.size wr).set 0 (.slice a9 T.length c9)).set 1 (.bool true)) (.inr (own_far HO.out hB0)))
        cases e10
        exact r10
      · exact (bw.setCell (p := ⟨w.heap.size, 0, none⟩) (Nat.le_refl _) _).setCell (p := ⟨w.heap.size, 1, none⟩) (Nat.le_refl _) _
end Go.Proofs.Ytjfjekncmejfpaa
