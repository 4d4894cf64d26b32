/- Sums of costs: Put, Cost, each, Add of package cost; Add and Right of both. -/
import Derived.Test.YtofellaihiclkaaCCmp
namespace Go.Proofs.Ytofellaihiclkaa
open Go.RowKit
set_option linter.unusedVariables false

/-- Two cells of a block. -/
def Cel2 (w : World) (b : Nat) (u v : Value) : Prop :=
  w.cell? ⟨b, 0, none⟩ = some u ∧ w.cell? ⟨b, 1, none⟩ = some v ∧ w.frozen? ⟨b, 0, none⟩ = false ∧ w.frozen? ⟨b, 1, none⟩ = false
theorem Cel2.carry {w w' : World} {b B : Nat} {u v : Value} (h : Cel2 w b u v) (hb : Below B w w') (hB : b < B) : Cel2 w' b u v := by
  obtain ⟨h0, h1, f0, f1⟩ := h
  exact ⟨(hb.cell (p := ⟨b, 0, none⟩) hB).trans h0, (hb.cell (p := ⟨b, 1, none⟩) hB).trans h1, (hb.frozen (p := ⟨b, 0, none⟩) hB).trans f0, (hb.frozen (p := ⟨b, 1, none⟩) hB).trans f1⟩
theorem Cel2.lt {w : World} {b : Nat} {u v : Value} (h : Cel2 w b u v) : b < w.heap.size := World.block_lt_of_cell? _ _ h.1
theorem cel2_new (w : World) (u v : Value) (T : TypeId) : Cel2 (w.alloc (.cells #[u, v] T)) w.heap.size u v := by
  refine ⟨?_, ?_, ?_, ?_⟩ <;> simp
theorem Cel2.alloc {w : World} {b : Nat} {u v : Value} (h : Cel2 w b u v) (o : Obj) : Cel2 (w.alloc o) b u v := h.carry (bel1 w o) h.lt
theorem cel_set {w : World} {b : Nat} {u v : Value} (h : Cel2 w b u v) (x y : Value) :
    Cel2 ((w.setCell ⟨b, 0, none⟩ x).setCell ⟨b, 1, none⟩ y) b x y := by
  obtain ⟨h0, h1, f0, f1⟩ := h
  refine ⟨?_, ?_, ?_, ?_⟩ <;> simp [go_sem, *]
/-- A cost lies at a block's first two cells. -/
def CAt (w : World) (b : Nat) (x : Int × Int) : Prop := Cel2 w b (.int .i64 x.1) (.int .i64 x.2)

theorem rAdd_walk (a0 a1 b0 b1 p0 p1 q0 q1 x y : Int) (w : World) (h0 : lvl p0) (h1 : lvl p1) (g0 : lvl q0) (g1 : lvl q1)
    (c1 : ∀ w, Calls Try.prog 22 #[.int .i64 a0] w fun e w' => e = .returned (.int .i64 p0) ∧ w' = w)
    (c2 : ∀ w, Calls Try.prog 22 #[.int .i64 b0] w fun e w' => e = .returned (.int .i64 q0) ∧ w' = w)
    (c3 : ∀ w, Calls Try.prog 22 #[.int .i64 (p0 + q0)] w fun e w' => e = .returned (.int .i64 x) ∧ w' = w)
    (c4 : ∀ w, Calls Try.prog 22 #[.int .i64 a1] w fun e w' => e = .returned (.int .i64 p1) ∧ w' = w)
    (c5 : ∀ w, Calls Try.prog 22 #[.int .i64 b1] w fun e w' => e = .returned (.int .i64 q1) ∧ w' = w)
    (c6 : ∀ w, Calls Try.prog 22 #[.int .i64 (p1 + q1)] w fun e w' => e = .returned (.int .i64 y) ∧ w' = w) :
    Calls Try.prog 8 #[.agg #[.int .i64 a0, .int .i64 a1], .agg #[.int .i64 b0, .int .i64 b1]] w fun e w' => e = .returned (.agg #[.int .i64 x, .int .i64 y]) ∧ Below w.heap.size w w' := by
  unfold lvl at h0 h1 g0 g1
  have e0 : IntKind.i64.wrap (p0 + q0) = p0 + q0 := IntWalk.i64_in _ (by omega)
  have e1 : IntKind.i64.wrap (p1 + q1) = p1 + q1 := IntWalk.i64_in _ (by omega)
  clear h0 h1 g0 g1
  go_enter Try.func8, Try.ntmps8
  go_wp2_with fail
  have hb := bel3 w (.cells #[.int .i64 a0, .int .i64 a1] 23) (.cells #[.int .i64 b0, .int .i64 b1] 23) (.cells #[.int .i64 0, .int .i64 0] 23)
  have k0 := ((cel2_new w (.int .i64 a0) (.int .i64 a1) 23).alloc (.cells #[.int .i64 b0, .int .i64 b1] 23)).alloc (.cells #[.int .i64 0, .int .i64 0] 23)
  have l0 := (cel2_new (w.alloc (.cells #[.int .i64 a0, .int .i64 a1] 23)) (.int .i64 b0) (.int .i64 b1) 23).alloc (.cells #[.int .i64 0, .int .i64 0] 23)
  have m0 := cel2_new ((w.alloc (.cells #[.int .i64 a0, .int .i64 a1] 23)).alloc (.cells #[.int .i64 b0, .int .i64 b1] 23)) (.int .i64 0) (.int .i64 0) 23
  rw [World.size_alloc] at l0
  rw [World.size_alloc, World.size_alloc] at m0
  generalize ((w.alloc (.cells #[.int .i64 a0, .int .i64 a1] 23)).alloc (.cells #[.int .i64 b0, .int .i64 b1] 23)).alloc (.cells #[.int .i64 0, .int .i64 0] 23) = W at hb k0 l0 m0 ⊢
  obtain ⟨k0, k1, _, _⟩ := k0
  obtain ⟨l0, l1, _, _⟩ := l0
  obtain ⟨m0, m1, m2, m3⟩ := m0
  refine wp_region_still_tail 17 (by kernel_rfl) (by kernel_rfl) ?_
  simp only [List.take_succ_cons, List.take_zero, List.drop_succ_cons, List.drop_zero]
  repeat still_step
  still_call (c1 _)
  repeat still_step
  still_call (c2 _)
  repeat still_step
  still_call (c3 _)
  repeat still_step
  still_call (c4 _)
  repeat still_step
  still_call (c5 _)
  repeat still_step
  still_call (c6 _)
  repeat still_step
  refine wpStill_nil ?_
  change wpList _ _ _ _ _ W.drew
  go_wp2
  refine bodyPost_ret (v := .agg #[.int .i64 x, .int .i64 y]) (by simp [results, Try.results8, go_sem, *]) rfl ⟨rfl, ?_⟩
  exact (hb.drew.setCell (p := ⟨w.heap.size + 2, 0, none⟩) (by simp) _).setCell (p := ⟨w.heap.size + 2, 1, none⟩) (by simp) _
theorem rAdd_any (a b : Int × Int) (w : World) : Calls Try.prog 8 #[cst a, cst b] w fun e w' => e = .returned (cst (addC a b)) ∧ Below w.heap.size w w' :=
  rAdd_walk a.1 a.2 b.1 b.2 _ _ _ _ _ _ w (lev_lvl _) (lev_lvl _) (lev_lvl _) (lev_lvl _) (fun w => held_any _ w) (fun w => held_any _ w) (fun w => held_any _ w) (fun w => held_any _ w) (fun w => held_any _ w) (fun w => held_any _ w)
theorem rightC_t {a0 a1 : Int} (h0 : 0 ≤ a0) (h1 : a0 ≤ 1125899906842624) (h2 : 0 ≤ a1) (h3 : a1 ≤ 1125899906842624) : rightC (a0, a1) = true := decide_eq_true ⟨⟨h0, h1⟩, h2, h3⟩
theorem rightC_f {a0 a1 : Int} (h : ¬ (0 ≤ a0 ∧ a0 ≤ 1125899906842624 ∧ 0 ≤ a1 ∧ a1 ≤ 1125899906842624)) : rightC (a0, a1) = false := decide_eq_false fun ⟨⟨h0, h1⟩, h2, h3⟩ => h ⟨h0, h1, h2, h3⟩
theorem rRight_any (a : Int × Int) (w : World) : Calls Try.prog 13 #[cst a] w fun e w' => e = .returned (.bool (rightC a)) ∧ Below w.heap.size w w' := by
  obtain ⟨a0, a1⟩ := a
  unfold cst
  by_cases h0 : 0 ≤ a0
  · by_cases h1 : a0 ≤ 1125899906842624
    · by_cases h2 : 0 ≤ a1
      · by_cases h3 : a1 ≤ 1125899906842624
        · rw [rightC_t h0 h1 h2 h3]
          go_enter Try.func13, Try.ntmps13
          go_wp2
          go_ret
          exact ⟨rfl, bel1 _ _⟩
        · rw [rightC_f (by omega)]
          go_enter Try.func13, Try.ntmps13
          go_wp2
          go_ret
          exact ⟨rfl, bel1 _ _⟩
      · rw [rightC_f (by omega)]
        go_enter Try.func13, Try.ntmps13
        go_wp2
        go_ret
        exact ⟨rfl, bel1 _ _⟩
    · rw [rightC_f (by omega)]
      go_enter Try.func13, Try.ntmps13
      go_wp2
      go_ret
      exact ⟨rfl, bel1 _ _⟩
  · rw [rightC_f (by omega)]
    go_enter Try.func13, Try.ntmps13
    go_wp2
    go_ret
    exact ⟨rfl, bel1 _ _⟩
theorem Right_walk (a0 a1 x y : Int) (o : Bool) (w : World) (ho : (a0 == x && a1 == y) = o)
    (c1 : ∀ w, Calls Try.prog 25 #[.int .i64 a0] w fun e w' => e = .returned (.int .i64 x) ∧ w' = w)
    (c2 : ∀ w, Calls Try.prog 25 #[.int .i64 a1] w fun e w' => e = .returned (.int .i64 y) ∧ w' = w) :
    Calls Try.prog 12 #[.agg #[.int .i64 a0, .int .i64 a1]] w fun e w' => e = .returned (.bool o) ∧ Below w.heap.size w w' := by
  go_enter Try.func12, Try.ntmps12
  go_wp2_with fail
  have hb := bel1 w (.cells #[.int .i64 a0, .int .i64 a1] 23)
  have k0 : (w.alloc (.cells #[.int .i64 a0, .int .i64 a1] 23)).cell? ⟨w.heap.size, 0, none⟩ = some (.int .i64 a0) := by simp
  have k1 : (w.alloc (.cells #[.int .i64 a0, .int .i64 a1] 23)).cell? ⟨w.heap.size, 1, none⟩ = some (.int .i64 a1) := by simp
  generalize w.alloc (.cells #[.int .i64 a0, .int .i64 a1] 23) = W at hb k0 k1 ⊢
  refine wp_region_still_tail 8 (by kernel_rfl) (by kernel_rfl) ?_
  simp only [List.take_succ_cons, List.take_zero, List.drop_succ_cons, List.drop_zero]
  repeat still_step
  still_call (c1 _)
  repeat still_step
  still_call (c2 _)
  repeat still_step
  refine wpStill_nil ?_
  change wpList _ _ _ _ _ W.drew
  go_wp2
  all_goals
    go_ret
    refine ⟨?_, hb.drew⟩
    subst ho
    simp_all
theorem Right_any (a : Int × Int) (w : World) : Calls Try.prog 12 #[cst a] w fun e w' => e = .returned (.bool (rightC a)) ∧ Below w.heap.size w w' := by
  refine Right_walk a.1 a.2 _ _ _ w ?_ (fun w => level_any _ w) (fun w => level_any _ w)
  have h : ∀ n : Int, (n = lev n) ↔ lvl n := fun n => ⟨fun h => h ▸ lev_lvl n, fun h => (lev_of h).symm⟩
  have h' : rightC a = true ↔ lvl a.1 ∧ lvl a.2 := decide_eq_true_iff
  rw [Bool.eq_iff_iff, h', ← h, ← h]
  simp
/-- Only block b may have turned. -/
def Only (b : Nat) (w w' : World) : Prop := w'.os = w.os ∧ w'.tape = w.tape ∧ w'.output = w.output ∧ w'.heap.size = w.heap.size ∧ ∀ k, k ≠ b → w'.heap[k]? = w.heap[k]?
theorem Only.below {b : Nat} {w w' : World} (h : Only b w w') : Below b w w' :=
  ⟨h.1, h.2.1, h.2.2.1, Nat.le_of_eq h.2.2.2.1.symm, fun k hk => h.2.2.2.2 k (by omega)⟩
theorem Only.cell {b : Nat} {w w' : World} (h : Only b w w') {p : Addr} (hp : p.block ≠ b) : w'.cell? p = w.cell? p := World.cell?_of_block (w := w) (h.2.2.2.2 _ hp)
theorem Only.frozen {b : Nat} {w w' : World} (h : Only b w w') {p : Addr} (hp : p.block ≠ b) : w'.frozen? p = w.frozen? p := World.frozen?_of_block (w := w) (h.2.2.2.2 _ hp)
theorem only_set1 (w : World) (b k : Nat) (u : Value) : Only b w (w.setCell ⟨b, k, none⟩ u).drew :=
  ⟨rfl, rfl, rfl, by simp, fun j hj => Below.heap_setCell _ _ _ _ hj⟩
/-- What stood there stands there still, but for block b. -/
def But (b : Nat) (w w' : World) : Prop := w'.os = w.os ∧ w'.tape = w.tape ∧ w'.output = w.output ∧ w.heap.size ≤ w'.heap.size ∧ ∀ k, k < w.heap.size → k ≠ b → w'.heap[k]? = w.heap[k]?
theorem Only.but {b : Nat} {w w' : World} (h : Only b w w') : But b w w' := ⟨h.1, h.2.1, h.2.2.1, Nat.le_of_eq h.2.2.2.1.symm, fun k _ hk => h.2.2.2.2 k hk⟩
theorem But.of_below {b : Nat} {w w' : World} (h : Below w.heap.size w w') : But b w w' := ⟨h.os, h.tape, h.output, h.size, fun k hk _ => h.block k hk⟩
theorem But.trans {b : Nat} {w x y : World} (h : But b w x) (g : But b x y) : But b w y :=
  ⟨g.1.trans h.1, g.2.1.trans h.2.1, g.2.2.1.trans h.2.2.1, Nat.le_trans h.2.2.2.1 g.2.2.2.1, fun k hk hb => (g.2.2.2.2 k (Nat.lt_of_lt_of_le hk h.2.2.2.1) hb).trans (h.2.2.2.2 k hk hb)⟩
theorem But.size {b : Nat} {w w' : World} (h : But b w w') : w.heap.size ≤ w'.heap.size := h.2.2.2.1
theorem But.below {b : Nat} {w w' : World} (h : But b w w') (hb : b ≤ w.heap.size) : Below b w w' := ⟨h.1, h.2.1, h.2.2.1, h.2.2.2.1, fun k hk => h.2.2.2.2 k (by omega) (by omega)⟩
theorem But.cell {b : Nat} {w w' : World} (h : But b w w') {p : Addr} (hl : p.block < w.heap.size) (hp : p.block ≠ b) : w'.cell? p = w.cell? p := World.cell?_of_block (w := w) (h.2.2.2.2 _ hl hp)
theorem But.frozen {b : Nat} {w w' : World} (h : But b w w') {p : Addr} (hl : p.block < w.heap.size) (hp : p.block ≠ b) : w'.frozen? p = w.frozen? p := World.frozen?_of_block (w := w) (h.2.2.2.2 _ hl hp)
theorem Cel2.but {w w' : World} {b m : Nat} {u v : Value} (h : Cel2 w b u v) (hb : But m w w') (hB : b ≠ m) : Cel2 w' b u v := by
  have l := h.lt
  obtain ⟨h0, h1, f0, f1⟩ := h
  exact ⟨(hb.cell (p := ⟨b, 0, none⟩) l hB).trans h0, (hb.cell (p := ⟨b, 1, none⟩) l hB).trans h1, (hb.frozen (p := ⟨b, 0, none⟩) l hB).trans f0, (hb.frozen (p := ⟨b, 1, none⟩) l hB).trans f1⟩
/-! ### Put and Cost -/
theorem put_walk (b : Nat) (s0 s1 n0 n1 x y : Int) (w : World) (h : Cel2 w b (.int .i64 s0) (.int .i64 s1))
    (c1 : ∀ w, Calls Try.prog 26 #[.int .i64 s0, .int .i64 n0] w fun e w' => e = .returned (.int .i64 x) ∧ w' = w)
    (c2 : ∀ w, Calls Try.prog 26 #[.int .i64 s1, .int .i64 n1] w fun e w' => e = .returned (.int .i64 y) ∧ w' = w) :
    Calls Try.prog 16 #[.pointer (some ⟨b, 0, none⟩), .agg #[.int .i64 n0, .int .i64 n1]] w fun e w' => e = .returned (.tuple #[]) ∧ Cel2 w' b (.int .i64 x) (.int .i64 y) ∧ But b w w' := by
  have hlt := h.lt
  go_enter Try.func16, Try.ntmps16
  go_wp2_with fail
  have hb : But b w (w.alloc (.cells #[.int .i64 n0, .int .i64 n1] 23)) := .of_below (bel1 w (.cells #[.int .i64 n0, .int .i64 n1] 23))
  have k0 := cel2_new w (.int .i64 n0) (.int .i64 n1) 23
  have m0 := h.alloc (.cells #[.int .i64 n0, .int .i64 n1] 23)
  generalize w.alloc (.cells #[.int .i64 n0, .int .i64 n1] 23) = W at hb k0 m0 ⊢
  have m0' := m0
  have k0' := k0
  obtain ⟨k0, k1, _, _⟩ := k0
  obtain ⟨m0, m1, m2, m3⟩ := m0
  refine wp_region_still_tail 12 (by kernel_rfl) (by kernel_rfl) ?_
  simp only [List.take_succ_cons, List.take_zero, List.drop_succ_cons, List.drop_zero]
  repeat still_step
  still_call (c1 _)
  repeat still_step
  refine wpStill_nil ?_
  change wpList _ _ _ _ _ W.drew
  go_wp2_with fail
  have o1 := only_set1 W b 0 (.int .i64 x)
  have n0 : (W.setCell ⟨b, 0, none⟩ (.int .i64 x)).drew.cell? ⟨b, 0, none⟩ = some (.int .i64 x) := by simp [go_sem, *]
  have n1 : (W.setCell ⟨b, 0, none⟩ (.int .i64 x)).drew.cell? ⟨b, 1, none⟩ = some (.int .i64 s1) := by simp [go_sem, *]
  have n2 : (W.setCell ⟨b, 0, none⟩ (.int .i64 x)).drew.frozen? ⟨b, 0, none⟩ = false := by simp [go_sem, *]
  have n3 : (W.setCell ⟨b, 0, none⟩ (.int .i64 x)).drew.frozen? ⟨b, 1, none⟩ = false := by simp [go_sem, *]
  generalize (W.setCell ⟨b, 0, none⟩ (.int .i64 x)).drew = V at o1 n0 n1 n2 n3 ⊢
  have r1 := (o1.cell (p := ⟨w.heap.size, 1, none⟩) (by show w.heap.size ≠ b; omega)).trans k1
  clear k0 k1 m0 m1 m2 m3
  refine wp_region_still_tail 12 (by kernel_rfl) (by kernel_rfl) ?_
  simp only [List.take_succ_cons, List.take_zero, List.drop_succ_cons, List.drop_zero]
  repeat still_step
  still_call (c2 _)
  repeat still_step
  refine wpStill_nil ?_
  change wpList _ _ _ _ _ V.drew
  go_wp2
  go_end0
  refine ⟨rfl, ⟨?_, ?_, ?_, ?_⟩, (hb.trans o1.but).trans (only_set1 V b 1 _).but⟩ <;> simp [go_sem, *]
theorem put_any (b : Nat) (s n : Int × Int) (w : World) (h : CAt w b s) (hs : okC s) :
    Calls Try.prog 16 #[.pointer (some ⟨b, 0, none⟩), cst n] w fun e w' => e = .returned (.tuple #[]) ∧ CAt w' b (addC s n) ∧ But b w w' :=
  put_walk b s.1 s.2 n.1 n.2 _ _ w h (fun w => grow_any _ _ w hs.1) (fun w => grow_any _ _ w hs.2)
theorem put_nil (n : Int × Int) (w : World) : Calls Try.prog 16 #[.pointer none, cst n] w fun e w' => e = .returned (.tuple #[]) ∧ Below w.heap.size w w' := by
  unfold cst
  go_enter Try.func16, Try.ntmps16
  go_wp2
  exact bodyPost_ret (v := .tuple #[]) (by simp [results, Try.results16, go_sem]) rfl ⟨rfl, bel1 _ _⟩
theorem cost_nil (w : World) : Calls Try.prog 17 #[.pointer none] w fun e w' => e = .returned (cst (0, 0)) ∧ Below w.heap.size w w' := by
  go_enter Try.func17, Try.ntmps17
  go_wp2
  exact bodyPost_ret (v := .agg #[.int .i64 0, .int .i64 0]) (by simp [results, Try.results17, go_sem]) rfl ⟨rfl, bel1 _ _⟩
theorem cost_any (b : Nat) (s : Int × Int) (w : World) (h : CAt w b s) : Calls Try.prog 17 #[.pointer (some ⟨b, 0, none⟩)] w fun e w' => e = .returned (cst s) ∧ Below w.heap.size w w' := by
  have hlt := h.lt
  obtain ⟨s0, s1⟩ := s
  obtain ⟨h0, h1, h2, h3⟩ := h
  simp only at h0 h1
  go_enter Try.func17, Try.ntmps17
  go_wp2
  exact bodyPost_ret (v := .agg #[.int .i64 s0, .int .i64 s1]) (by simp [results, Try.results17, go_sem]) rfl ⟨rfl, bel1 _ _⟩
end Go.Proofs.Ytofellaihiclkaa
