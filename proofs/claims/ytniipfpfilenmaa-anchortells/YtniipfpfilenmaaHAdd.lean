/- plus and of of package anchor; whether three counts are the same. -/
import Derived.Test.YtniipfpfilenmaaHGe3
import Derived.Test.YtniipfpfilenmaaUEq
namespace Go.Proofs.Ytniipfpfilenmaa
open Go.RowKit
set_option maxRecDepth 20000
set_option linter.unusedVariables false
set_option linter.unusedSimpArgs false

theorem eq_arr3x (d : Nat) (a b c x y z : Int) (w : World) : (Op.equalIn (d + 1 + 1) 33 (.agg #[.int .i64 a, .int .i64 b, .int .i64 c]) (.agg #[.int .i64 x, .int .i64 y, .int .i64 z])).run Try.prog w = .ok (decide ((⟨a, b, c⟩ : A3) = ⟨x, y, z⟩)) w := by
  rw [Op.equalIn]
  have q := fun x y => run_equalIn_int (P := Try.prog) w d 3 .i64 .i64 x y Try.underlying3
  have p0 := fun a b c => (pt3 a b c).1
  have p1 := fun a b c => (pt3 a b c).2.1
  have p2 := fun a b c => (pt3 a b c).2.2
  generalize Op.equalIn (d + 1) = E at q ⊢
  simp only [Sem.run_bind, run_underlying Try.underlying33, Result.andThen_ok, sz_int3]
  by_cases h1 : a = x <;> by_cases h2 : b = y <;> by_cases h3 : c = z <;> simp [Std.Legacy.Range.forIn_eq_forIn_range', List.range', p0, p1, p2, q, h1, h2, h3]
theorem neq_arr3 (a b : A3) : ∀ w, Sem.run Try.prog (binOp BinOp.neq 33 (ar3 a) (ar3 b)) w = .ok (.bool (decide (a ≠ b))) w := by
  intro w
  obtain ⟨a0, a1, a2⟩ := a
  obtain ⟨b0, b1, b2⟩ := b
  have := eq_arr3x
  unfold ar3
  simp [go_sem, this]
theorem eql_arr3x (a b : A3) : ∀ w, Sem.run Try.prog (binOp BinOp.eql 33 (ar3 a) (ar3 b)) w = .ok (.bool (decide (a = b))) w := by
  intro w
  obtain ⟨a0, a1, a2⟩ := a
  obtain ⟨b0, b1, b2⟩ := b
  have := eq_arr3x
  unfold ar3
  simp [go_sem, this]
theorem hat_any (a : Option Addr) (cap : Nat) (l : List F3) (n : Int) (w : World) (hl : l.length ≤ 9223372036854775807) (hr : URow w a l) :
    Calls Try.prog 25 #[.slice a l.length cap, .int .i64 n] w fun e w' => e = .returned (.tuple #[flt (atF l n), .bool (hasAt l n)]) ∧ Below w.heap.size w w' := by
  by_cases h1 : n < 0
  · have e : hasAt l n = false := by simp [hasAt]; omega
    unfold atF
    rw [e]
    unfold flt zeroF cond
    dsimp only
    clear e hr
    go_enter Try.func25, Try.ntmps25
    go_wp2
    exact bodyPost_ret (v := .tuple #[.agg #[.int .i64 0, .int .i64 0, .int .i64 0], .bool false]) (by simp [results, Try.results25, go_sem]) rfl ⟨rfl, tbel1 w _⟩
  · by_cases h2 : (l.length : Int) ≤ n
    · have e : hasAt l n = false := by simp [hasAt]; omega
      unfold atF
      rw [e]
      unfold flt zeroF cond
      dsimp only
      clear e hr
      go_enter Try.func25, Try.ntmps25
      go_wp2
      exact bodyPost_ret (v := .tuple #[.agg #[.int .i64 0, .int .i64 0, .int .i64 0], .bool false]) (by simp [results, Try.results25, go_sem]) rfl ⟨rfl, tbel1 w _⟩
    · obtain ⟨k, rfl⟩ : ∃ k : Nat, n = k := ⟨n.toNat, by omega⟩
      have e : hasAt l k = true := by simp [hasAt]; omega
      unfold atF
      rw [e]
      have hk : k < l.length := by omega
      obtain ⟨hi, b, off, rfl, hB, q0, q1, q2⟩ := hr k hk
      unfold flt cond
      rw [Int.toNat_natCast]
      generalize l.getD k zeroF = y at *
      obtain ⟨c, h, p⟩ := y
      dsimp only at *
      clear e hr hi
      go_enter Try.func25, Try.ntmps25
      go_wp2
      exact bodyPost_ret (v := .tuple #[.agg #[.int .i64 c, .int .i64 h, .int .i64 p], .bool true]) (by simp [results, Try.results25, go_sem]) rfl ⟨rfl, tbel1 w _⟩
theorem cnt_one (f : F3) (c : Int) : cntFU [f] c 1 = if f.c = c then 1 else 0 := by
  by_cases h : f.c = c
  · rw [if_pos h, cntFU_yes (k := 0) (by simpa using h)]
    rfl
  · rw [if_neg h, cntFU_no (k := 0) (by simpa using h)]
    rfl
theorem atF_in {l : List F3} {w : World} {a : Option Addr} (h : URow w a l) (n : Int) : inF (atF l n) := by
  unfold atF
  cases e : hasAt l n
  · show inF zeroF
    unfold zeroF inF inR
    decide
  · simp [hasAt] at e
    exact (h n.toNat (by omega)).1
set_option maxHeartbeats 1000000 in
theorem hof_any (a : Option Addr) (cap : Nat) (l : List F3) (n : Int) (w : World) (hl : l.length ≤ 9223372036854775807) (hr : URow w a l) :
    Calls Try.prog 19 #[.slice a l.length cap, .int .i64 n] w fun e w' => e = .returned (ar3 (ofA l n)) ∧ Below w.heap.size w w' := by
  have b0 := tbel1 w (.cells #[.int .i64 0, .int .i64 0, .int .i64 0] 33)
  have B0 := blk_new w #[.int .i64 0, .int .i64 0, .int .i64 0] 33
  have ca := fun x (hx : Below w.heap.size w x) => hat_any a cap l n x hl (hr.carry hx)
  have hi := atF_in hr n
  unfold ofA ar3
  generalize hh : hasAt l n = o at *
  generalize hf : atF l n = f at *
  obtain ⟨f0, f1, f2⟩ := f
  unfold flt at ca
  dsimp only at ca
  clear hr hf hh
  cases o
  · rw [if_neg (by decide)]
    unfold zeroA
    dsimp only
    clear hi
    go_enter Try.func19, Try.ntmps19
    go_wp2_with fail
    refine (ca _ b0).mono ?_
    rintro e w1 ⟨rfl, b1⟩
    have B1 := B0.old b1
    have bx := tstep b0 b1 b0.size
    clear ca B0 b0 b1
    obtain ⟨r0, r1, r2⟩ := B1.triple
    obtain ⟨g0, g1, g2⟩ := B1.triple_free
    have hlt := B1.lt
    go_wp2
    all_goals
      refine bodyPost_ret (v := .agg #[.int .i64 0, .int .i64 0, .int .i64 0]) (by simp [results, Try.results19, go_sem, *]) rfl ⟨rfl, ?_⟩
      exact (((bx.setCell (p := ⟨w.heap.size, 0, none⟩) (Nat.le_refl _) _).setCell (p := ⟨w.heap.size, 1, none⟩) (Nat.le_refl _) _).setCell (p := ⟨w.heap.size, 2, none⟩) (Nat.le_refl _) _).alloc (by simp; exact bx.size) _
  · rw [if_pos rfl]
    have cc := fun (x : World) => fcounts_any (some ⟨x.heap.size, 0, none⟩) 1 [⟨f0, f1, f2⟩] (x.alloc (.cells #[.int .i64 f0, .int .i64 f1, .int .i64 f2] 42)) (by simp) (fun k hk => by
      obtain rfl : k = 0 := by simp at hk; omega
      obtain ⟨e0, e1, e2⟩ := (blk_new x #[.int .i64 f0, .int .i64 f1, .int .i64 f2] 42).triple
      exact ⟨hi, _, 0, rfl, by simp, e0, e1, e2⟩)
    simp only [List.length_singleton, cnt_one] at cc
    unfold oneA
    dsimp only at cc ⊢
    generalize (if f0 = 0 then (1 : Int) else 0) = x0 at *
    generalize (if f0 = 1 then (1 : Int) else 0) = x1 at *
    generalize (if f0 = 2 then (1 : Int) else 0) = x2 at *
    clear hi
    go_enter Try.func19, Try.ntmps19
    go_wp2_with fail
    refine (ca _ b0).mono ?_
    rintro e w1 ⟨rfl, b1⟩
    have B1 := B0.old b1
    have bx := tstep b0 b1 b0.size
    clear ca B0 b0 b1
    have c := cc (w1.alloc (.cells #[.int .i64 f0, .int .i64 f1, .int .i64 f2] 42))
    rw [World.size_alloc] at c
    have b2 := tstep bx (tbel2 w1 (.cells #[.int .i64 f0, .int .i64 f1, .int .i64 f2] 42) (.cells #[.int .i64 f0, .int .i64 f1, .int .i64 f2] 42)) bx.size
    have B2 := (B1.alloc (.cells #[.int .i64 f0, .int .i64 f1, .int .i64 f2] 42)).alloc (.cells #[.int .i64 f0, .int .i64 f1, .int .i64 f2] 42)
    clear cc
    go_wp2_with fail
    all_goals
      refine c.mono ?_
      rintro e w2 ⟨rfl, b3⟩
      have B3 := B2.old b3
      have by_ := tstep b2 b3 b2.size
      clear c B1 bx B2 b2 b3
      obtain ⟨r0, r1, r2⟩ := B3.triple
      obtain ⟨g0, g1, g2⟩ := B3.triple_free
      have hlt := B3.lt
      go_wp2
      all_goals
        refine bodyPost_ret (v := .agg #[.int .i64 x0, .int .i64 x1, .int .i64 x2]) (by simp [results, Try.results19, go_sem, *]) rfl ⟨rfl, ?_⟩
        exact ((by_.setCell (p := ⟨w.heap.size, 0, none⟩) (Nat.le_refl _) _).setCell (p := ⟨w.heap.size, 1, none⟩) (Nat.le_refl _) _).setCell (p := ⟨w.heap.size, 2, none⟩) (Nat.le_refl _) _
theorem idxA (u v x : Value) : (∀ w, Sem.run Try.prog (Instr.index 33 (.agg #[u, v, x]) (.int .i64 0)) w = .ok u w) ∧ (∀ w, Sem.run Try.prog (Instr.index 33 (.agg #[u, v, x]) (.int .i64 1)) w = .ok v w) ∧ (∀ w, Sem.run Try.prog (Instr.index 33 (.agg #[u, v, x]) (.int .i64 2)) w = .ok x w) :=
  ⟨fun w => by kernel_rfl, fun w => by kernel_rfl, fun w => by kernel_rfl⟩
set_option maxHeartbeats 1000000 in
theorem hplus_any (x y : A3) (w : World) (h : inR (x.a + y.a) ∧ inR (x.b + y.b) ∧ inR (x.c + y.c)) :
    Calls Try.prog 18 #[ar3 x, ar3 y] w fun e w' => e = .returned (ar3 (addA x y)) ∧ Below w.heap.size w w' := by
  obtain ⟨x0, x1, x2⟩ := x
  obtain ⟨y0, y1, y2⟩ := y
  unfold ar3 addA
  dsimp only at h ⊢
  have u0 : IntKind.i64.wrap (x0 + y0) = x0 + y0 := by rw [IntKind.wrap_i64]; unfold inR at h; omega
  have u1 : IntKind.i64.wrap (x1 + y1) = x1 + y1 := by rw [IntKind.wrap_i64]; unfold inR at h; omega
  have u2 : IntKind.i64.wrap (x2 + y2) = x2 + y2 := by rw [IntKind.wrap_i64]; unfold inR at h; omega
  have b0 := tbel3 w (.cells #[.int .i64 x0, .int .i64 x1, .int .i64 x2] 33) (.cells #[.int .i64 y0, .int .i64 y1, .int .i64 y2] 33) (.cells #[.int .i64 0, .int .i64 0, .int .i64 0] 33)
  have X0 := ((blk_new w #[.int .i64 x0, .int .i64 x1, .int .i64 x2] 33).alloc (.cells #[.int .i64 y0, .int .i64 y1, .int .i64 y2] 33)).alloc (.cells #[.int .i64 0, .int .i64 0, .int .i64 0] 33)
  have Z0 := blk_three w (.cells #[.int .i64 x0, .int .i64 x1, .int .i64 x2] 33) (.cells #[.int .i64 y0, .int .i64 y1, .int .i64 y2] 33) #[.int .i64 0, .int .i64 0, .int .i64 0] 33
  clear h
  go_enter Try.func18, Try.ntmps18
  go_wp2_with fail
  generalize ((w.alloc _).alloc _).alloc _ = U at *
  go_loopw [8] (fun i wr => Below w.heap.size w wr ∧ Blk wr (w.heap.size + 1 + 1) #[.int .i64 0, .int .i64 0, .int .i64 0] 33 ∧ ((i = .int .i64 0 ∧ Blk wr w.heap.size #[.int .i64 x0, .int .i64 x1, .int .i64 x2] 33) ∨ (i = .int .i64 1 ∧ Blk wr w.heap.size #[.int .i64 (x0 + y0), .int .i64 x1, .int .i64 x2] 33) ∨ (i = .int .i64 2 ∧ Blk wr w.heap.size #[.int .i64 (x0 + y0), .int .i64 (x1 + y1), .int .i64 x2] 33) ∨ (i = .int .i64 3 ∧ Blk wr w.heap.size #[.int .i64 (x0 + y0), .int .i64 (x1 + y1), .int .i64 (x2 + y2)] 33))) (fun i _ => 3 - (intOf i).toNat)
  case atStart => exact ⟨b0, Z0, .inl ⟨rfl, X0⟩⟩
  case round =>
    obtain ⟨bw, ZB, h⟩ := hrel
    obtain ⟨i0, i1, i2⟩ := idxA (.int .i64 y0) (.int .i64 y1) (.int .i64 y2)
    have hlt := ZB.lt
    rcases h with ⟨rfl, XB⟩ | ⟨rfl, XB⟩ | ⟨rfl, XB⟩ | ⟨rfl, XB⟩
    all_goals
      obtain ⟨r0, r1, r2⟩ := XB.triple
      obtain ⟨g0, g1, g2⟩ := XB.triple_free
      obtain ⟨r0', r1', r2'⟩ := ZB.triple
      obtain ⟨g0', g1', g2'⟩ := ZB.triple_free
    · go_wp2
      all_goals go_roundw
      case rel => exact ⟨bw.setCell (p := ⟨w.heap.size, 0, none⟩) (Nat.le_refl _) _, ZB.other (by omega) _ _, .inr (.inl ⟨rfl, XB.set 0 _⟩)⟩
      case measure => simp [intOf]
    · go_wp2
      go_roundw
      case rel => exact ⟨bw.setCell (p := ⟨w.heap.size, 1, none⟩) (Nat.le_refl _) _, ZB.other (by omega) _ _, .inr (.inr (.inl ⟨rfl, XB.set 1 _⟩))⟩
      case measure => simp [intOf]
    · go_wp2
      go_roundw
      case rel => exact ⟨bw.setCell (p := ⟨w.heap.size, 2, none⟩) (Nat.le_refl _) _, ZB.other (by omega) _ _, .inr (.inr (.inr ⟨rfl, XB.set 2 _⟩))⟩
      case measure => simp [intOf]
    · go_wp2
      refine bodyPost_ret (v := .agg #[.int .i64 (x0 + y0), .int .i64 (x1 + y1), .int .i64 (x2 + y2)]) (by simp [results, Try.results18, go_sem, *]) rfl ⟨rfl, ?_⟩
      exact ((bw.setCell (p := ⟨w.heap.size + 1 + 1, 0, none⟩) (by simp; omega) _).setCell (p := ⟨w.heap.size + 1 + 1, 1, none⟩) (by simp; omega) _).setCell (p := ⟨w.heap.size + 1 + 1, 2, none⟩) (by simp; omega) _
end Go.Proofs.Ytniipfpfilenmaa
