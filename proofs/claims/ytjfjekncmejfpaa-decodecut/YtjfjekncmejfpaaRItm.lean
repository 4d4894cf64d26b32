/- Package decode: an item read. -/
import Derived.Test.YtjfjekncmejfpaaRRd
namespace Go.Proofs.Ytjfjekncmejfpaa
open Go.RowKit
set_option maxRecDepth 20000
set_option linter.unusedVariables false
set_option linter.unusedSimpArgs false

set_option maxHeartbeats 1000000 in
theorem item_1 (bs : List Int) (h g : Nat) (a : Option Addr) (c q : Nat) (st : Bool) (w : World) (H : RdP bs w h g a c q st) {q1 : Nat} {t1 : Bool} (ek : (1, q1, t1) = intR bs q st) :
    Calls Try.prog 73 #[.pointer (some ⟨h, 0, none⟩)] w fun e w' => e = .returned (itm (itemR bs q st).1) ∧ RdP bs w' h g a c (itemR bs q st).2.1 (itemR bs q st).2.2 ∧ But g w w' := by
  obtain ⟨⟨x1, q2, t2⟩, e1⟩ : ∃ r, r = intR bs q1 t1 := ⟨_, rfl⟩
  obtain ⟨⟨x2, q3, t3⟩, e2⟩ : ∃ r, r = intR bs q2 t2 := ⟨_, rfl⟩
  have hR : itemR bs q st = (⟨1, x1, x2, 0, 0, 0, 0⟩, q3, t3) := by
    have e9 : itemR bs q st = (itemOf (1, (kindR 1 bs q1 t1).1), (kindR 1 bs q1 t1).2) := by rw [item_two, ← ek]
    rw [e9, show kindR 1 = numsR 2 by simp [kindR]]
    simp only [nums_succ, nums_zero, ← e1, ← e2]
    rfl
  have HR := Lib.hid hR
  have R := blk_new w #[.int .i64 0, .int .i64 0, .int .i64 0, .int .i64 0, .int .i64 0, .int .i64 0, .int .i64 0] 49
  have H0 := H.old (tbel1 w (.cells #[.int .i64 0, .int .i64 0, .int .i64 0, .int .i64 0, .int .i64 0, .int .i64 0, .int .i64 0] 49))
  have B0 := But.of (g := g) (tbel1 w (.cells #[.int .i64 0, .int .i64 0, .int .i64 0, .int .i64 0, .int .i64 0, .int .i64 0, .int .i64 0] 49))
  have hg := H.cd.lt
  have c0 := fun y (hy : RdP bs y h g a c q st) => number_at ek y hy
  have c1 := fun y (hy : RdP bs y h g a c q1 t1) => length_at e1 y hy
  have c2 := fun y (hy : RdP bs y h g a c q2 t2) => number_at e2 y hy
  have HH := Lib.hid H
  have hne : g ≠ w.heap.size := by omega
  clear H hR ek e1 e2
  go_enter Try.func73, Try.ntmps73
  go_wp2_with fail
  refine (c0 _ H0).mono ?_
  rintro e w1 ⟨rfl, H1, B1⟩
  go_upto_region 2 with (fail)
  have D := blk_new w1 #[.int .i64 1, .int .i64 0, .int .i64 0, .int .i64 0, .int .i64 0, .int .i64 0, .int .i64 0] 49
  have H2 := H1.old (tbel1 w1 (.cells #[.int .i64 1, .int .i64 0, .int .i64 0, .int .i64 0, .int .i64 0, .int .i64 0, .int .i64 0] 49))
  have B2 := But.trans B0 (But.trans B1 (But.of (g := g) (tbel1 w1 (.cells #[.int .i64 1, .int .i64 0, .int .i64 0, .int .i64 0, .int .i64 0, .int .i64 0, .int .i64 0] 49))))
  have R2 := (R.but B1 hne.symm).old (tbel1 w1 (.cells #[.int .i64 1, .int .i64 0, .int .i64 0, .int .i64 0, .int .i64 0, .int .i64 0, .int .i64 0] 49))
  have hb : w.heap.size + 1 ≤ w1.heap.size := by have := B1.size; simpa using this
  have hb2 : g ≠ w1.heap.size := by omega
  generalize w1.alloc _ = U at *
  generalize w1.heap.size = b3 at *
  clear R H0 B0 H1 B1 c0
  have hlt := D.lt
  obtain ⟨p0, p1, p2, p3, p4, p5, p6⟩ := D.seven
  go_wp2_with fail
  refine (c1 _ H2).mono ?_
  rintro e v1 ⟨rfl, J1, C1⟩
  have D1 := D.but C1 hb2.symm
  have S1 := R2.but C1 hne.symm
  have B3 := But.trans B2 C1
  clear p0 p1 p2 p3 p4 p5 p6
  obtain ⟨p0, p1, p2, p3, p4, p5, p6⟩ := D1.seven
  go_wp2_with fail
  refine (c2 _ J1).mono ?_
  rintro e v2 ⟨rfl, J2, C2⟩
  have D2 := D1.but C2 hb2.symm
  have S2 := S1.but C2 hne.symm
  have B4 := But.trans B3 C2
  clear p0 p1 p2 p3 p4 p5 p6
  obtain ⟨p0, p1, p2, p3, p4, p5, p6⟩ := D2.seven
  obtain ⟨f0, f1, f2, f3, f4, f5, f6⟩ := D2.seven_free
  go_upto_region 14 with (fail)
  have E : Blk ((v2.setCell ⟨b3, 1, none⟩ (.int .i64 x1)).setCell ⟨b3, 2, none⟩ (.int .i64 x2)) b3 #[.int .i64 1, .int .i64 x1, .int .i64 x2, .int .i64 0, .int .i64 0, .int .i64 0, .int .i64 0] 49 := ((D2.set 1 (.int .i64 x1)).set 2 (.int .i64 x2))
  have T : Blk ((v2.setCell ⟨b3, 1, none⟩ (.int .i64 x1)).setCell ⟨b3, 2, none⟩ (.int .i64 x2)) w.heap.size #[.int .i64 0, .int .i64 0, .int .i64 0, .int .i64 0, .int .i64 0, .int .i64 0, .int .i64 0] 49 := ((S2.other (b := b3) (by omega) 1 (.int .i64 x1)).other (b := b3) (by omega) 2 (.int .i64 x2))
  have K := ((B4.newc (b := b3) (by omega) 1 (.int .i64 x1)).newc (b := b3) (by omega) 2 (.int .i64 x2))
  have I := HH.out.but K J2.le ((J2.cd.farc hb2 1 (.int .i64 x1)).farc hb2 2 (.int .i64 x2))
  have hl := E.lt
  generalize ((v2.setCell ⟨b3, 1, none⟩ (.int .i64 x1)).setCell ⟨b3, 2, none⟩ (.int .i64 x2)) = V at *
  clear p0 p1 p2 p3 p4 p5 p6 f0 f1 f2 f3 f4 f5 f6
  obtain ⟨p0, p1, p2, p3, p4, p5, p6⟩ := E.seven
  obtain ⟨r0, r1, r2, r3, r4, r5, r6⟩ := T.seven_free
  obtain ⟨s0, s1, s2, s3, s4, s5, s6⟩ := T.seven
  go_wp2
  rw [HR.out]
  refine bodyPost_ret (v := .agg #[.int .i64 1, .int .i64 x1, .int .i64 x2, .int .i64 0, .int .i64 0, .int .i64 0, .int .i64 0]) ?_ rfl ⟨rfl, HH.out.but (But.new7 K (Nat.le_refl _) _ _ _ _ _ _ _) I.le (I.cd.farc7 hne _ _ _ _ _ _ _), But.new7 K (Nat.le_refl _) _ _ _ _ _ _ _⟩
  exact results_cell_row Try.results73 _ _ _ 49 _ _ _ rfl (T.set7j _ _ _ _ _ _ _) Try.underlying49 rfl info39
set_option maxHeartbeats 1000000 in
theorem item_2 (bs : List Int) (h g : Nat) (a : Option Addr) (c q : Nat) (st : Bool) (w : World) (H : RdP bs w h g a c q st) {q1 : Nat} {t1 : Bool} (ek : (2, q1, t1) = intR bs q st) :
    Calls Try.prog 73 #[.pointer (some ⟨h, 0, none⟩)] w fun e w' => e = .returned (itm (itemR bs q st).1) ∧ RdP bs w' h g a c (itemR bs q st).2.1 (itemR bs q st).2.2 ∧ But g w w' := by
  obtain ⟨⟨x1, q2, t2⟩, e1⟩ : ∃ r, r = intR bs q1 t1 := ⟨_, rfl⟩
  obtain ⟨⟨x2, q3, t3⟩, e2⟩ : ∃ r, r = intR bs q2 t2 := ⟨_, rfl⟩
  obtain ⟨⟨x3, q4, t4⟩, e3⟩ : ∃ r, r = intR bs q3 t3 := ⟨_, rfl⟩
  obtain ⟨⟨x4, q5, t5⟩, e4⟩ : ∃ r, r = intR bs q4 t4 := ⟨_, rfl⟩
  have hR : itemR bs q st = (⟨2, x1, 0, x2, x3, x4, 0⟩, q5, t5) := by
    have e9 : itemR bs q st = (itemOf (2, (kindR 2 bs q1 t1).1), (kindR 2 bs q1 t1).2) := by rw [item_two, ← ek]
    rw [e9, show kindR 2 = numsR 4 by simp [kindR]]
    simp only [nums_succ, nums_zero, ← e1, ← e2, ← e3, ← e4]
    rfl
  have HR := Lib.hid hR
  have R := blk_new w #[.int .i64 0, .int .i64 0, .int .i64 0, .int .i64 0, .int .i64 0, .int .i64 0, .int .i64 0] 49
  have H0 := H.old (tbel1 w (.cells #[.int .i64 0, .int .i64 0, .int .i64 0, .int .i64 0, .int .i64 0, .int .i64 0, .int .i64 0] 49))
  have B0 := But.of (g := g) (tbel1 w (.cells #[.int .i64 0, .int .i64 0, .int .i64 0, .int .i64 0, .int .i64 0, .int .i64 0, .int .i64 0] 49))
  have hg := H.cd.lt
  have c0 := fun y (hy : RdP bs y h g a c q st) => number_at ek y hy
  have c1 := fun y (hy : RdP bs y h g a c q1 t1) => length_at e1 y hy
  have c2 := fun y (hy : RdP bs y h g a c q2 t2) => length_at e2 y hy
  have c3 := fun y (hy : RdP bs y h g a c q3 t3) => number_at e3 y hy
  have c4 := fun y (hy : RdP bs y h g a c q4 t4) => length_at e4 y hy
  have HH := Lib.hid H
  have hne : g ≠ w.heap.size := by omega
  clear H hR ek e1 e2 e3 e4
  go_enter Try.func73, Try.ntmps73
  go_wp2_with fail
  refine (c0 _ H0).mono ?_
  rintro e w1 ⟨rfl, H1, B1⟩
  go_upto_region 2 with (fail)
  have D := blk_new w1 #[.int .i64 2, .int .i64 0, .int .i64 0, .int .i64 0, .int .i64 0, .int .i64 0, .int .i64 0] 49
  have H2 := H1.old (tbel1 w1 (.cells #[.int .i64 2, .int .i64 0, .int .i64 0, .int .i64 0, .int .i64 0, .int .i64 0, .int .i64 0] 49))
  have B2 := But.trans B0 (But.trans B1 (But.of (g := g) (tbel1 w1 (.cells #[.int .i64 2, .int .i64 0, .int .i64 0, .int .i64 0, .int .i64 0, .int .i64 0, .int .i64 0] 49))))
  have R2 := (R.but B1 hne.symm).old (tbel1 w1 (.cells #[.int .i64 2, .int .i64 0, .int .i64 0, .int .i64 0, .int .i64 0, .int .i64 0, .int .i64 0] 49))
  have hb : w.heap.size + 1 ≤ w1.heap.size := by have := B1.size; simpa using this
  have hb2 : g ≠ w1.heap.size := by omega
  generalize w1.alloc _ = U at *
  generalize w1.heap.size = b3 at *
  clear R H0 B0 H1 B1 c0
  have hlt := D.lt
  obtain ⟨p0, p1, p2, p3, p4, p5, p6⟩ := D.seven
  go_wp2_with fail
  refine (c1 _ H2).mono ?_
  rintro e v1 ⟨rfl, J1, C1⟩
  have D1 := D.but C1 hb2.symm
  have S1 := R2.but C1 hne.symm
  have B3 := But.trans B2 C1
  clear p0 p1 p2 p3 p4 p5 p6
  obtain ⟨p0, p1, p2, p3, p4, p5, p6⟩ := D1.seven
  go_wp2_with fail
  refine (c2 _ J1).mono ?_
  rintro e v2 ⟨rfl, J2, C2⟩
  have D2 := D1.but C2 hb2.symm
  have S2 := S1.but C2 hne.symm
  have B4 := But.trans B3 C2
  clear p0 p1 p2 p3 p4 p5 p6
  obtain ⟨p0, p1, p2, p3, p4, p5, p6⟩ := D2.seven
  go_wp2_with fail
  refine (c3 _ J2).mono ?_
  rintro e v3 ⟨rfl, J3, C3⟩
  have D3 := D2.but C3 hb2.symm
  have S3 := S2.but C3 hne.symm
  have B5 := But.trans B4 C3
  clear p0 p1 p2 p3 p4 p5 p6
  obtain ⟨p0, p1, p2, p3, p4, p5, p6⟩ := D3.seven
  go_wp2_with fail
  refine (c4 _ J3).mono ?_
  rintro e v4 ⟨rfl, J4, C4⟩
  have D4 := D3.but C4 hb2.symm
  have S4 := S3.but C4 hne.symm
  have B6 := But.trans B5 C4
  clear p0 p1 p2 p3 p4 p5 p6
  obtain ⟨p0, p1, p2, p3, p4, p5, p6⟩ := D4.seven
  obtain ⟨f0, f1, f2, f3, f4, f5, f6⟩ := D4.seven_free
  go_upto_region 14 with (fail)
  have E : Blk ((((v4.setCell ⟨b3, 1, none⟩ (.int .i64 x1)).setCell ⟨b3, 3, none⟩ (.int .i64 x2)).setCell ⟨b3, 4, none⟩ (.int .i64 x3)).setCell ⟨b3, 5, none⟩ (.int .i64 x4)) b3 #[.int .i64 2, .int .i64 x1, .int .i64 0, .int .i64 x2, .int .i64 x3, .int .i64 x4, .int .i64 0] 49 := ((((D4.set 1 (.int .i64 x1)).set 3 (.int .i64 x2)).set 4 (.int .i64 x3)).set 5 (.int .i64 x4))
  have T : Blk ((((v4.setCell ⟨b3, 1, none⟩ (.int .i64 x1)).setCell ⟨b3, 3, none⟩ (.int .i64 x2)).setCell ⟨b3, 4, none⟩ (.int .i64 x3)).setCell ⟨b3, 5, none⟩ (.int .i64 x4)) w.heap.size #[.int .i64 0, .int .i64 0, .int .i64 0, .int .i64 0, .int .i64 0, .int .i64 0, .int .i64 0] 49 := ((((S4.other (b := b3) (by omega) 1 (.int .i64 x1)).other (b := b3) (by omega) 3 (.int .i64 x2)).other (b := b3) (by omega) 4 (.int .i64 x3)).other (b := b3) (by omega) 5 (.int .i64 x4))
  have K := ((((B6.newc (b := b3) (by omega) 1 (.int .i64 x1)).newc (b := b3) (by omega) 3 (.int .i64 x2)).newc (b := b3) (by omega) 4 (.int .i64 x3)).newc (b := b3) (by omega) 5 (.int .i64 x4))
  have I := HH.out.but K J4.le ((((J4.cd.farc hb2 1 (.int .i64 x1)).farc hb2 3 (.int .i64 x2)).farc hb2 4 (.int .i64 x3)).farc hb2 5 (.int .i64 x4))
  have hl := E.lt
  generalize ((((v4.setCell ⟨b3, 1, none⟩ (.int .i64 x1)).setCell ⟨b3, 3, none⟩ (.int .i64 x2)).setCell ⟨b3, 4, none⟩ (.int .i64 x3)).setCell ⟨b3, 5, none⟩ (.int .i64 x4)) = V at *
  clear p0 p1 p2 p3 p4 p5 p6 f0 f1 f2 f3 f4 f5 f6
  obtain ⟨p0, p1, p2, p3, p4, p5, p6⟩ := E.seven
  obtain ⟨r0, r1, r2, r3, r4, r5, r6⟩ := T.seven_free
  obtain ⟨s0, s1, s2, s3, s4, s5, s6⟩ := T.seven
  go_wp2
  rw [HR.out]
  refine bodyPost_ret (v := .agg #[.int .i64 2, .int .i64 x1, .int .i64 0, .int .i64 x2, .int .i64 x3, .int .i64 x4, .int .i64 0]) ?_ rfl ⟨rfl, HH.out.but (But.new7 K (Nat.le_refl _) _ _ _ _ _ _ _) I.le (I.cd.farc7 hne _ _ _ _ _ _ _), But.new7 K (Nat.le_refl _) _ _ _ _ _ _ _⟩
  exact results_cell_row Try.results73 _ _ _ 49 _ _ _ rfl (T.set7j _ _ _ _ _ _ _) Try.underlying49 rfl info39
set_option maxHeartbeats 1000000 in
theorem item_3 (bs : List Int) (h g : Nat) (a : Option Addr) (c q : Nat) (st : Bool) (w : World) (H : RdP bs w h g a c q st) {q1 : Nat} {t1 : Bool} (ek : (3, q1, t1) = intR bs q st) :
    Calls Try.prog 73 #[.pointer (some ⟨h, 0, none⟩)] w fun e w' => e = .returned (itm (itemR bs q st).1) ∧ RdP bs w' h g a c (itemR bs q st).2.1 (itemR bs q st).2.2 ∧ But g w w' := by
  obtain ⟨⟨x1, q2, t2⟩, e1⟩ : ∃ r, r = intR bs q1 t1 := ⟨_, rfl⟩
  have hR : itemR bs q st = (⟨3, 0, 0, 0, 0, 0, x1⟩, q2, t2) := by
    have e9 : itemR bs q st = (itemOf (3, (kindR 3 bs q1 t1).1), (kindR 3 bs q1 t1).2) := by rw [item_two, ← ek]
    rw [e9, show kindR 3 = numsR 1 by simp [kindR]]
    simp only [nums_succ, nums_zero, ← e1]
    rfl
  have HR := Lib.hid hR
  have R := blk_new w #[.int .i64 0, .int .i64 0, .int .i64 0, .int .i64 0, .int .i64 0, .int .i64 0, .int .i64 0] 49
  have H0 := H.old (tbel1 w (.cells #[.int .i64 0, .int .i64 0, .int .i64 0, .int .i64 0, .int .i64 0, .int .i64 0, .int .i64 0] 49))
  have B0 := But.of (g := g) (tbel1 w (.cells #[.int .i64 0, .int .i64 0, .int .i64 0, .int .i64 0, .int .i64 0, .int .i64 0, .int .i64 0] 49))
  have hg := H.cd.lt
  have c0 := fun y (hy : RdP bs y h g a c q st) => number_at ek y hy
  have c1 := fun y (hy : RdP bs y h g a c q1 t1) => number_at e1 y hy
  have HH := Lib.hid H
  have hne : g ≠ w.heap.size := by omega
  clear H hR ek e1
  go_enter Try.func73, Try.ntmps73
  go_wp2_with fail
  refine (c0 _ H0).mono ?_
  rintro e w1 ⟨rfl, H1, B1⟩
  go_upto_region 2 with (fail)
  have D := blk_new w1 #[.int .i64 3, .int .i64 0, .int .i64 0, .int .i64 0, .int .i64 0, .int .i64 0, .int .i64 0] 49
  have H2 := H1.old (tbel1 w1 (.cells #[.int .i64 3, .int .i64 0, .int .i64 0, .int .i64 0, .int .i64 0, .int .i64 0, .int .i64 0] 49))
  have B2 := But.trans B0 (But.trans B1 (But.of (g := g) (tbel1 w1 (.cells #[.int .i64 3, .int .i64 0, .int .i64 0, .int .i64 0, .int .i64 0, .int .i64 0, .int .i64 0] 49))))
  have R2 := (R.but B1 hne.symm).old (tbel1 w1 (.cells #[.int .i64 3, .int .i64 0, .int .i64 0, .int .i64 0, .int .i64 0, .int .i64 0, .int .i64 0] 49))
  have hb : w.heap.size + 1 ≤ w1.heap.size := by have := B1.size; simpa using this
  have hb2 : g ≠ w1.heap.size := by omega
  generalize w1.alloc _ = U at *
  generalize w1.heap.size = b3 at *
  clear R H0 B0 H1 B1 c0
  have hlt := D.lt
  obtain ⟨p0, p1, p2, p3, p4, p5, p6⟩ := D.seven
  go_wp2_with fail
  refine (c1 _ H2).mono ?_
  rintro e v1 ⟨rfl, J1, C1⟩
  have D1 := D.but C1 hb2.symm
  have S1 := R2.but C1 hne.symm
  have B3 := But.trans B2 C1
  clear p0 p1 p2 p3 p4 p5 p6
  obtain ⟨p0, p1, p2, p3, p4, p5, p6⟩ := D1.seven
  obtain ⟨f0, f1, f2, f3, f4, f5, f6⟩ := D1.seven_free
  go_upto_region 14 with (fail)
  have E : Blk (v1.setCell ⟨b3, 6, none⟩ (.int .i64 x1)) b3 #[.int .i64 3, .int .i64 0, .int .i64 0, .int .i64 0, .int .i64 0, .int .i64 0, .int .i64 x1] 49 := (D1.set 6 (.int .i64 x1))
  have T : Blk (v1.setCell ⟨b3, 6, none⟩ (.int .i64 x1)) w.heap.size #[.int .i64 0, .int .i64 0, .int .i64 0, .int .i64 0, .int .i64 0, .int .i64 0, .int .i64 0] 49 := (S1.other (b := b3) (by omega) 6 (.int .i64 x1))
  have K := (B3.newc (b := b3) (by omega) 6 (.int .i64 x1))
  have I := HH.out.but K J1.le (J1.cd.farc hb2 6 (.int .i64 x1))
  have hl := E.lt
  generalize (v1.setCell ⟨b3, 6, none⟩ (.int .i64 x1)) = V at *
  clear p0 p1 p2 p3 p4 p5 p6 f0 f1 f2 f3 f4 f5 f6
  obtain ⟨p0, p1, p2, p3, p4, p5, p6⟩ := E.seven
  obtain ⟨r0, r1, r2, r3, r4, r5, r6⟩ := T.seven_free
  obtain ⟨s0, s1, s2, s3, s4, s5, s6⟩ := T.seven
  go_wp2
  rw [HR.out]
  refine bodyPost_ret (v := .agg #[.int .i64 3, .int .i64 0, .int .i64 0, .int .i64 0, .int .i64 0, .int .i64 0, .int .i64 x1]) ?_ rfl ⟨rfl, HH.out.but (But.new7 K (Nat.le_refl _) _ _ _ _ _ _ _) I.le (I.cd.farc7 hne _ _ _ _ _ _ _), But.new7 K (Nat.le_refl _) _ _ _ _ _ _ _⟩
  exact results_cell_row Try.results73 _ _ _ 49 _ _ _ rfl (T.set7j _ _ _ _ _ _ _) Try.underlying49 rfl info39
set_option maxHeartbeats 1000000 in
theorem item_4 (bs : List Int) (h g : Nat) (a : Option Addr) (c q : Nat) (st : Bool) (w : World) (H : RdP bs w h g a c q st) {q1 : Nat} {t1 : Bool} (ek : (4, q1, t1) = intR bs q st) :
    Calls Try.prog 73 #[.pointer (some ⟨h, 0, none⟩)] w fun e w' => e = .returned (itm (itemR bs q st).1) ∧ RdP bs w' h g a c (itemR bs q st).2.1 (itemR bs q st).2.2 ∧ But g w w' := by
  obtain ⟨⟨x1, q2, t2⟩, e1⟩ : ∃ r, r = intR bs q1 t1 := ⟨_, rfl⟩
  have hR : itemR bs q st = (⟨4, 0, 0, 0, 0, 0, x1⟩, q2, t2) := by
    have e9 : itemR bs q st = (itemOf (4, (kindR 4 bs q1 t1).1), (kindR 4 bs q1 t1).2) := by rw [item_two, ← ek]
    rw [e9, show kindR 4 = numsR 1 by simp [kindR]]
    simp only [nums_succ, nums_zero, ← e1]
    rfl
  have HR := Lib.hid hR
  have R := blk_new w #[.int .i64 0, .int .i64 0, .int .i64 0, .int .i64 0, .int .i64 0, .int .i64 0, .int .i64 0] 49
  have H0 := H.old (tbel1 w (.cells #[.int .i64 0, .int .i64 0, .int .i64 0, .int .i64 0, .int .i64 0, .int .i64 0, .int .i64 0] 49))
  have B0 := But.of (g := g) (tbel1 w (.cells #[.int .i64 0, .int .i64 0, .int .i64 0, .int .i64 0, .int .i64 0, .int .i64 0, .int .i64 0] 49))
  have hg := H.cd.lt
  have c0 := fun y (hy : RdP bs y h g a c q st) => number_at ek y hy
  have c1 := fun y (hy : RdP bs y h g a c q1 t1) => number_at e1 y hy
  have HH := Lib.hid H
  have hne : g ≠ w.heap.size := by omega
  clear H hR ek e1
  go_enter Try.func73, Try.ntmps73
  go_wp2_with fail
  refine (c0 _ H0).mono ?_
  rintro e w1 ⟨rfl, H1, B1⟩
  go_upto_region 2 with (fail)
  have D := blk_new w1 #[.int .i64 4, .int .i64 0, .int .i64 0, .int .i64 0, .int .i64 0, .int .i64 0, .int .i64 0] 49
  have H2 := H1.old (tbel1 w1 (.cells #[.int .i64 4, .int .i64 0, .int .i64 0, .int .i64 0, .int .i64 0, .int .i64 0, .int .i64 0] 49))
  have B2 := But.trans B0 (But.trans B1 (But.of (g := g) (tbel1 w1 (.cells #[.int .i64 4, .int .i64 0, .int .i64 0, .int .i64 0, .int .i64 0, .int .i64 0, .int .i64 0] 49))))
  have R2 := (R.but B1 hne.symm).old (tbel1 w1 (.cells #[.int .i64 4, .int .i64 0, .int .i64 0, .int .i64 0, .int .i64 0, .int .i64 0, .int .i64 0] 49))
  have hb : w.heap.size + 1 ≤ w1.heap.size := by have := B1.size; simpa using this
  have hb2 : g ≠ w1.heap.size := by omega
  generalize w1.alloc _ = U at *
  generalize w1.heap.size = b3 at *
  clear R H0 B0 H1 B1 c0
  have hlt := D.lt
  obtain ⟨p0, p1, p2, p3, p4, p5, p6⟩ := D.seven
  go_wp2_with fail
  refine (c1 _ H2).mono ?_
  rintro e v1 ⟨rfl, J1, C1⟩
  have D1 := D.but C1 hb2.symm
  have S1 := R2.but C1 hne.symm
  have B3 := But.trans B2 C1
  clear p0 p1 p2 p3 p4 p5 p6
  obtain ⟨p0, p1, p2, p3, p4, p5, p6⟩ := D1.seven
  obtain ⟨f0, f1, f2, f3, f4, f5, f6⟩ := D1.seven_free
  go_upto_region 14 with (fail)
  have E : Blk (v1.setCell ⟨b3, 6, none⟩ (.int .i64 x1)) b3 #[.int .i64 4, .int .i64 0, .int .i64 0, .int .i64 0, .int .i64 0, .int .i64 0, .int .i64 x1] 49 := (D1.set 6 (.int .i64 x1))
  have T : Blk (v1.setCell ⟨b3, 6, none⟩ (.int .i64 x1)) w.heap.size #[.int .i64 0, .int .i64 0, .int .i64 0, .int .i64 0, .int .i64 0, .int .i64 0, .int .i64 0] 49 := (S1.other (b := b3) (by omega) 6 (.int .i64 x1))
  have K := (B3.newc (b := b3) (by omega) 6 (.int .i64 x1))
  have I := HH.out.but K J1.le (J1.cd.farc hb2 6 (.int .i64 x1))
  have hl := E.lt
  generalize (v1.setCell ⟨b3, 6, none⟩ (.int .i64 x1)) = V at *
  clear p0 p1 p2 p3 p4 p5 p6 f0 f1 f2 f3 f4 f5 f6
  obtain ⟨p0, p1, p2, p3, p4, p5, p6⟩ := E.seven
  obtain ⟨r0, r1, r2, r3, r4, r5, r6⟩ := T.seven_free
  obtain ⟨s0, s1, s2, s3, s4, s5, s6⟩ := T.seven
  go_wp2
  rw [HR.out]
  refine bodyPost_ret (v := .agg #[.int .i64 4, .int .i64 0, .int .i64 0, .int .i64 0, .int .i64 0, .int .i64 0, .int .i64 x1]) ?_ rfl ⟨rfl, HH.out.but (But.new7 K (Nat.le_refl _) _ _ _ _ _ _ _) I.le (I.cd.farc7 hne _ _ _ _ _ _ _), But.new7 K (Nat.le_refl _) _ _ _ _ _ _ _⟩
  exact results_cell_row Try.results73 _ _ _ 49 _ _ _ rfl (T.set7j _ _ _ _ _ _ _) Try.underlying49 rfl info39
set_option maxHeartbeats 1000000 in
theorem item_5 (bs : List Int) (h g : Nat) (a : Option Addr) (c q : Nat) (st : Bool) (w : World) (H : RdP bs w h g a c q st) {q1 : Nat} {t1 : Bool} (ek : (5, q1, t1) = intR bs q st) :
    Calls Try.prog 73 #[.pointer (some ⟨h, 0, none⟩)] w fun e w' => e = .returned (itm (itemR bs q st).1) ∧ RdP bs w' h g a c (itemR bs q st).2.1 (itemR bs q st).2.2 ∧ But g w w' := by
  obtain ⟨⟨x1, q2, t2⟩, e1⟩ : ∃ r, r = intR bs q1 t1 := ⟨_, rfl⟩
  have hR : itemR bs q st = (⟨5, 0, 0, 0, 0, 0, x1⟩, q2, t2) := by
    have e9 : itemR bs q st = (itemOf (5, (kindR 5 bs q1 t1).1), (kindR 5 bs q1 t1).2) := by rw [item_two, ← ek]
    rw [e9, show kindR 5 = numsR 1 by simp [kindR]]
    simp only [nums_succ, nums_zero, ← e1]
    rfl
  have HR := Lib.hid hR
  have R := blk_new w #[.int .i64 0, .int .i64 0, .int .i64 0, .int .i64 0, .int .i64 0, .int .i64 0, .int .i64 0] 49
  have H0 := H.old (tbel1 w (.cells #[.int .i64 0, .int .i64 0, .int .i64 0, .int .i64 0, .int .i64 0, .int .i64 0, .int .i64 0] 49))
  have B0 := But.of (g := g) (tbel1 w (.cells #[.int .i64 0, .int .i64 0, .int .i64 0, .int .i64 0, .int .i64 0, .int .i64 0, .int .i64 0] 49))
  have hg := H.cd.lt
  have c0 := fun y (hy : RdP bs y h g a c q st) => number_at ek y hy
  have c1 := fun y (hy : RdP bs y h g a c q1 t1) => number_at e1 y hy
  have HH := Lib.hid H
  have hne : g ≠ w.heap.size := by omega
  clear H hR ek e1
  go_enter Try.func73, Try.ntmps73
  go_wp2_with fail
  refine (c0 _ H0).mono ?_
  rintro e w1 ⟨rfl, H1, B1⟩
  go_upto_region 2 with (fail)
  have D := blk_new w1 #[.int .i64 5, .int .i64 0, .int .i64 0, .int .i64 0, .int .i64 0, .int .i64 0, .int .i64 0] 49
  have H2 := H1.old (tbel1 w1 (.cells #[.int .i64 5, .int .i64 0, .int .i64 0, .int .i64 0, .int .i64 0, .int .i64 0, .int .i64 0] 49))
  have B2 := But.trans B0 (But.trans B1 (But.of (g := g) (tbel1 w1 (.cells #[.int .i64 5, .int .i64 0, .int .i64 0, .int .i64 0, .int .i64 0, .int .i64 0, .int .i64 0] 49))))
  have R2 := (R.but B1 hne.symm).old (tbel1 w1 (.cells #[.int .i64 5, .int .i64 0, .int .i64 0, .int .i64 0, .int .i64 0, .int .i64 0, .int .i64 0] 49))
  have hb : w.heap.size + 1 ≤ w1.heap.size := by have := B1.size; simpa using this
  have hb2 : g ≠ w1.heap.size := by omega
  generalize w1.alloc _ = U at *
  generalize w1.heap.size = b3 at *
  clear R H0 B0 H1 B1 c0
  have hlt := D.lt
  obtain ⟨p0, p1, p2, p3, p4, p5, p6⟩ := D.seven
  go_wp2_with fail
  refine (c1 _ H2).mono ?_
  rintro e v1 ⟨rfl, J1, C1⟩
  have D1 := D.but C1 hb2.symm
  have S1 := R2.but C1 hne.symm
  have B3 := But.trans B2 C1
  clear p0 p1 p2 p3 p4 p5 p6
  obtain ⟨p0, p1, p2, p3, p4, p5, p6⟩ := D1.seven
  obtain ⟨f0, f1, f2, f3, f4, f5, f6⟩ := D1.seven_free
  go_upto_region 14 with (fail)
  have E : Blk (v1.setCell ⟨b3, 6, none⟩ (.int .i64 x1)) b3 #[.int .i64 5, .int .i64 0, .int .i64 0, .int .i64 0, .int .i64 0, .int .i64 0, .int .i64 x1] 49 := (D1.set 6 (.int .i64 x1))
  have T : Blk (v1.setCell ⟨b3, 6, none⟩ (.int .i64 x1)) w.heap.size #[.int .i64 0, .int .i64 0, .int .i64 0, .int .i64 0, .int .i64 0, .int .i64 0, .int .i64 0] 49 := (S1.other (b := b3) (by omega) 6 (.int .i64 x1))
  have K := (B3.newc (b := b3) (by omega) 6 (.int .i64 x1))
  have I := HH.out.but K J1.le (J1.cd.farc hb2 6 (.int .i64 x1))
  have hl := E.lt
  generalize (v1.setCell ⟨b3, 6, none⟩ (.int .i64 x1)) = V at *
  clear p0 p1 p2 p3 p4 p5 p6 f0 f1 f2 f3 f4 f5 f6
  obtain ⟨p0, p1, p2, p3, p4, p5, p6⟩ := E.seven
  obtain ⟨r0, r1, r2, r3, r4, r5, r6⟩ := T.seven_free
  obtain ⟨s0, s1, s2, s3, s4, s5, s6⟩ := T.seven
  go_wp2
  rw [HR.out]
  refine bodyPost_ret (v := .agg #[.int .i64 5, .int .i64 0, .int .i64 0, .int .i64 0, .int .i64 0, .int .i64 0, .int .i64 x1]) ?_ rfl ⟨rfl, HH.out.but (But.new7 K (Nat.le_refl _) _ _ _ _ _ _ _) I.le (I.cd.farc7 hne _ _ _ _ _ _ _), But.new7 K (Nat.le_refl _) _ _ _ _ _ _ _⟩
  exact results_cell_row Try.results73 _ _ _ 49 _ _ _ rfl (T.set7j _ _ _ _ _ _ _) Try.underlying49 rfl info39
set_option maxHeartbeats 1000000 in
theorem item_6 (bs : List Int) (h g : Nat) (a : Option Addr) (c q : Nat) (st : Bool) (w : World) (H : RdP bs w h g a c q st) {q1 : Nat} {t1 : Bool} (ek : (6, q1, t1) = intR bs q st) :
    Calls Try.prog 73 #[.pointer (some ⟨h, 0, none⟩)] w fun e w' => e = .returned (itm (itemR bs q st).1) ∧ RdP bs w' h g a c (itemR bs q st).2.1 (itemR bs q st).2.2 ∧ But g w w' := by
  obtain ⟨⟨x1, q2, t2⟩, e1⟩ : ∃ r, r = intR bs q1 t1 := ⟨_, rfl⟩
  have hR : itemR bs q st = (⟨6, 0, 0, 0, 0, 0, x1⟩, q2, t2) := by
    have e9 : itemR bs q st = (itemOf (6, (kindR 6 bs q1 t1).1), (kindR 6 bs q1 t1).2) := by rw [item_two, ← ek]
    rw [e9, show kindR 6 = numsR 1 by simp [kindR]]
    simp only [nums_succ, nums_zero, ← e1]
    rfl
  have HR := Lib.hid hR
  have R := blk_new w #[.int .i64 0, .int .i64 0, .int .i64 0, .int .i64 0, .int .i64 0, .int .i64 0, .int .i64 0] 49
  have H0 := H.old (tbel1 w (.cells #[.int .i64 0, .int .i64 0, .int .i64 0, .int .i64 0, .int .i64 0, .int .i64 0, .int .i64 0] 49))
  have B0 := But.of (g := g) (tbel1 w (.cells #[.int .i64 0, .int .i64 0, .int .i64 0, .int .i64 0, .int .i64 0, .int .i64 0, .int .i64 0] 49))
  have hg := H.cd.lt
  have c0 := fun y (hy : RdP bs y h g a c q st) => number_at ek y hy
  have c1 := fun y (hy : RdP bs y h g a c q1 t1) => number_at e1 y hy
  have HH := Lib.hid H
  have hne : g ≠ w.heap.size := by omega
  clear H hR ek e1
  go_enter Try.func73, Try.ntmps73
  go_wp2_with fail
  refine (c0 _ H0).mono ?_
  rintro e w1 ⟨rfl, H1, B1⟩
  go_upto_region 2 with (fail)
  have D := blk_new w1 #[.int .i64 6, .int .i64 0, .int .i64 0, .int .i64 0, .int .i64 0, .int .i64 0, .int .i64 0] 49
  have H2 := H1.old (tbel1 w1 (.cells #[.int .i64 6, .int .i64 0, .int .i64 0, .int .i64 0, .int .i64 0, .int .i64 0, .int .i64 0] 49))
  have B2 := But.trans B0 (But.trans B1 (But.of (g := g) (tbel1 w1 (.cells #[.int .i64 6, .int .i64 0, .int .i64 0, .int .i64 0, .int .i64 0, .int .i64 0, .int .i64 0] 49))))
  have R2 := (R.but B1 hne.symm).old (tbel1 w1 (.cells #[.int .i64 6, .int .i64 0, .int .i64 0, .int .i64 0, .int .i64 0, .int .i64 0, .int .i64 0] 49))
  have hb : w.heap.size + 1 ≤ w1.heap.size := by have := B1.size; simpa using this
  have hb2 : g ≠ w1.heap.size := by omega
  generalize w1.alloc _ = U at *
  generalize w1.heap.size = b3 at *
  clear R H0 B0 H1 B1 c0
  have hlt := D.lt
  obtain ⟨p0, p1, p2, p3, p4, p5, p6⟩ := D.seven
  go_wp2_with fail
  refine (c1 _ H2).mono ?_
  rintro e v1 ⟨rfl, J1, C1⟩
  have D1 := D.but C1 hb2.symm
  have S1 := R2.but C1 hne.symm
  have B3 := But.trans B2 C1
  clear p0 p1 p2 p3 p4 p5 p6
  obtain ⟨p0, p1, p2, p3, p4, p5, p6⟩ := D1.seven
  obtain ⟨f0, f1, f2, f3, f4, f5, f6⟩ := D1.seven_free
  go_upto_region 14 with (fail)
  have E : Blk (v1.setCell ⟨b3, 6, none⟩ (.int .i64 x1)) b3 #[.int .i64 6, .int .i64 0, .int .i64 0, .int .i64 0, .int .i64 0, .int .i64 0, .int .i64 x1] 49 := (D1.set 6 (.int .i64 x1))
  have T : Blk (v1.setCell ⟨b3, 6, none⟩ (.int .i64 x1)) w.heap.size #[.int .i64 0, .int .i64 0, .int .i64 0, .int .i64 0, .int .i64 0, .int .i64 0, .int .i64 0] 49 := (S1.other (b := b3) (by omega) 6 (.int .i64 x1))
  have K := (B3.newc (b := b3) (by omega) 6 (.int .i64 x1))
  have I := HH.out.but K J1.le (J1.cd.farc hb2 6 (.int .i64 x1))
  have hl := E.lt
  generalize (v1.setCell ⟨b3, 6, none⟩ (.int .i64 x1)) = V at *
  clear p0 p1 p2 p3 p4 p5 p6 f0 f1 f2 f3 f4 f5 f6
  obtain ⟨p0, p1, p2, p3, p4, p5, p6⟩ := E.seven
  obtain ⟨r0, r1, r2, r3, r4, r5, r6⟩ := T.seven_free
  obtain ⟨s0, s1, s2, s3, s4, s5, s6⟩ := T.seven
  go_wp2
  rw [HR.out]
  refine bodyPost_ret (v := .agg #[.int .i64 6, .int .i64 0, .int .i64 0, .int .i64 0, .int .i64 0, .int .i64 0, .int .i64 x1]) ?_ rfl ⟨rfl, HH.out.but (But.new7 K (Nat.le_refl _) _ _ _ _ _ _ _) I.le (I.cd.farc7 hne _ _ _ _ _ _ _), But.new7 K (Nat.le_refl _) _ _ _ _ _ _ _⟩
  exact results_cell_row Try.results73 _ _ _ 49 _ _ _ rfl (T.set7j _ _ _ _ _ _ _) Try.underlying49 rfl info39
set_option maxHeartbeats 1000000 in
theorem item_7 (bs : List Int) (h g : Nat) (a : Option Addr) (c q : Nat) (st : Bool) (w : World) (H : RdP bs w h g a c q st) {q1 : Nat} {t1 : Bool} (ek : (7, q1, t1) = intR bs q st) :
    Calls Try.prog 73 #[.pointer (some ⟨h, 0, none⟩)] w fun e w' => e = .returned (itm (itemR bs q st).1) ∧ RdP bs w' h g a c (itemR bs q st).2.1 (itemR bs q st).2.2 ∧ But g w w' := by
  have hR : itemR bs q st = (⟨7, 0, 0, 0, 0, 0, 0⟩, q1, t1) := by
    have e9 : itemR bs q st = (itemOf (7, (kindR 7 bs q1 t1).1), (kindR 7 bs q1 t1).2) := by rw [item_two, ← ek]
    rw [e9, show kindR 7 = numsR 0 by simp [kindR]]
    simp only [nums_succ, nums_zero]
    rfl
  have HR := Lib.hid hR
  have R := blk_new w #[.int .i64 0, .int .i64 0, .int .i64 0, .int .i64 0, .int .i64 0, .int .i64 0, .int .i64 0] 49
  have H0 := H.old (tbel1 w (.cells #[.int .i64 0, .int .i64 0, .int .i64 0, .int .i64 0, .int .i64 0, .int .i64 0, .int .i64 0] 49))
  have B0 := But.of (g := g) (tbel1 w (.cells #[.int .i64 0, .int .i64 0, .int .i64 0, .int .i64 0, .int .i64 0, .int .i64 0, .int .i64 0] 49))
  have hg := H.cd.lt
  have c0 := fun y (hy : RdP bs y h g a c q st) => number_at ek y hy
  have HH := Lib.hid H
  have hne : g ≠ w.heap.size := by omega
  clear H hR ek
  go_enter Try.func73, Try.ntmps73
  go_wp2_with fail
  refine (c0 _ H0).mono ?_
  rintro e w1 ⟨rfl, H1, B1⟩
  go_upto_region 2 with (fail)
  have D := blk_new w1 #[.int .i64 7, .int .i64 0, .int .i64 0, .int .i64 0, .int .i64 0, .int .i64 0, .int .i64 0] 49
  have H2 := H1.old (tbel1 w1 (.cells #[.int .i64 7, .int .i64 0, .int .i64 0, .int .i64 0, .int .i64 0, .int .i64 0, .int .i64 0] 49))
  have B2 := But.trans B0 (But.trans B1 (But.of (g := g) (tbel1 w1 (.cells #[.int .i64 7, .int .i64 0, .int .i64 0, .int .i64 0, .int .i64 0, .int .i64 0, .int .i64 0] 49))))
  have R2 := (R.but B1 hne.symm).old (tbel1 w1 (.cells #[.int .i64 7, .int .i64 0, .int .i64 0, .int .i64 0, .int .i64 0, .int .i64 0, .int .i64 0] 49))
  have hb : w.heap.size + 1 ≤ w1.heap.size := by have := B1.size; simpa using this
  have hb2 : g ≠ w1.heap.size := by omega
  generalize w1.alloc _ = U at *
  generalize w1.heap.size = b3 at *
  clear R H0 B0 H1 B1 c0
  have hlt := D.lt
  obtain ⟨p0, p1, p2, p3, p4, p5, p6⟩ := D.seven
  obtain ⟨r0, r1, r2, r3, r4, r5, r6⟩ := R2.seven_free
  obtain ⟨s0, s1, s2, s3, s4, s5, s6⟩ := R2.seven
  go_wp2
  rw [HR.out]
  refine bodyPost_ret (v := .agg #[.int .i64 7, .int .i64 0, .int .i64 0, .int .i64 0, .int .i64 0, .int .i64 0, .int .i64 0]) ?_ rfl ⟨rfl, HH.out.but (But.new7 B2 (Nat.le_refl _) _ _ _ _ _ _ _) H2.le (H2.cd.farc7 hne _ _ _ _ _ _ _), But.new7 B2 (Nat.le_refl _) _ _ _ _ _ _ _⟩
  exact results_cell_row Try.results73 _ _ _ 49 _ _ _ rfl (R2.set7j _ _ _ _ _ _ _) Try.underlying49 rfl info39
set_option maxHeartbeats 1000000 in
theorem item_no (bs : List Int) (h g : Nat) (a : Option Addr) (c q : Nat) (st : Bool) (w : World) (H : RdP bs w h g a c q st) {k : Int} {q1 : Nat} {t1 : Bool} (ek : (k, q1, t1) = intR bs q st) (hk : ¬ (1 ≤ k ∧ k ≤ 7)) :
    Calls Try.prog 73 #[.pointer (some ⟨h, 0, none⟩)] w fun e w' => e = .returned (itm (itemR bs q st).1) ∧ RdP bs w' h g a c (itemR bs q st).2.1 (itemR bs q st).2.2 ∧ But g w w' := by
  have hR : itemR bs q st = (⟨k, 0, 0, 0, 0, 0, 0⟩, q1, true) := by
    simp only [itemR, mapR, thenR, ← ek, kindR, itemOf, if_neg (show ¬ k = 1 by omega), if_neg (show ¬ k = 2 by omega), if_neg (show ¬ (3 ≤ k ∧ k ≤ 6) by omega), if_neg (show ¬ k = 7 by omega), failR]
  have HR := Lib.hid hR
  have R := blk_new w #[.int .i64 0, .int .i64 0, .int .i64 0, .int .i64 0, .int .i64 0, .int .i64 0, .int .i64 0] 49
  have H0 := H.old (tbel1 w (.cells #[.int .i64 0, .int .i64 0, .int .i64 0, .int .i64 0, .int .i64 0, .int .i64 0, .int .i64 0] 49))
  have B0 := But.of (g := g) (tbel1 w (.cells #[.int .i64 0, .int .i64 0, .int .i64 0, .int .i64 0, .int .i64 0, .int .i64 0, .int .i64 0] 49))
  have hg := H.cd.lt
  have c0 := fun y (hy : RdP bs y h g a c q st) => number_at ek y hy
  have HH := Lib.hid H
  have hne : g ≠ w.heap.size := by omega
  have g1 : (k == 1) = false := by simp; omega
  have g2 : (k == 2) = false := by simp; omega
  have g3 : (k == 3) = false := by simp; omega
  have g4 : (k == 4) = false := by simp; omega
  have g5 : (k == 5) = false := by simp; omega
  have g6 : (k == 6) = false := by simp; omega
  have g7 : (k == 7) = false := by simp; omega
  clear H hR ek
  go_enter Try.func73, Try.ntmps73
  go_wp2_with fail
  refine (c0 _ H0).mono ?_
  rintro e w1 ⟨rfl, H1, B1⟩
  go_upto_region 2 with (fail)
  have D := blk_new w1 #[.int .i64 k, .int .i64 0, .int .i64 0, .int .i64 0, .int .i64 0, .int .i64 0, .int .i64 0] 49
  have H2 := H1.old (tbel1 w1 (.cells #[.int .i64 k, .int .i64 0, .int .i64 0, .int .i64 0, .int .i64 0, .int .i64 0, .int .i64 0] 49))
  have B2 := But.trans B0 (But.trans B1 (But.of (g := g) (tbel1 w1 (.cells #[.int .i64 k, .int .i64 0, .int .i64 0, .int .i64 0, .int .i64 0, .int .i64 0, .int .i64 0] 49))))
  have R2 := (R.but B1 hne.symm).old (tbel1 w1 (.cells #[.int .i64 k, .int .i64 0, .int .i64 0, .int .i64 0, .int .i64 0, .int .i64 0, .int .i64 0] 49))
  have hb : w.heap.size + 1 ≤ w1.heap.size := by have := B1.size; simpa using this
  have hb2 : g ≠ w1.heap.size := by omega
  generalize w1.alloc _ = U at *
  generalize w1.heap.size = b3 at *
  clear R H0 B0 H1 B1 c0
  have hlt := D.lt
  obtain ⟨p0, p1, p2, p3, p4, p5, p6⟩ := D.seven
  have d0 := H2.ptr
  have cs := stop_any g a c bs.length q1 t1 U H2.cd
  go_upto_region 14 with (refine cs.mono ?_; rintro e V ⟨rfl, J0, B3⟩)
  have J := H2.but B3 H2.le J0
  have D3 := D.but B3 hb2.symm
  have S3 := R2.but B3 hne.symm
  have B4 := But.trans B2 B3
  clear p0 p1 p2 p3 p4 p5 p6 d0 cs
  obtain ⟨p0, p1, p2, p3, p4, p5, p6⟩ := D3.seven
  obtain ⟨r0, r1, r2, r3, r4, r5, r6⟩ := S3.seven_free
  obtain ⟨s0, s1, s2, s3, s4, s5, s6⟩ := S3.seven
  go_wp2
  rw [HR.out]
  refine bodyPost_ret (v := .agg #[.int .i64 k, .int .i64 0, .int .i64 0, .int .i64 0, .int .i64 0, .int .i64 0, .int .i64 0]) ?_ rfl ⟨rfl, HH.out.but (But.new7 B4 (Nat.le_refl _) _ _ _ _ _ _ _) J.le (J.cd.farc7 hne _ _ _ _ _ _ _), But.new7 B4 (Nat.le_refl _) _ _ _ _ _ _ _⟩
  exact results_cell_row Try.results73 _ _ _ 49 _ _ _ rfl (S3.set7j _ _ _ _ _ _ _) Try.underlying49 rfl info39
theorem item_any (bs : List Int) (h g : Nat) (a : Option Addr) (c q : Nat) (st : Bool) (w : World) (H : RdP bs w h g a c q st) :
    Calls Try.prog 73 #[.pointer (some ⟨h, 0, none⟩)] w fun e w' => e = .returned (itm (itemR bs q st).1) ∧ RdP bs w' h g a c (itemR bs q st).2.1 (itemR bs q st).2.2 ∧ But g w w' := by
  obtain ⟨⟨k, q1, t1⟩, e0⟩ : ∃ r, r = intR bs q st := ⟨_, rfl⟩
  by_cases hk : 1 ≤ k ∧ k ≤ 7
  · have hk' : k = 1 ∨ k = 2 ∨ k = 3 ∨ k = 4 ∨ k = 5 ∨ k = 6 ∨ k = 7 := by omega
    rcases hk' with rfl | rfl | rfl | rfl | rfl | rfl | rfl
    · exact item_1 bs h g a c q st w H e0
    · exact item_2 bs h g a c q st w H e0
    · exact item_3 bs h g a c q st w H e0
    · exact item_4 bs h g a c q st w H e0
    · exact item_5 bs h g a c q st w H e0
    · exact item_6 bs h g a c q st w H e0
    · exact item_7 bs h g a c q st w H e0
  · exact item_no bs h g a c q st w H e0 hk
end Go.Proofs.Ytjfjekncmejfpaa
