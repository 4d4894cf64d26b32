/- The document's reader of jobs: numbers, lengths, a bool. The document's reader of jobs: an item. -/
import Derived.Test.YtjfjekncmejfpaaRPt2
import Derived.Test.YtjfjekncmejfpaaXReadC
namespace Go.Proofs.Ytjfjekncmejfpaa
open Go.RowKit
set_option maxRecDepth 20000
set_option linter.unusedVariables false
set_option linter.unusedSimpArgs false

/-- The document's reader of jobs in block h: it names the document's reader of layer 6 in block g. -/
structure RdD (bs : List Int) (w : World) (h g : Nat) (a : Option Addr) (c q : Nat) (st : Bool) : Prop where
  le : q ≤ bs.length
  len : bs.length ≤ 1000000
  byt : Byt bs
  ne : h ≠ g
  lt : h < w.heap.size
  ptr : w.cell? ⟨h, 0, none⟩ = some (.pointer (some ⟨g, 0, none⟩))
  rd : RdAt w g a c bs.length q st
  row : Row w a c bs
section
variable {bs : List Int} {w w' : World} {h g : Nat} {a : Option Addr} {c q r : Nat} {st s : Bool}
theorem RdAt.farr {n : Nat} {p : Int} (H : RdAt w g a c n p st) {b : Nat} (hb : g ≠ b) (i : Nat) (v : Value) : RdAt (w.setCell ⟨b, i, none⟩ v) g a c n p st := (heap_setCell_other w ⟨b, i, none⟩ g v hb).trans H
theorem RdAt.oldr {n : Nat} {p : Int} (H : RdAt w g a c n p st) (hb : Below w.heap.size w w') : RdAt w' g a c n p st := H.below hb H.lt
theorem RdD.but (H : RdD bs w h g a c q st) (hb : But g w w') (hr : r ≤ bs.length) (hc : RdAt w' g a c bs.length r s) : RdD bs w' h g a c r s :=
  ⟨hr, H.len, H.byt, H.ne, Nat.lt_of_lt_of_le H.lt hb.size, (hb.cellN H.lt H.ne).trans H.ptr, hc, H.row.but H.rd hb⟩
theorem RdD.old (H : RdD bs w h g a c q st) (hb : Below w.heap.size w w') : RdD bs w' h g a c q st := H.but (But.of hb) H.le (H.rd.oldr hb)
end
theorem RdAt.farr7 {w : World} {g b c n : Nat} {a : Option Addr} {p : Int} {st : Bool} (H : RdAt w g a c n p st) (hb : g ≠ b) (v0 v1 v2 v3 v4 v5 v6 : Value) : RdAt (((((((w.setCell ⟨b, 0, none⟩ v0).setCell ⟨b, 1, none⟩ v1).setCell ⟨b, 2, none⟩ v2).setCell ⟨b, 3, none⟩ v3).setCell ⟨b, 4, none⟩ v4).setCell ⟨b, 5, none⟩ v5).setCell ⟨b, 6, none⟩ v6) g a c n p st :=
  ((((((H.farr hb 0 v0).farr hb 1 v1).farr hb 2 v2).farr hb 3 v3).farr hb 4 v4).farr hb 5 v5).farr hb 6 v6
theorem num_at {bs : List Int} {h g : Nat} {a : Option Addr} {c q : Nat} {st : Bool} {x : Int} {r : Nat} {s : Bool} (e : (x, r, s) = intR bs q st) (w : World) (H : RdD bs w h g a c q st) :
    Calls Try.prog 43 #[.pointer (some ⟨h, 0, none⟩)] w fun e w' => e = .returned (.int .i64 x) ∧ RdD bs w' h g a c r s ∧ But g w w' := by
  have ci := rint_any g a c bs q st H.le H.len H.byt w H.rd H.row
  have q0 := H.ptr
  have hle := (intR_le bs q st H.le H.byt).1
  rw [← e] at ci hle
  clear e
  go_enter Try.func43, Try.ntmps43
  go_wp2_with (refine ci.mono ?_; rintro e w1 ⟨rfl, R1, B1⟩)
  go_ret
  exact ⟨rfl, H.but B1 hle R1, B1⟩
theorem sp_at {bs : List Int} {h g : Nat} {a : Option Addr} {c q : Nat} {st : Bool} {x : Int} {r : Nat} {s : Bool} (e : (x, r, s) = intR bs q st) (w : World) (H : RdD bs w h g a c q st) :
    Calls Try.prog 44 #[.pointer (some ⟨h, 0, none⟩)] w fun e w' => e = .returned (.int .i64 x) ∧ RdD bs w' h g a c r s ∧ But g w w' := by
  have ci := rint_any g a c bs q st H.le H.len H.byt w H.rd H.row
  have q0 := H.ptr
  have hle := (intR_le bs q st H.le H.byt).1
  rw [← e] at ci hle
  clear e
  go_enter Try.func44, Try.ntmps44
  go_wp2_with (refine ci.mono ?_; rintro e w1 ⟨rfl, R1, B1⟩)
  go_ret
  exact ⟨rfl, H.but B1 hle R1, B1⟩
def opB : OpD := ⟨2, ⟨#[]⟩, 0, false, []⟩
theorem rflag_at {bs : List Int} {h g : Nat} {a : Option Addr} {c q : Nat} {st : Bool} {x : Int} {r : Nat} {s : Bool} (e : (x, r, s) = boolR bs q st) (w : World) (H : RdD bs w h g a c q st) :
    Calls Try.prog 65 #[.pointer (some ⟨h, 0, none⟩)] w fun e w' => e = .returned (.bool (x == 1)) ∧ RdD bs w' h g a c r s ∧ But g w w' := by
  have ci := rread_any g a c bs q st opB none 0 (by decide) H.le H.len H.byt w H.rd H.row
  have hv : readR bs q st opB = ([x], r, s) := by
    unfold readR opB
    rw [← e]
    rfl
  rw [hv] at ci
  have q0 := H.ptr
  have hle := (boolR_le bs q st H.le).1
  rw [← e] at hle
  clear e hv
  dsimp only at ci hle
  unfold opV opB at ci
  dsimp only at ci
  go_enter Try.func65, Try.ntmps65
  go_wp2_with fail
  refine ci.mono ?_
  rintro e w1 ⟨v, rfl, O1, R1, B1⟩
  obtain ⟨a1, k1, rfl, rk⟩ := O1.row
  obtain ⟨b1, o1, rfl, hb1, hc1⟩ := rk.2 0 (by simp)
  have hc2 : w1.cell? ⟨b1, o1, none⟩ = some (.int .i64 x) := by simpa using hc1
  have H1 := H.but B1 hle R1
  clear O1 rk hc1 ci
  have hlen : ([x] : List Int).length = 1 := rfl
  rw [hlen]
  go_wp2
  go_ret
  exact ⟨rfl, H1, B1⟩
end Go.Proofs.Ytjfjekncmejfpaa
namespace Go.Proofs.Ytjfjekncmejfpaa
open Go.RowKit
set_option maxRecDepth 20000
set_option linter.unusedVariables false
set_option linter.unusedSimpArgs false

set_option maxHeartbeats 1000000 in
theorem ritem17_1 (bs : List Int) (h g : Nat) (a : Option Addr) (c q : Nat) (st : Bool) (w : World) (H : RdD bs w h g a c q st) {q1 : Nat} {t1 : Bool} (ek : (1, q1, t1) = intR bs q st) :
    Calls Try.prog 41 #[.pointer (some ⟨h, 0, none⟩)] w fun e w' => e = .returned (itm (itemR bs q st).1) ∧ RdD bs w' h g a c (itemR bs q st).2.1 (itemR bs q st).2.2 ∧ But g w w' := by
  obtain ⟨⟨x1, q2, t2⟩, e1⟩ : ∃ r, r = intR bs q1 t1 := ⟨_, rfl⟩
  obtain ⟨⟨x2, q3, t3⟩, e2⟩ : ∃ r, r = intR bs q2 t2 := ⟨_, rfl⟩
  have hR : itemR bs q st = (⟨1, x1, x2, 0, 0, 0, 0⟩, q3, t3) := by
    have e9 : itemR bs q st = (itemOf (1, (kindR 1 bs q1 t1).1), (kindR 1 bs q1 t1).2) := by rw [item_two, ← ek]
    rw [e9, show kindR 1 = numsR 2 by simp [kindR]]
    simp only [nums_succ, nums_zero, ← e1, ← e2]
    rfl
  have HR := Lib.hid hR
  have R := blk_new w #[.int .i64 0, .int .i64 0, .int .i64 0, .int .i64 0, .int .i64 0, .int .i64 0, .int .i64 0] 49
  have H0 := H.old (tbel1 w (.cells #[.int .i64 0, .int .i64 0, .int .i64 0, .int .i64 0, .int .i64 0, .int .i64 0, .int .i64 0] 49))
  have B0 := But.of (g := g) (tbel1 w (.cells #[.int .i64 0, .int .i64 0, .int .i64 0, .int .i64 0, .int .i64 0, .int .i64 0, .int .i64 0] 49))
  have hg := H.rd.lt
  have c0 := fun y (hy : RdD bs y h g a c q st) => num_at ek y hy
  have c1 := fun y (hy : RdD bs y h g a c q1 t1) => sp_at e1 y hy
  have c2 := fun y (hy : RdD bs y h g a c q2 t2) => num_at e2 y hy
  have HH := Lib.hid H
  have hne : g ≠ w.heap.size := by omega
  clear H hR ek e1 e2
  go_enter Try.func41, Try.ntmps41
  go_wp2_with fail
  refine (c0 _ H0).mono ?_
  rintro e w1 ⟨rfl, H1, B1⟩
  go_upto_region 2 with (fail)
  have D := blk_new w1 #[.int .i64 1, .int .i64 0, .int .i64 0, .int .i64 0, .int .i64 0, .int .i64 0, .int .i64 0] 49
  have H2 := H1.old (tbel1 w1 (.cells #[.int .i64 1, .int .i64 0, .int .i64 0, .int .i64 0, .int .i64 0, .int .i64 0, .int .i64 0] 49))
  have B2 := But.trans B0 (But.trans B1 (But.of (g := g) (tbel1 w1 (.cells #[.int .i64 1, .int .i64 0, .int .i64 0, .int .i64 0, .int .i64 0, .int .i64 0, .int .i64 0] 49))))
  have R2 := (R.but B1 hne.symm).old (tbel1 w1 (.cells #[.int .i64 1, .int .i64 0, .int .i64 0, .int .i64 0, .int .i64 0, .int .i64 0, .int .i64 0] 49))
  have hb : w.heap.size + 1 ≤ w1.heap.size := by have := B1.size; simpa using this
  have hb2 : g ≠ w1.heap.size := by omega
  generalize w1.alloc _ = U at *
  generalize w1.heap.size = b3 at *
  clear R H0 B0 H1 B1 c0
  have hlt := D.lt
  obtain ⟨p0, p1, p2, p3, p4, p5, p6⟩ := D.seven
  go_wp2_with fail
  refine (c1 _ H2).mono ?_
  rintro e v1 ⟨rfl, J1, C1⟩
  have D1 := D.but C1 hb2.symm
  have S1 := R2.but C1 hne.symm
  have hl1 := D1.lt
  have B3 := But.trans B2 C1
  clear p0 p1 p2 p3 p4 p5 p6
  obtain ⟨p0, p1, p2, p3, p4, p5, p6⟩ := D1.seven
  have f := D1.free 1
  go_upto_region 6 with (fail)
  have E1 : Blk (v1.setCell ⟨b3, 1, none⟩ (.int .i64 x1)) b3 #[.int .i64 1, .int .i64 x1, .int .i64 0, .int .i64 0, .int .i64 0, .int .i64 0, .int .i64 0] 49 := D1.set 1 _
  have T1 := S1.other (b := b3) (by omega) 1 (.int .i64 x1)
  have K1 := B3.newc (b := b3) (by omega) 1 (.int .i64 x1)
  have I1 := HH.out.but K1 J1.le (J1.rd.farr hb2 1 (.int .i64 x1))
  generalize v1.setCell _ _ = u1 at *
  clear p0 p1 p2 p3 p4 p5 p6 f
  obtain ⟨p0, p1, p2, p3, p4, p5, p6⟩ := E1.seven
  go_wp2_with fail
  refine (c2 _ I1).mono ?_
  rintro e v2 ⟨rfl, J2, C2⟩
  have D2 := E1.but C2 hb2.symm
  have S2 := T1.but C2 hne.symm
  have hl2 := D2.lt
  have B4 := But.trans K1 C2
  clear p0 p1 p2 p3 p4 p5 p6
  obtain ⟨p0, p1, p2, p3, p4, p5, p6⟩ := D2.seven
  have f := D2.free 2
  go_upto_region 18 with (fail)
  have E2 : Blk (v2.setCell ⟨b3, 2, none⟩ (.int .i64 x2)) b3 #[.int .i64 1, .int .i64 x1, .int .i64 x2, .int .i64 0, .int .i64 0, .int .i64 0, .int .i64 0] 49 := D2.set 2 _
  have T2 := S2.other (b := b3) (by omega) 2 (.int .i64 x2)
  have K2 := B4.newc (b := b3) (by omega) 2 (.int .i64 x2)
  have I2 := HH.out.but K2 J2.le (J2.rd.farr hb2 2 (.int .i64 x2))
  generalize v2.setCell _ _ = u2 at *
  clear p0 p1 p2 p3 p4 p5 p6 f
  obtain ⟨p0, p1, p2, p3, p4, p5, p6⟩ := E2.seven
  obtain ⟨r0, r1, r2, r3, r4, r5, r6⟩ := T2.seven_free
  obtain ⟨s0, s1, s2, s3, s4, s5, s6⟩ := T2.seven
  go_wp2
  rw [HR.out]
  refine bodyPost_ret (v := .agg #[.int .i64 1, .int .i64 x1, .int .i64 x2, .int .i64 0, .int .i64 0, .int .i64 0, .int .i64 0]) ?_ rfl ⟨rfl, HH.out.but (But.new7 K2 (Nat.le_refl _) _ _ _ _ _ _ _) I2.le (I2.rd.farr7 hne _ _ _ _ _ _ _), But.new7 K2 (Nat.le_refl _) _ _ _ _ _ _ _⟩
  exact results_cell_row Try.results41 _ _ _ 49 _ _ _ rfl (T2.set7j _ _ _ _ _ _ _) Try.underlying49 rfl info39
set_option maxHeartbeats 1000000 in
theorem ritem17_2 (bs : List Int) (h g : Nat) (a : Option Addr) (c q : Nat) (st : Bool) (w : World) (H : RdD bs w h g a c q st) {q1 : Nat} {t1 : Bool} (ek : (2, q1, t1) = intR bs q st) :
    Calls Try.prog 41 #[.pointer (some ⟨h, 0, none⟩)] w fun e w' => e = .returned (itm (itemR bs q st).1) ∧ RdD bs w' h g a c (itemR bs q st).2.1 (itemR bs q st).2.2 ∧ But g w w' := by
  obtain ⟨⟨x1, q2, t2⟩, e1⟩ : ∃ r, r = intR bs q1 t1 := ⟨_, rfl⟩
  obtain ⟨⟨x2, q3, t3⟩, e2⟩ : ∃ r, r = intR bs q2 t2 := ⟨_, rfl⟩
  obtain ⟨⟨x3, q4, t4⟩, e3⟩ : ∃ r, r = intR bs q3 t3 := ⟨_, rfl⟩
  obtain ⟨⟨x4, q5, t5⟩, e4⟩ : ∃ r, r = intR bs q4 t4 := ⟨_, rfl⟩
  have hR : itemR bs q st = (⟨2, x1, 0, x2, x3, x4, 0⟩, q5, t5) := by
    have e9 : itemR bs q st = (itemOf (2, (kindR 2 bs q1 t1).1), (kindR 2 bs q1 t1).2) := by rw [item_two, ← ek]
    rw [e9, show kindR 2 = numsR 4 by simp [kindR]]
    simp only [nums_succ, nums_zero, ← e1, ← e2, ← e3, ← e4]
    rfl
  have HR := Lib.hid hR
  have R := blk_new w #[.int .i64 0, .int .i64 0, .int .i64 0, .int .i64 0, .int .i64 0, .int .i64 0, .int .i64 0] 49
  have H0 := H.old (tbel1 w (.cells #[.int .i64 0, .int .i64 0, .int .i64 0, .int .i64 0, .int .i64 0, .int .i64 0, .int .i64 0] 49))
  have B0 := But.of (g := g) (tbel1 w (.cells #[.int .i64 0, .int .i64 0, .int .i64 0, .int .i64 0, .int .i64 0, .int .i64 0, .int .i64 0] 49))
  have hg := H.rd.lt
  have c0 := fun y (hy : RdD bs y h g a c q st) => num_at ek y hy
  have c1 := fun y (hy : RdD bs y h g a c q1 t1) => sp_at e1 y hy
  have c2 := fun y (hy : RdD bs y h g a c q2 t2) => sp_at e2 y hy
  have c3 := fun y (hy : RdD bs y h g a c q3 t3) => num_at e3 y hy
  have c4 := fun y (hy : RdD bs y h g a c q4 t4) => sp_at e4 y hy
  have HH := Lib.hid H
  have hne : g ≠ w.heap.size := by omega
  clear H hR ek e1 e2 e3 e4
  go_enter Try.func41, Try.ntmps41
  go_wp2_with fail
  refine (c0 _ H0).mono ?_
  rintro e w1 ⟨rfl, H1, B1⟩
  go_upto_region 2 with (fail)
  have D := blk_new w1 #[.int .i64 2, .int .i64 0, .int .i64 0, .int .i64 0, .int .i64 0, .int .i64 0, .int .i64 0] 49
  have H2 := H1.old (tbel1 w1 (.cells #[.int .i64 2, .int .i64 0, .int .i64 0, .int .i64 0, .int .i64 0, .int .i64 0, .int .i64 0] 49))
  have B2 := But.trans B0 (But.trans B1 (But.of (g := g) (tbel1 w1 (.cells #[.int .i64 2, .int .i64 0, .int .i64 0, .int .i64 0, .int .i64 0, .int .i64 0, .int .i64 0] 49))))
  have R2 := (R.but B1 hne.symm).old (tbel1 w1 (.cells #[.int .i64 2, .int .i64 0, .int .i64 0, .int .i64 0, .int .i64 0, .int .i64 0, .int .i64 0] 49))
  have hb : w.heap.size + 1 ≤ w1.heap.size := by have := B1.size; simpa using this
  have hb2 : g ≠ w1.heap.size := by omega
  generalize w1.alloc _ = U at *
  generalize w1.heap.size = b3 at *
  clear R H0 B0 H1 B1 c0
  have hlt := D.lt
  obtain ⟨p0, p1, p2, p3, p4, p5, p6⟩ := D.seven
  go_wp2_with fail
  refine (c1 _ H2).mono ?_
  rintro e v1 ⟨rfl, J1, C1⟩
  have D1 := D.but C1 hb2.symm
  have S1 := R2.but C1 hne.symm
  have hl1 := D1.lt
  have B3 := But.trans B2 C1
  clear p0 p1 p2 p3 p4 p5 p6
  obtain ⟨p0, p1, p2, p3, p4, p5, p6⟩ := D1.seven
  have f := D1.free 1
  go_upto_region 9 with (fail)
  have E1 : Blk (v1.setCell ⟨b3, 1, none⟩ (.int .i64 x1)) b3 #[.int .i64 2, .int .i64 x1, .int .i64 0, .int .i64 0, .int .i64 0, .int .i64 0, .int .i64 0] 49 := D1.set 1 _
  have T1 := S1.other (b := b3) (by omega) 1 (.int .i64 x1)
  have K1 := B3.newc (b := b3) (by omega) 1 (.int .i64 x1)
  have I1 := HH.out.but K1 J1.le (J1.rd.farr hb2 1 (.int .i64 x1))
  generalize v1.setCell _ _ = u1 at *
  clear p0 p1 p2 p3 p4 p5 p6 f
  obtain ⟨p0, p1, p2, p3, p4, p5, p6⟩ := E1.seven
  go_wp2_with fail
  refine (c2 _ I1).mono ?_
  rintro e v2 ⟨rfl, J2, C2⟩
  have D2 := E1.but C2 hb2.symm
  have S2 := T1.but C2 hne.symm
  have hl2 := D2.lt
  have B4 := But.trans K1 C2
  clear p0 p1 p2 p3 p4 p5 p6
  obtain ⟨p0, p1, p2, p3, p4, p5, p6⟩ := D2.seven
  have f := D2.free 3
  go_upto_region 10 with (fail)
  have E2 : Blk (v2.setCell ⟨b3, 3, none⟩ (.int .i64 x2)) b3 #[.int .i64 2, .int .i64 x1, .int .i64 0, .int .i64 x2, .int .i64 0, .int .i64 0, .int .i64 0] 49 := D2.set 3 _
  have T2 := S2.other (b := b3) (by omega) 3 (.int .i64 x2)
  have K2 := B4.newc (b := b3) (by omega) 3 (.int .i64 x2)
  have I2 := HH.out.but K2 J2.le (J2.rd.farr hb2 3 (.int .i64 x2))
  generalize v2.setCell _ _ = u2 at *
  clear p0 p1 p2 p3 p4 p5 p6 f
  obtain ⟨p0, p1, p2, p3, p4, p5, p6⟩ := E2.seven
  go_wp2_with fail
  refine (c3 _ I2).mono ?_
  rintro e v3 ⟨rfl, J3, C3⟩
  have D3 := E2.but C3 hb2.symm
  have S3 := T2.but C3 hne.symm
  have hl3 := D3.lt
  have B5 := But.trans K2 C3
  clear p0 p1 p2 p3 p4 p5 p6
  obtain ⟨p0, p1, p2, p3, p4, p5, p6⟩ := D3.seven
  have f := D3.free 4
  go_upto_region 11 with (fail)
  have E3 : Blk (v3.setCell ⟨b3, 4, none⟩ (.int .i64 x3)) b3 #[.int .i64 2, .int .i64 x1, .int .i64 0, .int .i64 x2, .int .i64 x3, .int .i64 0, .int .i64 0] 49 := D3.set 4 _
  have T3 := S3.other (b := b3) (by omega) 4 (.int .i64 x3)
  have K3 := B5.newc (b := b3) (by omega) 4 (.int .i64 x3)
  have I3 := HH.out.but K3 J3.le (J3.rd.farr hb2 4 (.int .i64 x3))
  generalize v3.setCell _ _ = u3 at *
  clear p0 p1 p2 p3 p4 p5 p6 f
  obtain ⟨p0, p1, p2, p3, p4, p5, p6⟩ := E3.seven
  go_wp2_with fail
  refine (c4 _ I3).mono ?_
  rintro e v4 ⟨rfl, J4, C4⟩
  have D4 := E3.but C4 hb2.symm
  have S4 := T3.but C4 hne.symm
  have hl4 := D4.lt
  have B6 := But.trans K3 C4
  clear p0 p1 p2 p3 p4 p5 p6
  obtain ⟨p0, p1, p2, p3, p4, p5, p6⟩ := D4.seven
  have f := D4.free 5
  go_upto_region 18 with (fail)
  have E4 : Blk (v4.setCell ⟨b3, 5, none⟩ (.int .i64 x4)) b3 #[.int .i64 2, .int .i64 x1, .int .i64 0, .int .i64 x2, .int .i64 x3, .int .i64 x4, .int .i64 0] 49 := D4.set 5 _
  have T4 := S4.other (b := b3) (by omega) 5 (.int .i64 x4)
  have K4 := B6.newc (b := b3) (by omega) 5 (.int .i64 x4)
  have I4 := HH.out.but K4 J4.le (J4.rd.farr hb2 5 (.int .i64 x4))
  generalize v4.setCell _ _ = u4 at *
  clear p0 p1 p2 p3 p4 p5 p6 f
  obtain ⟨p0, p1, p2, p3, p4, p5, p6⟩ := E4.seven
  obtain ⟨r0, r1, r2, r3, r4, r5, r6⟩ := T4.seven_free
  obtain ⟨s0, s1, s2, s3, s4, s5, s6⟩ := T4.seven
  go_wp2
  rw [HR.out]
  refine bodyPost_ret (v := .agg #[.int .i64 2, .int .i64 x1, .int .i64 0, .int .i64 x2, .int .i64 x3, .int .i64 x4, .int .i64 0]) ?_ rfl ⟨rfl, HH.out.but (But.new7 K4 (Nat.le_refl _) _ _ _ _ _ _ _) I4.le (I4.rd.farr7 hne _ _ _ _ _ _ _), But.new7 K4 (Nat.le_refl _) _ _ _ _ _ _ _⟩
  exact results_cell_row Try.results41 _ _ _ 49 _ _ _ rfl (T4.set7j _ _ _ _ _ _ _) Try.underlying49 rfl info39
set_option maxHeartbeats 1000000 in
theorem ritem17_3 (bs : List Int) (h g : Nat) (a : Option Addr) (c q : Nat) (st : Bool) (w : World) (H : RdD bs w h g a c q st) {q1 : Nat} {t1 : Bool} (ek : (3, q1, t1) = intR bs q st) :
    Calls Try.prog 41 #[.pointer (some ⟨h, 0, none⟩)] w fun e w' => e = .returned (itm (itemR bs q st).1) ∧ RdD bs w' h g a c (itemR bs q st).2.1 (itemR bs q st).2.2 ∧ But g w w' := by
  obtain ⟨⟨x1, q2, t2⟩, e1⟩ : ∃ r, r = intR bs q1 t1 := ⟨_, rfl⟩
  have hR : itemR bs q st = (⟨3, 0, 0, 0, 0, 0, x1⟩, q2, t2) := by
    have e9 : itemR bs q st = (itemOf (3, (kindR 3 bs q1 t1).1), (kindR 3 bs q1 t1).2) := by rw [item_two, ← ek]
    rw [e9, show kindR 3 = numsR 1 by simp [kindR]]
    simp only [nums_succ, nums_zero, ← e1]
    rfl
  have HR := Lib.hid hR
  have R := blk_new w #[.int .i64 0, .int .i64 0, .int .i64 0, .int .i64 0, .int .i64 0, .int .i64 0, .int .i64 0] 49
  have H0 := H.old (tbel1 w (.cells #[.int .i64 0, .int .i64 0, .int .i64 0, .int .i64 0, .int .i64 0, .int .i64 0, .int .i64 0] 49))
  have B0 := But.of (g := g) (tbel1 w (.cells #[.int .i64 0, .int .i64 0, .int .i64 0, .int .i64 0, .int .i64 0, .int .i64 0, .int .i64 0] 49))
  have hg := H.rd.lt
  have c0 := fun y (hy : RdD bs y h g a c q st) => num_at ek y hy
  have c1 := fun y (hy : RdD bs y h g a c q1 t1) => num_at e1 y hy
  have HH := Lib.hid H
  have hne : g ≠ w.heap.size := by omega
  clear H hR ek e1
  go_enter Try.func41, Try.ntmps41
  go_wp2_with fail
  refine (c0 _ H0).mono ?_
  rintro e w1 ⟨rfl, H1, B1⟩
  go_upto_region 2 with (fail)
  have D := blk_new w1 #[.int .i64 3, .int .i64 0, .int .i64 0, .int .i64 0, .int .i64 0, .int .i64 0, .int .i64 0] 49
  have H2 := H1.old (tbel1 w1 (.cells #[.int .i64 3, .int .i64 0, .int .i64 0, .int .i64 0, .int .i64 0, .int .i64 0, .int .i64 0] 49))
  have B2 := But.trans B0 (But.trans B1 (But.of (g := g) (tbel1 w1 (.cells #[.int .i64 3, .int .i64 0, .int .i64 0, .int .i64 0, .int .i64 0, .int .i64 0, .int .i64 0] 49))))
  have R2 := (R.but B1 hne.symm).old (tbel1 w1 (.cells #[.int .i64 3, .int .i64 0, .int .i64 0, .int .i64 0, .int .i64 0, .int .i64 0, .int .i64 0] 49))
  have hb : w.heap.size + 1 ≤ w1.heap.size := by have := B1.size; simpa using this
  have hb2 : g ≠ w1.heap.size := by omega
  generalize w1.alloc _ = U at *
  generalize w1.heap.size = b3 at *
  clear R H0 B0 H1 B1 c0
  have hlt := D.lt
  obtain ⟨p0, p1, p2, p3, p4, p5, p6⟩ := D.seven
  go_wp2_with fail
  refine (c1 _ H2).mono ?_
  rintro e v1 ⟨rfl, J1, C1⟩
  have D1 := D.but C1 hb2.symm
  have S1 := R2.but C1 hne.symm
  have hl1 := D1.lt
  have B3 := But.trans B2 C1
  clear p0 p1 p2 p3 p4 p5 p6
  obtain ⟨p0, p1, p2, p3, p4, p5, p6⟩ := D1.seven
  have f := D1.free 6
  go_upto_region 18 with (fail)
  have E1 : Blk (v1.setCell ⟨b3, 6, none⟩ (.int .i64 x1)) b3 #[.int .i64 3, .int .i64 0, .int .i64 0, .int .i64 0, .int .i64 0, .int .i64 0, .int .i64 x1] 49 := D1.set 6 _
  have T1 := S1.other (b := b3) (by omega) 6 (.int .i64 x1)
  have K1 := B3.newc (b := b3) (by omega) 6 (.int .i64 x1)
  have I1 := HH.out.but K1 J1.le (J1.rd.farr hb2 6 (.int .i64 x1))
  generalize v1.setCell _ _ = u1 at *
  clear p0 p1 p2 p3 p4 p5 p6 f
  obtain ⟨p0, p1, p2, p3, p4, p5, p6⟩ := E1.seven
  obtain ⟨r0, r1, r2, r3, r4, r5, r6⟩ := T1.seven_free
  obtain ⟨s0, s1, s2, s3, s4, s5, s6⟩ := T1.seven
  go_wp2
  rw [HR.out]
  refine bodyPost_ret (v := .agg #[.int .i64 3, .int .i64 0, .int .i64 0, .int .i64 0, .int .i64 0, .int .i64 0, .int .i64 x1]) ?_ rfl ⟨rfl, HH.out.but (But.new7 K1 (Nat.le_refl _) _ _ _ _ _ _ _) I1.le (I1.rd.farr7 hne _ _ _ _ _ _ _), But.new7 K1 (Nat.le_refl _) _ _ _ _ _ _ _⟩
  exact results_cell_row Try.results41 _ _ _ 49 _ _ _ rfl (T1.set7j _ _ _ _ _ _ _) Try.underlying49 rfl info39
set_option maxHeartbeats 1000000 in
theorem ritem17_4 (bs : List Int) (h g : Nat) (a : Option Addr) (c q : Nat) (st : Bool) (w : World) (H : RdD bs w h g a c q st) {q1 : Nat} {t1 : Bool} (ek : (4, q1, t1) = intR bs q st) :
    Calls Try.prog 41 #[.pointer (some ⟨h, 0, none⟩)] w fun e w' => e = .returned (itm (itemR bs q st).1) ∧ RdD bs w' h g a c (itemR bs q st).2.1 (itemR bs q st).2.2 ∧ But g w w' := by
  obtain ⟨⟨x1, q2, t2⟩, e1⟩ : ∃ r, r = intR bs q1 t1 := ⟨_, rfl⟩
  have hR : itemR bs q st = (⟨4, 0, 0, 0, 0, 0, x1⟩, q2, t2) := by
    have e9 : itemR bs q st = (itemOf (4, (kindR 4 bs q1 t1).1), (kindR 4 bs q1 t1).2) := by rw [item_two, ← ek]
    rw [e9, show kindR 4 = numsR 1 by simp [kindR]]
    simp only [nums_succ, nums_zero, ← e1]
    rfl
  have HR := Lib.hid hR
  have R := blk_new w #[.int .i64 0, .int .i64 0, .int .i64 0, .int .i64 0, .int .i64 0, .int .i64 0, .int .i64 0] 49
  have H0 := H.old (tbel1 w (.cells #[.int .i64 0, .int .i64 0, .int .i64 0, .int .i64 0, .int .i64 0, .int .i64 0, .int .i64 0] 49))
  have B0 := But.of (g := g) (tbel1 w (.cells #[.int .i64 0, .int .i64 0, .int .i64 0, .int .i64 0, .int .i64 0, .int .i64 0, .int .i64 0] 49))
  have hg := H.rd.lt
  have c0 := fun y (hy : RdD bs y h g a c q st) => num_at ek y hy
  have c1 := fun y (hy : RdD bs y h g a c q1 t1) => num_at e1 y hy
  have HH := Lib.hid H
  have hne : g ≠ w.heap.size := by omega
  clear H hR ek e1
  go_enter Try.func41, Try.ntmps41
  go_wp2_with fail
  refine (c0 _ H0).mono ?_
  rintro e w1 ⟨rfl, H1, B1⟩
  go_upto_region 2 with (fail)
  have D := blk_new w1 #[.int .i64 4, .int .i64 0, .int .i64 0, .int .i64 0, .int .i64 0, .int .i64 0, .int .i64 0] 49
  have H2 := H1.old (tbel1 w1 (.cells #[.int .i64 4, .int .i64 0, .int .i64 0, .int .i64 0, .int .i64 0, .int .i64 0, .int .i64 0] 49))
  have B2 := But.trans B0 (But.trans B1 (But.of (g := g) (tbel1 w1 (.cells #[.int .i64 4, .int .i64 0, .int .i64 0, .int .i64 0, .int .i64 0, .int .i64 0, .int .i64 0] 49))))
  have R2 := (R.but B1 hne.symm).old (tbel1 w1 (.cells #[.int .i64 4, .int .i64 0, .int .i64 0, .int .i64 0, .int .i64 0, .int .i64 0, .int .i64 0] 49))
  have hb : w.heap.size + 1 ≤ w1.heap.size := by have := B1.size; simpa using this
  have hb2 : g ≠ w1.heap.size := by omega
  generalize w1.alloc _ = U at *
  generalize w1.heap.size = b3 at *
  clear R H0 B0 H1 B1 c0
  have hlt := D.lt
  obtain ⟨p0, p1, p2, p3, p4, p5, p6⟩ := D.seven
  go_wp2_with fail
  refine (c1 _ H2).mono ?_
  rintro e v1 ⟨rfl, J1, C1⟩
  have D1 := D.but C1 hb2.symm
  have S1 := R2.but C1 hne.symm
  have hl1 := D1.lt
  have B3 := But.trans B2 C1
  clear p0 p1 p2 p3 p4 p5 p6
  obtain ⟨p0, p1, p2, p3, p4, p5, p6⟩ := D1.seven
  have f := D1.free 6
  go_upto_region 18 with (fail)
  have E1 : Blk (v1.setCell ⟨b3, 6, none⟩ (.int .i64 x1)) b3 #[.int .i64 4, .int .i64 0, .int .i64 0, .int .i64 0, .int .i64 0, .int .i64 0, .int .i64 x1] 49 := D1.set 6 _
  have T1 := S1.other (b := b3) (by omega) 6 (.int .i64 x1)
  have K1 := B3.newc (b := b3) (by omega) 6 (.int .i64 x1)
  have I1 := HH.out.but K1 J1.le (J1.rd.farr hb2 6 (.int .i64 x1))
  generalize v1.setCell _ _ = u1 at *
  clear p0 p1 p2 p3 p4 p5 p6 f
  obtain ⟨p0, p1, p2, p3, p4, p5, p6⟩ := E1.seven
  obtain ⟨r0, r1, r2, r3, r4, r5, r6⟩ := T1.seven_free
  obtain ⟨s0, s1, s2, s3, s4, s5, s6⟩ := T1.seven
  go_wp2
  rw [HR.out]
  refine bodyPost_ret (v := .agg #[.int .i64 4, .int .i64 0, .int .i64 0, .int .i64 0, .int .i64 0, .int .i64 0, .int .i64 x1]) ?_ rfl ⟨rfl, HH.out.but (But.new7 K1 (Nat.le_refl _) _ _ _ _ _ _ _) I1.le (I1.rd.farr7 hne _ _ _ _ _ _ _), But.new7 K1 (Nat.le_refl _) _ _ _ _ _ _ _⟩
  exact results_cell_row Try.results41 _ _ _ 49 _ _ _ rfl (T1.set7j _ _ _ _ _ _ _) Try.underlying49 rfl info39
set_option maxHeartbeats 1000000 in
theorem ritem17_5 (bs : List Int) (h g : Nat) (a : Option Addr) (c q : Nat) (st : Bool) (w : World) (H : RdD bs w h g a c q st) {q1 : Nat} {t1 : Bool} (ek : (5, q1, t1) = intR bs q st) :
    Calls Try.prog 41 #[.pointer (some ⟨h, 0, none⟩)] w fun e w' => e = .returned (itm (itemR bs q st).1) ∧ RdD bs w' h g a c (itemR bs q st).2.1 (itemR bs q st).2.2 ∧ But g w w' := by
  obtain ⟨⟨x1, q2, t2⟩, e1⟩ : ∃ r, r = intR bs q1 t1 := ⟨_, rfl⟩
  have hR : itemR bs q st = (⟨5, 0, 0, 0, 0, 0, x1⟩, q2, t2) := by
    have e9 : itemR bs q st = (itemOf (5, (kindR 5 bs q1 t1).1), (kindR 5 bs q1 t1).2) := by rw [item_two, ← ek]
    rw [e9, show kindR 5 = numsR 1 by simp [kindR]]
    simp only [nums_succ, nums_zero, ← e1]
    rfl
  have HR := Lib.hid hR
  have R := blk_new w #[.int .i64 0, .int .i64 0, .int .i64 0, .int .i64 0, .int .i64 0, .int .i64 0, .int .i64 0] 49
  have H0 := H.old (tbel1 w (.cells #[.int .i64 0, .int .i64 0, .int .i64 0, .int .i64 0, .int .i64 0, .int .i64 0, .int .i64 0] 49))
  have B0 := But.of (g := g) (tbel1 w (.cells #[.int .i64 0, .int .i64 0, .int .i64 0, .int .i64 0, .int .i64 0, .int .i64 0, .int .i64 0] 49))
  have hg := H.rd.lt
  have c0 := fun y (hy : RdD bs y h g a c q st) => num_at ek y hy
  have c1 := fun y (hy : RdD bs y h g a c q1 t1) => num_at e1 y hy
  have HH := Lib.hid H
  have hne : g ≠ w.heap.size := by omega
  clear H hR ek e1
  go_enter Try.func41, Try.ntmps41
  go_wp2_with fail
  refine (c0 _ H0).mono ?_
  rintro e w1 ⟨rfl, H1, B1⟩
  go_upto_region 2 with (fail)
  have D := blk_new w1 #[.int .i64 5, .int .i64 0, .int .i64 0, .int .i64 0, .int .i64 0, .int .i64 0, .int .i64 0] 49
  have H2 := H1.old (tbel1 w1 (.cells #[.int .i64 5, .int .i64 0, .int .i64 0, .int .i64 0, .int .i64 0, .int .i64 0, .int .i64 0] 49))
  have B2 := But.trans B0 (But.trans B1 (But.of (g := g) (tbel1 w1 (.cells #[.int .i64 5, .int .i64 0, .int .i64 0, .int .i64 0, .int .i64 0, .int .i64 0, .int .i64 0] 49))))
  have R2 := (R.but B1 hne.symm).old (tbel1 w1 (.cells #[.int .i64 5, .int .i64 0, .int .i64 0, .int .i64 0, .int .i64 0, .int .i64 0, .int .i64 0] 49))
  have hb : w.heap.size + 1 ≤ w1.heap.size := by have := B1.size; simpa using this
  have hb2 : g ≠ w1.heap.size := by omega
  generalize w1.alloc _ = U at *
  generalize w1.heap.size = b3 at *
  clear R H0 B0 H1 B1 c0
  have hlt := D.lt
  obtain ⟨p0, p1, p2, p3, p4, p5, p6⟩ := D.seven
  go_wp2_with fail
  refine (c1 _ H2).mono ?_
  rintro e v1 ⟨rfl, J1, C1⟩
  have D1 := D.but C1 hb2.symm
  have S1 := R2.but C1 hne.symm
  have hl1 := D1.lt
  have B3 := But.trans B2 C1
  clear p0 p1 p2 p3 p4 p5 p6
  obtain ⟨p0, p1, p2, p3, p4, p5, p6⟩ := D1.seven
  have f := D1.free 6
  go_upto_region 18 with (fail)
  have E1 : Blk (v1.setCell ⟨b3, 6, none⟩ (.int .i64 x1)) b3 #[.int .i64 5, .int .i64 0, .int .i64 0, .int .i64 0, .int .i64 0, .int .i64 0, .int .i64 x1] 49 := D1.set 6 _
  have T1 := S1.other (b := b3) (by omega) 6 (.int .i64 x1)
  have K1 := B3.newc (b := b3) (by omega) 6 (.int .i64 x1)
  have I1 := HH.out.but K1 J1.le (J1.rd.farr hb2 6 (.int .i64 x1))
  generalize v1.setCell _ _ = u1 at *
  clear p0 p1 p2 p3 p4 p5 p6 f
  obtain ⟨p0, p1, p2, p3, p4, p5, p6⟩ := E1.seven
  obtain ⟨r0, r1, r2, r3, r4, r5, r6⟩ := T1.seven_free
  obtain ⟨s0, s1, s2, s3, s4, s5, s6⟩ := T1.seven
  go_wp2
  rw [HR.out]
  refine bodyPost_ret (v := .agg #[.int .i64 5, .int .i64 0, .int .i64 0, .int .i64 0, .int .i64 0, .int .i64 0, .int .i64 x1]) ?_ rfl ⟨rfl, HH.out.but (But.new7 K1 (Nat.le_refl _) _ _ _ _ _ _ _) I1.le (I1.rd.farr7 hne _ _ _ _ _ _ _), But.new7 K1 (Nat.le_refl _) _ _ _ _ _ _ _⟩
  exact results_cell_row Try.results41 _ _ _ 49 _ _ _ rfl (T1.set7j _ _ _ _ _ _ _) Try.underlying49 rfl info39
set_option maxHeartbeats 1000000 in
theorem ritem17_6 (bs : List Int) (h g : Nat) (a : Option Addr) (c q : Nat) (st : Bool) (w : World) (H : RdD bs w h g a c q st) {q1 : Nat} {t1 : Bool} (ek : (6, q1, t1) = intR bs q st) :
    Calls Try.prog 41 #[.pointer (some ⟨h, 0, none⟩)] w fun e w' => e = .returned (itm (itemR bs q st).1) ∧ RdD bs w' h g a c (itemR bs q st).2.1 (itemR bs q st).2.2 ∧ But g w w' := by
  obtain ⟨⟨x1, q2, t2⟩, e1⟩ : ∃ r, r = intR bs q1 t1 := ⟨_, rfl⟩
  have hR : itemR bs q st = (⟨6, 0, 0, 0, 0, 0, x1⟩, q2, t2) := by
    have e9 : itemR bs q st = (itemOf (6, (kindR 6 bs q1 t1).1), (kindR 6 bs q1 t1).2) := by rw [item_two, ← ek]
    rw [e9, show kindR 6 = numsR 1 by simp [kindR]]
    simp only [nums_succ, nums_zero, ← e1]
    rfl
  have HR := Lib.hid hR
  have R := blk_new w #[.int .i64 0, .int .i64 0, .int .i64 0, .int .i64 0, .int .i64 0, .int .i64 0, .int .i64 0] 49
  have H0 := H.old (tbel1 w (.cells #[.int .i64 0, .int .i64 0, .int .i64 0, .int .i64 0, .int .i64 0, .int .i64 0, .int .i64 0] 49))
  have B0 := But.of (g := g) (tbel1 w (.cells #[.int .i64 0, .int .i64 0, .int .i64 0, .int .i64 0, .int .i64 0, .int .i64 0, .int .i64 0] 49))
  have hg := H.rd.lt
  have c0 := fun y (hy : RdD bs y h g a c q st) => num_at ek y hy
  have c1 := fun y (hy : RdD bs y h g a c q1 t1) => num_at e1 y hy
  have HH := Lib.hid H
  have hne : g ≠ w.heap.size := by omega
  clear H hR ek e1
  go_enter Try.func41, Try.ntmps41
  go_wp2_with fail
  refine (c0 _ H0).mono ?_
  rintro e w1 ⟨rfl, H1, B1⟩
  go_upto_region 2 with (fail)
  have D := blk_new w1 #[.int .i64 6, .int .i64 0, .int .i64 0, .int .i64 0, .int .i64 0, .int .i64 0, .int .i64 0] 49
  have H2 := H1.old (tbel1 w1 (.cells #[.int .i64 6, .int .i64 0, .int .i64 0, .int .i64 0, .int .i64 0, .int .i64 0, .int .i64 0] 49))
  have B2 := But.trans B0 (But.trans B1 (But.of (g := g) (tbel1 w1 (.cells #[.int .i64 6, .int .i64 0, .int .i64 0, .int .i64 0, .int .i64 0, .int .i64 0, .int .i64 0] 49))))
  have R2 := (R.but B1 hne.symm).old (tbel1 w1 (.cells #[.int .i64 6, .int .i64 0, .int .i64 0, .int .i64 0, .int .i64 0, .int .i64 0, .int .i64 0] 49))
  have hb : w.heap.size + 1 ≤ w1.heap.size := by have := B1.size; simpa using this
  have hb2 : g ≠ w1.heap.size := by omega
  generalize w1.alloc _ = U at *
  generalize w1.heap.size = b3 at *
  clear R H0 B0 H1 B1 c0
  have hlt := D.lt
  obtain ⟨p0, p1, p2, p3, p4, p5, p6⟩ := D.seven
  go_wp2_with fail
  refine (c1 _ H2).mono ?_
  rintro e v1 ⟨rfl, J1, C1⟩
  have D1 := D.but C1 hb2.symm
  have S1 := R2.but C1 hne.symm
  have hl1 := D1.lt
  have B3 := But.trans B2 C1
  clear p0 p1 p2 p3 p4 p5 p6
  obtain ⟨p0, p1, p2, p3, p4, p5, p6⟩ := D1.seven
  have f := D1.free 6
  go_upto_region 18 with (fail)
  have E1 : Blk (v1.setCell ⟨b3, 6, none⟩ (.int .i64 x1)) b3 #[.int .i64 6, .int .i64 0, .int .i64 0, .int .i64 0, .int .i64 0, .int .i64 0, .int .i64 x1] 49 := D1.set 6 _
  have T1 := S1.other (b := b3) (by omega) 6 (.int .i64 x1)
  have K1 := B3.newc (b := b3) (by omega) 6 (.int .i64 x1)
  have I1 := HH.out.but K1 J1.le (J1.rd.farr hb2 6 (.int .i64 x1))
  generalize v1.setCell _ _ = u1 at *
  clear p0 p1 p2 p3 p4 p5 p6 f
  obtain ⟨p0, p1, p2, p3, p4, p5, p6⟩ := E1.seven
  obtain ⟨r0, r1, r2, r3, r4, r5, r6⟩ := T1.seven_free
  obtain ⟨s0, s1, s2, s3, s4, s5, s6⟩ := T1.seven
  go_wp2
  rw [HR.out]
  refine bodyPost_ret (v := .agg #[.int .i64 6, .int .i64 0, .int .i64 0, .int .i64 0, .int .i64 0, .int .i64 0, .int .i64 x1]) ?_ rfl ⟨rfl, HH.out.but (But.new7 K1 (Nat.le_refl _) _ _ _ _ _ _ _) I1.le (I1.rd.farr7 hne _ _ _ _ _ _ _), But.new7 K1 (Nat.le_refl _) _ _ _ _ _ _ _⟩
  exact results_cell_row Try.results41 _ _ _ 49 _ _ _ rfl (T1.set7j _ _ _ _ _ _ _) Try.underlying49 rfl info39
set_option maxHeartbeats 1000000 in
theorem ritem17_7 (bs : List Int) (h g : Nat) (a : Option Addr) (c q : Nat) (st : Bool) (w : World) (H : RdD bs w h g a c q st) {q1 : Nat} {t1 : Bool} (ek : (7, q1, t1) = intR bs q st) :
    Calls Try.prog 41 #[.pointer (some ⟨h, 0, none⟩)] w fun e w' => e = .returned (itm (itemR bs q st).1) ∧ RdD bs w' h g a c (itemR bs q st).2.1 (itemR bs q st).2.2 ∧ But g w w' := by
  have hR : itemR bs q st = (⟨7, 0, 0, 0, 0, 0, 0⟩, q1, t1) := by
    have e9 : itemR bs q st = (itemOf (7, (kindR 7 bs q1 t1).1), (kindR 7 bs q1 t1).2) := by rw [item_two, ← ek]
    rw [e9, show kindR 7 = numsR 0 by simp [kindR]]
    simp only [nums_succ, nums_zero]
    rfl
  have HR := Lib.hid hR
  have R := blk_new w #[.int .i64 0, .int .i64 0, .int .i64 0, .int .i64 0, .int .i64 0, .int .i64 0, .int .i64 0] 49
  have H0 := H.old (tbel1 w (.cells #[.int .i64 0, .int .i64 0, .int .i64 0, .int .i64 0, .int .i64 0, .int .i64 0, .int .i64 0] 49))
  have B0 := But.of (g := g) (tbel1 w (.cells #[.int .i64 0, .int .i64 0, .int .i64 0, .int .i64 0, .int .i64 0, .int .i64 0, .int .i64 0] 49))
  have hg := H.rd.lt
  have c0 := fun y (hy : RdD bs y h g a c q st) => num_at ek y hy
  have HH := Lib.hid H
  have hne : g ≠ w.heap.size := by omega
  clear H hR ek
  go_enter Try.func41, Try.ntmps41
  go_wp2_with fail
  refine (c0 _ H0).mono ?_
  rintro e w1 ⟨rfl, H1, B1⟩
  go_upto_region 2 with (fail)
  have D := blk_new w1 #[.int .i64 7, .int .i64 0, .int .i64 0, .int .i64 0, .int .i64 0, .int .i64 0, .int .i64 0] 49
  have H2 := H1.old (tbel1 w1 (.cells #[.int .i64 7, .int .i64 0, .int .i64 0, .int .i64 0, .int .i64 0, .int .i64 0, .int .i64 0] 49))
  have B2 := But.trans B0 (But.trans B1 (But.of (g := g) (tbel1 w1 (.cells #[.int .i64 7, .int .i64 0, .int .i64 0, .int .i64 0, .int .i64 0, .int .i64 0, .int .i64 0] 49))))
  have R2 := (R.but B1 hne.symm).old (tbel1 w1 (.cells #[.int .i64 7, .int .i64 0, .int .i64 0, .int .i64 0, .int .i64 0, .int .i64 0, .int .i64 0] 49))
  have hb : w.heap.size + 1 ≤ w1.heap.size := by have := B1.size; simpa using this
  have hb2 : g ≠ w1.heap.size := by omega
  generalize w1.alloc _ = U at *
  generalize w1.heap.size = b3 at *
  clear R H0 B0 H1 B1 c0
  have hlt := D.lt
  obtain ⟨p0, p1, p2, p3, p4, p5, p6⟩ := D.seven
  obtain ⟨r0, r1, r2, r3, r4, r5, r6⟩ := R2.seven_free
  obtain ⟨s0, s1, s2, s3, s4, s5, s6⟩ := R2.seven
  go_wp2
  rw [HR.out]
  refine bodyPost_ret (v := .agg #[.int .i64 7, .int .i64 0, .int .i64 0, .int .i64 0, .int .i64 0, .int .i64 0, .int .i64 0]) ?_ rfl ⟨rfl, HH.out.but (But.new7 B2 (Nat.le_refl _) _ _ _ _ _ _ _) H2.le (H2.rd.farr7 hne _ _ _ _ _ _ _), But.new7 B2 (Nat.le_refl _) _ _ _ _ _ _ _⟩
  exact results_cell_row Try.results41 _ _ _ 49 _ _ _ rfl (R2.set7j _ _ _ _ _ _ _) Try.underlying49 rfl info39
set_option maxHeartbeats 1000000 in
theorem ritem17_no (bs : List Int) (h g : Nat) (a : Option Addr) (c q : Nat) (st : Bool) (w : World) (H : RdD bs w h g a c q st) {k : Int} {q1 : Nat} {t1 : Bool} (ek : (k, q1, t1) = intR bs q st) (hk : ¬ (1 ≤ k ∧ k ≤ 7)) :
    Calls Try.prog 41 #[.pointer (some ⟨h, 0, none⟩)] w fun e w' => e = .returned (itm (itemR bs q st).1) ∧ RdD bs w' h g a c (itemR bs q st).2.1 (itemR bs q st).2.2 ∧ But g w w' := by
  have hR : itemR bs q st = (⟨k, 0, 0, 0, 0, 0, 0⟩, q1, true) := by
    simp only [itemR, mapR, thenR, ← ek, kindR, itemOf, if_neg (show ¬ k = 1 by omega), if_neg (show ¬ k = 2 by omega), if_neg (show ¬ (3 ≤ k ∧ k ≤ 6) by omega), if_neg (show ¬ k = 7 by omega), failR]
  have HR := Lib.hid hR
  have R := blk_new w #[.int .i64 0, .int .i64 0, .int .i64 0, .int .i64 0, .int .i64 0, .int .i64 0, .int .i64 0] 49
  have H0 := H.old (tbel1 w (.cells #[.int .i64 0, .int .i64 0, .int .i64 0, .int .i64 0, .int .i64 0, .int .i64 0, .int .i64 0] 49))
  have B0 := But.of (g := g) (tbel1 w (.cells #[.int .i64 0, .int .i64 0, .int .i64 0, .int .i64 0, .int .i64 0, .int .i64 0, .int .i64 0] 49))
  have hg := H.rd.lt
  have c0 := fun y (hy : RdD bs y h g a c q st) => num_at ek y hy
  have HH := Lib.hid H
  have hne : g ≠ w.heap.size := by omega
  have g1 : (k == 1) = false := by simp; omega
  have g2 : (k == 2) = false := by simp; omega
  have g3 : (k == 3) = false := by simp; omega
  have g4 : (k == 4) = false := by simp; omega
  have g5 : (k == 5) = false := by simp; omega
  have g6 : (k == 6) = false := by simp; omega
  have g7 : (k == 7) = false := by simp; omega
  clear H hR ek
  go_enter Try.func41, Try.ntmps41
  go_wp2_with fail
  refine (c0 _ H0).mono ?_
  rintro e w1 ⟨rfl, H1, B1⟩
  go_upto_region 2 with (fail)
  have D := blk_new w1 #[.int .i64 k, .int .i64 0, .int .i64 0, .int .i64 0, .int .i64 0, .int .i64 0, .int .i64 0] 49
  have H2 := H1.old (tbel1 w1 (.cells #[.int .i64 k, .int .i64 0, .int .i64 0, .int .i64 0, .int .i64 0, .int .i64 0, .int .i64 0] 49))
  have B2 := But.trans B0 (But.trans B1 (But.of (g := g) (tbel1 w1 (.cells #[.int .i64 k, .int .i64 0, .int .i64 0, .int .i64 0, .int .i64 0, .int .i64 0, .int .i64 0] 49))))
  have R2 := (R.but B1 hne.symm).old (tbel1 w1 (.cells #[.int .i64 k, .int .i64 0, .int .i64 0, .int .i64 0, .int .i64 0, .int .i64 0, .int .i64 0] 49))
  have hb : w.heap.size + 1 ≤ w1.heap.size := by have := B1.size; simpa using this
  have hb2 : g ≠ w1.heap.size := by omega
  generalize w1.alloc _ = U at *
  generalize w1.heap.size = b3 at *
  clear R H0 B0 H1 B1 c0
  have hlt := D.lt
  obtain ⟨p0, p1, p2, p3, p4, p5, p6⟩ := D.seven
  have d0 := H2.ptr
  have d2 := H2.rd.c2
  have d3 := H2.rd.fr 2
  go_upto_region 18 with (fail)
  have B3 := (But.refl g U).set 2 (.bool true)
  have J := H2.but B3 H2.le (H2.rd.set2 true)
  have D3 := D.but B3 hb2.symm
  have S3 := R2.but B3 hne.symm
  have B4 := But.trans B2 B3
  generalize U.setCell _ _ = V at *
  clear p0 p1 p2 p3 p4 p5 p6 d0 d2 d3
  obtain ⟨p0, p1, p2, p3, p4, p5, p6⟩ := D3.seven
  obtain ⟨r0, r1, r2, r3, r4, r5, r6⟩ := S3.seven_free
  obtain ⟨s0, s1, s2, s3, s4, s5, s6⟩ := S3.seven
  go_wp2
  rw [HR.out]
  refine bodyPost_ret (v := .agg #[.int .i64 k, .int .i64 0, .int .i64 0, .int .i64 0, .int .i64 0, .int .i64 0, .int .i64 0]) ?_ rfl ⟨rfl, HH.out.but (But.new7 B4 (Nat.le_refl _) _ _ _ _ _ _ _) J.le (J.rd.farr7 hne _ _ _ _ _ _ _), But.new7 B4 (Nat.le_refl _) _ _ _ _ _ _ _⟩
  exact results_cell_row Try.results41 _ _ _ 49 _ _ _ rfl (S3.set7j _ _ _ _ _ _ _) Try.underlying49 rfl info39
theorem ritem17_any (bs : List Int) (h g : Nat) (a : Option Addr) (c q : Nat) (st : Bool) (w : World) (H : RdD bs w h g a c q st) :
    Calls Try.prog 41 #[.pointer (some ⟨h, 0, none⟩)] w fun e w' => e = .returned (itm (itemR bs q st).1) ∧ RdD bs w' h g a c (itemR bs q st).2.1 (itemR bs q st).2.2 ∧ But g w w' := by
  obtain ⟨⟨k, q1, t1⟩, e0⟩ : ∃ r, r = intR bs q st := ⟨_, rfl⟩
  by_cases hk : 1 ≤ k ∧ k ≤ 7
  · have hk' : k = 1 ∨ k = 2 ∨ k = 3 ∨ k = 4 ∨ k = 5 ∨ k = 6 ∨ k = 7 := by omega
    rcases hk' with rfl | rfl | rfl | rfl | rfl | rfl | rfl
    · exact ritem17_1 bs h g a c q st w H e0
    · exact ritem17_2 bs h g a c q st w H e0
    · exact ritem17_3 bs h g a c q st w H e0
    · exact ritem17_4 bs h g a c q st w H e0
    · exact ritem17_5 bs h g a c q st w H e0
    · exact ritem17_6 bs h g a c q st w H e0
    · exact ritem17_7 bs h g a c q st w H e0
  · exact ritem17_no bs h g a c q st w H e0 hk
end Go.Proofs.Ytjfjekncmejfpaa
