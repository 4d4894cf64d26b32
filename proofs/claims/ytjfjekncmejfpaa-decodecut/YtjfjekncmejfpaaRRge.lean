/- The document's reader of jobs: a geometry. -/
import Derived.Test.YtjfjekncmejfpaaRRit
namespace Go.Proofs.Ytjfjekncmejfpaa
open Go.RowKit
set_option maxRecDepth 20000
set_option linter.unusedVariables false
set_option linter.unusedSimpArgs false

theorem But.newRow {g b : Nat} {w x : World} (hb : But g w x) (hl : w.heap.size ≤ b) (cs : Array Value) : But g w (x.setRow b cs) :=
  ⟨hb.os, hb.tape, hb.output, by simpa using hb.size, fun j hj hn => (setRow_other x b j cs (by omega)).trans (hb.block j hj hn)⟩
theorem RdAt.farRow {w : World} {g b c n : Nat} {a : Option Addr} {p : Int} {st : Bool} (H : RdAt w g a c n p st) (hb : g ≠ b) (cs : Array Value) : RdAt (w.setRow b cs) g a c n p st := (setRow_other w b g cs hb).trans H
theorem GeoAt.but {w w' : World} {b g : Nat} {G : G19} (H : GeoAt w b G) (hb : But g w w') (hn : b ≠ g) : GeoAt w' b G := Blk.but H hb hn
theorem GeoAt.other {w : World} {b d : Nat} {G : G19} (H : GeoAt w b G) (hb : b ≠ d) (i : Nat) (v : Value) : GeoAt (w.setCell ⟨d, i, none⟩ v) b G := Blk.other H hb i v
theorem GeoAt.put0 {w : World} {b : Nat} {G : G19} (H : GeoAt w b G) (y : Int) : GeoAt (w.setCell ⟨b, 0, none⟩ (.int .i64 y)) b { G with cols := y } := Blk.set H 0 _
theorem GeoAt.put1 {w : World} {b : Nat} {G : G19} (H : GeoAt w b G) (y : Int) : GeoAt (w.setCell ⟨b, 1, none⟩ (.int .i64 y)) b { G with wide := y } := Blk.set H 1 _
theorem GeoAt.put2 {w : World} {b : Nat} {G : G19} (H : GeoAt w b G) (y : Int) : GeoAt (w.setCell ⟨b, 2, none⟩ (.int .i64 y)) b { G with gap := y } := Blk.set H 2 _
theorem GeoAt.put3 {w : World} {b : Nat} {G : G19} (H : GeoAt w b G) (y : Int) : GeoAt (w.setCell ⟨b, 3, none⟩ (.int .i64 y)) b { G with high := y } := Blk.set H 3 _
theorem GeoAt.put4 {w : World} {b : Nat} {G : G19} (H : GeoAt w b G) (y : Int) : GeoAt (w.setCell ⟨b, 4, none⟩ (.int .i64 y)) b { G with first := y } := Blk.set H 4 _
theorem GeoAt.put5 {w : World} {b : Nat} {G : G19} (H : GeoAt w b G) (y : Int) : GeoAt (w.setCell ⟨b, 5, none⟩ (.int .i64 y)) b { G with grid := y } := Blk.set H 5 _
theorem GeoAt.put6 {w : World} {b : Nat} {G : G19} (H : GeoAt w b G) (y : Int) : GeoAt (w.setCell ⟨b, 6, none⟩ (.int .i64 y)) b { G with rule := y } := Blk.set H 6 _
theorem GeoAt.put7 {w : World} {b : Nat} {G : G19} (H : GeoAt w b G) (y : Int) : GeoAt (w.setCell ⟨b, 7, none⟩ (.int .i64 y)) b { G with sep := y } := Blk.set H 7 _
theorem GeoAt.put8 {w : World} {b : Nat} {G : G19} (H : GeoAt w b G) (y : Int) : GeoAt (w.setCell ⟨b, 8, none⟩ (.int .i64 y)) b { G with nmost := y } := Blk.set H 8 _
theorem GeoAt.put9 {w : World} {b : Nat} {G : G19} (H : GeoAt w b G) (y : Int) : GeoAt (w.setCell ⟨b, 9, none⟩ (.int .i64 y)) b { G with tmost := y } := Blk.set H 9 _
theorem GeoAt.put10 {w : World} {b : Nat} {G : G19} (H : GeoAt w b G) (y : Int) : GeoAt (w.setCell ⟨b, 10, none⟩ (.int .i64 y)) b { G with bmost := y } := Blk.set H 10 _
theorem GeoAt.put11 {w : World} {b : Nat} {G : G19} (H : GeoAt w b G) (y : Int) : GeoAt (w.setCell ⟨b, 11, none⟩ (.int .i64 y)) b { G with tmany := y } := Blk.set H 11 _
theorem GeoAt.put12 {w : World} {b : Nat} {G : G19} (H : GeoAt w b G) (y : Int) : GeoAt (w.setCell ⟨b, 12, none⟩ (.int .i64 y)) b { G with bmany := y } := Blk.set H 12 _
theorem GeoAt.put13 {w : World} {b : Nat} {G : G19} (H : GeoAt w b G) (y : Int) : GeoAt (w.setCell ⟨b, 13, none⟩ (.int .i64 y)) b { G with club := y } := Blk.set H 13 _
theorem GeoAt.put14 {w : World} {b : Nat} {G : G19} (H : GeoAt w b G) (y : Int) : GeoAt (w.setCell ⟨b, 14, none⟩ (.int .i64 y)) b { G with widow := y } := Blk.set H 14 _
theorem GeoAt.put15 {w : World} {b : Nat} {G : G19} (H : GeoAt w b G) (y : Int) : GeoAt (w.setCell ⟨b, 15, none⟩ (.int .i64 y)) b { G with split := y } := Blk.set H 15 _
theorem GeoAt.put16 {w : World} {b : Nat} {G : G19} (H : GeoAt w b G) (y : Int) : GeoAt (w.setCell ⟨b, 16, none⟩ (.int .i64 y)) b { G with later := y } := Blk.set H 16 _
theorem GeoAt.put17 {w : World} {b : Nat} {G : G19} (H : GeoAt w b G) (y : Int) : GeoAt (w.setCell ⟨b, 17, none⟩ (.int .i64 y)) b { G with spare := y } := Blk.set H 17 _
theorem GeoAt.put18 {w : World} {b : Nat} {G : G19} (H : GeoAt w b G) (y : Bool) : GeoAt (w.setCell ⟨b, 18, none⟩ (.bool y)) b { G with bal := y } := Blk.set H 18 _
theorem GeoAt.free {w : World} {b : Nat} {G : G19} (H : GeoAt w b G) (i : Nat) : w.frozen? ⟨b, i, none⟩ = false := Blk.free H i
set_option maxHeartbeats 8000000 in
theorem rgeom_any (bs : List Int) (h g : Nat) (a : Option Addr) (c q : Nat) (st : Bool) (w : World) (H : RdD bs w h g a c q st) :
    Calls Try.prog 39 #[.pointer (some ⟨h, 0, none⟩)] w fun e w' => e = .returned (.agg (geoC (geomR bs q st).1)) ∧ RdD bs w' h g a c (geomR bs q st).2.1 (geomR bs q st).2.2 ∧ But g w w' := by
  obtain ⟨⟨x0, q1, t1⟩, e0⟩ : ∃ r, r = intR bs q st := ⟨_, rfl⟩
  obtain ⟨⟨x1, q2, t2⟩, e1⟩ : ∃ r, r = intR bs q1 t1 := ⟨_, rfl⟩
  obtain ⟨⟨x2, q3, t3⟩, e2⟩ : ∃ r, r = intR bs q2 t2 := ⟨_, rfl⟩
  obtain ⟨⟨x3, q4, t4⟩, e3⟩ : ∃ r, r = intR bs q3 t3 := ⟨_, rfl⟩
  obtain ⟨⟨x4, q5, t5⟩, e4⟩ : ∃ r, r = intR bs q4 t4 := ⟨_, rfl⟩
  obtain ⟨⟨x5, q6, t6⟩, e5⟩ : ∃ r, r = intR bs q5 t5 := ⟨_, rfl⟩
  obtain ⟨⟨x6, q7, t7⟩, e6⟩ : ∃ r, r = intR bs q6 t6 := ⟨_, rfl⟩
  obtain ⟨⟨x7, q8, t8⟩, e7⟩ : ∃ r, r = intR bs q7 t7 := ⟨_, rfl⟩
  obtain ⟨⟨x8, q9, t9⟩, e8⟩ : ∃ r, r = intR bs q8 t8 := ⟨_, rfl⟩
  obtain ⟨⟨x9, q10, t10⟩, e9⟩ : ∃ r, r = intR bs q9 t9 := ⟨_, rfl⟩
  obtain ⟨⟨x10, q11, t11⟩, e10⟩ : ∃ r, r = intR bs q10 t10 := ⟨_, rfl⟩
  obtain ⟨⟨x11, q12, t12⟩, e11⟩ : ∃ r, r = intR bs q11 t11 := ⟨_, rfl⟩
  obtain ⟨⟨x12, q13, t13⟩, e12⟩ : ∃ r, r = intR bs q12 t12 := ⟨_, rfl⟩
  obtain ⟨⟨x13, q14, t14⟩, e13⟩ : ∃ r, r = intR bs q13 t13 := ⟨_, rfl⟩
  obtain ⟨⟨x14, q15, t15⟩, e14⟩ : ∃ r, r = intR bs q14 t14 := ⟨_, rfl⟩
  obtain ⟨⟨x15, q16, t16⟩, e15⟩ : ∃ r, r = intR bs q15 t15 := ⟨_, rfl⟩
  obtain ⟨⟨x16, q17, t17⟩, e16⟩ : ∃ r, r = intR bs q16 t16 := ⟨_, rfl⟩
  obtain ⟨⟨x17, q18, t18⟩, e17⟩ : ∃ r, r = intR bs q17 t17 := ⟨_, rfl⟩
  obtain ⟨⟨xb, qb, tb⟩, eb⟩ : ∃ r, r = boolR bs q18 t18 := ⟨_, rfl⟩
  have hR : geomR bs q st = (⟨x0, x1, x2, x3, x4, x5, x6, x7, x8, x9, x10, x11, x12, x13, x14, x15, x16, x17, (xb == 1)⟩, qb, tb) := by
    have eA : geomR bs q st = (geoOf ((numsR 18 bs q st).1, (boolR bs (numsR 18 bs q st).2.1 (numsR 18 bs q st).2.2).1), (boolR bs (numsR 18 bs q st).2.1 (numsR 18 bs q st).2.2).2) := rfl
    rw [eA]
    have eB : numsR 18 bs q st = ([x0, x1, x2, x3, x4, x5, x6, x7, x8, x9, x10, x11, x12, x13, x14, x15, x16, x17], q18, t18) := by
      simp only [nums_succ, nums_zero, ← e0, ← e1, ← e2, ← e3, ← e4, ← e5, ← e6, ← e7, ← e8, ← e9, ← e10, ← e11, ← e12, ← e13, ← e14, ← e15, ← e16, ← e17]
    rw [eB]
    dsimp only
    rw [← eb]
    rfl
  have HR := Lib.hid hR
  have c0 := Lib.hid fun y (hy : RdD bs y h g a c q st) => num_at e0 y hy
  have c1 := Lib.hid fun y (hy : RdD bs y h g a c q1 t1) => sp_at e1 y hy
  have c2 := Lib.hid fun y (hy : RdD bs y h g a c q2 t2) => sp_at e2 y hy
  have c3 := Lib.hid fun y (hy : RdD bs y h g a c q3 t3) => sp_at e3 y hy
  have c4 := Lib.hid fun y (hy : RdD bs y h g a c q4 t4) => sp_at e4 y hy
  have c5 := Lib.hid fun y (hy : RdD bs y h g a c q5 t5) => sp_at e5 y hy
  have c6 := Lib.hid fun y (hy : RdD bs y h g a c q6 t6) => sp_at e6 y hy
  have c7 := Lib.hid fun y (hy : RdD bs y h g a c q7 t7) => sp_at e7 y hy
  have c8 := Lib.hid fun y (hy : RdD bs y h g a c q8 t8) => sp_at e8 y hy
  have c9 := Lib.hid fun y (hy : RdD bs y h g a c q9 t9) => sp_at e9 y hy
  have c10 := Lib.hid fun y (hy : RdD bs y h g a c q10 t10) => sp_at e10 y hy
  have c11 := Lib.hid fun y (hy : RdD bs y h g a c q11 t11) => num_at e11 y hy
  have c12 := Lib.hid fun y (hy : RdD bs y h g a c q12 t12) => num_at e12 y hy
  have c13 := Lib.hid fun y (hy : RdD bs y h g a c q13 t13) => num_at e13 y hy
  have c14 := Lib.hid fun y (hy : RdD bs y h g a c q14 t14) => num_at e14 y hy
  have c15 := Lib.hid fun y (hy : RdD bs y h g a c q15 t15) => num_at e15 y hy
  have c16 := Lib.hid fun y (hy : RdD bs y h g a c q16 t16) => num_at e16 y hy
  have c17 := Lib.hid fun y (hy : RdD bs y h g a c q17 t17) => num_at e17 y hy
  have c18 := Lib.hid fun y (hy : RdD bs y h g a c q18 t18) => rflag_at eb y hy
  have HH := Lib.hid H
  have hg := H.rd.lt
  have b0 := tbel2 w (.cells (geoC zeroG4) 26) (.cells (geoC zeroG4) 26)
  have D := geo_new (w.alloc (.cells (geoC zeroG4) 26)) zeroG4
  rw [World.size_alloc] at D
  have R := (geo_new w zeroG4).old (tbel1 (w.alloc (.cells (geoC zeroG4) 26)) (.cells (geoC zeroG4) 26))
  have J := H.old b0
  have B := But.of (g := g) b0
  have hne : g ≠ w.heap.size := by omega
  have hnf : g ≠ w.heap.size + 1 := by omega
  clear hR H b0 eb e0 e1 e2 e3 e4 e5 e6 e7 e8 e9 e10 e11 e12 e13 e14 e15 e16 e17
  go_enter Try.func39, Try.ntmps39
  go_upto_region 2 with (fail)
  change Code.wp _ _ _ _ ((w.alloc (.cells (geoC zeroG4) 26)).alloc (.cells (geoC zeroG4) 26))
  generalize (w.alloc _).alloc _ = U at *
  go_wp2_with fail
  refine (c0.out _ J).mono ?_
  rintro e v ⟨rfl, J1, C⟩
  replace D := D.but C hnf.symm
  replace R := R.but C hne.symm
  replace B := But.trans B C
  have p := D.cells.1
  have f := D.free 0
  go_upto_region 3 with (fail)
  clear p f
  replace J := HH.out.but (B.newc (b := w.heap.size + 1) (by omega) 0 (.int .i64 x0)) J1.le (J1.rd.farr hnf 0 (.int .i64 x0))
  replace B := B.newc (b := w.heap.size + 1) (by omega) 0 (.int .i64 x0)
  replace D := D.put0 x0
  replace R := R.other (d := w.heap.size + 1) (by omega) 0 (.int .i64 x0)
  generalize v.setCell _ _ = V at *
  clear J1 C c0 v
  go_wp2_with fail
  refine (c1.out _ J).mono ?_
  rintro e v ⟨rfl, J1, C⟩
  replace D := D.but C hnf.symm
  replace R := R.but C hne.symm
  replace B := But.trans B C
  have p := D.cells.2.1
  have f := D.free 1
  go_upto_region 4 with (fail)
  clear p f
  replace J := HH.out.but (B.newc (b := w.heap.size + 1) (by omega) 1 (.int .i64 x1)) J1.le (J1.rd.farr hnf 1 (.int .i64 x1))
  replace B := B.newc (b := w.heap.size + 1) (by omega) 1 (.int .i64 x1)
  replace D := D.put1 x1
  replace R := R.other (d := w.heap.size + 1) (by omega) 1 (.int .i64 x1)
  generalize v.setCell _ _ = V at *
  clear J1 C c1 v
  go_wp2_with fail
  refine (c2.out _ J).mono ?_
  rintro e v ⟨rfl, J1, C⟩
  replace D := D.but C hnf.symm
  replace R := R.but C hne.symm
  replace B := But.trans B C
  have p := D.cells.2.2.1
  have f := D.free 2
  go_upto_region 5 with (fail)
  clear p f
  replace J := HH.out.but (B.newc (b := w.heap.size + 1) (by omega) 2 (.int .i64 x2)) J1.le (J1.rd.farr hnf 2 (.int .i64 x2))
  replace B := B.newc (b := w.heap.size + 1) (by omega) 2 (.int .i64 x2)
  replace D := D.put2 x2
  replace R := R.other (d := w.heap.size + 1) (by omega) 2 (.int .i64 x2)
  generalize v.setCell _ _ = V at *
  clear J1 C c2 v
  go_wp2_with fail
  refine (c3.out _ J).mono ?_
  rintro e v ⟨rfl, J1, C⟩
  replace D := D.but C hnf.symm
  replace R := R.but C hne.symm
  replace B := But.trans B C
  have p := D.cells.2.2.2.1
  have f := D.free 3
  go_upto_region 6 with (fail)
  clear p f
  replace J := HH.out.but (B.newc (b := w.heap.size + 1) (by omega) 3 (.int .i64 x3)) J1.le (J1.rd.farr hnf 3 (.int .i64 x3))
  replace B := B.newc (b := w.heap.size + 1) (by omega) 3 (.int .i64 x3)
  replace D := D.put3 x3
  replace R := R.other (d := w.heap.size + 1) (by omega) 3 (.int .i64 x3)
  generalize v.setCell _ _ = V at *
  clear J1 C c3 v
  go_wp2_with fail
  refine (c4.out _ J).mono ?_
  rintro e v ⟨rfl, J1, C⟩
  replace D := D.but C hnf.symm
  replace R := R.but C hne.symm
  replace B := But.trans B C
  have p := D.cells.2.2.2.2.1
  have f := D.free 4
  go_upto_region 7 with (fail)
  clear p f
  replace J := HH.out.but (B.newc (b := w.heap.size + 1) (by omega) 4 (.int .i64 x4)) J1.le (J1.rd.farr hnf 4 (.int .i64 x4))
  replace B := B.newc (b := w.heap.size + 1) (by omega) 4 (.int .i64 x4)
  replace D := D.put4 x4
  replace R := R.other (d := w.heap.size + 1) (by omega) 4 (.int .i64 x4)
  generalize v.setCell _ _ = V at *
  clear J1 C c4 v
  go_wp2_with fail
  refine (c5.out _ J).mono ?_
  rintro e v ⟨rfl, J1, C⟩
  replace D := D.but C hnf.symm
  replace R := R.but C hne.symm
  replace B := But.trans B C
  have p := D.cells.2.2.2.2.2.1
  have f := D.free 5
  go_upto_region 8 with (fail)
  clear p f
  replace J := HH.out.but (B.newc (b := w.heap.size + 1) (by omega) 5 (.int .i64 x5)) J1.le (J1.rd.farr hnf 5 (.int .i64 x5))
  replace B := B.newc (b := w.heap.size + 1) (by omega) 5 (.int .i64 x5)
  replace D := D.put5 x5
  replace R := R.other (d := w.heap.size + 1) (by omega) 5 (.int .i64 x5)
  generalize v.setCell _ _ = V at *
  clear J1 C c5 v
  go_wp2_with fail
  refine (c6.out _ J).mono ?_
  rintro e v ⟨rfl, J1, C⟩
  replace D := D.but C hnf.symm
  replace R := R.but C hne.symm
  replace B := But.trans B C
  have p := D.cells.2.2.2.2.2.2.1
  have f := D.free 6
  go_upto_region 9 with (fail)
  clear p f
  replace J := HH.out.but (B.newc (b := w.heap.size + 1) (by omega) 6 (.int .i64 x6)) J1.le (J1.rd.farr hnf 6 (.int .i64 x6))
  replace B := B.newc (b := w.heap.size + 1) (by omega) 6 (.int .i64 x6)
  replace D := D.put6 x6
  replace R := R.other (d := w.heap.size + 1) (by omega) 6 (.int .i64 x6)
  generalize v.setCell _ _ = V at *
  clear J1 C c6 v
  go_wp2_with fail
  refine (c7.out _ J).mono ?_
  rintro e v ⟨rfl, J1, C⟩
  replace D := D.but C hnf.symm
  replace R := R.but C hne.symm
  replace B := But.trans B C
  have p := D.cells.2.2.2.2.2.2.2.1
  have f := D.free 7
  go_upto_region 10 with (fail)
  clear p f
  replace J := HH.out.but (B.newc (b := w.heap.size + 1) (by omega) 7 (.int .i64 x7)) J1.le (J1.rd.farr hnf 7 (.int .i64 x7))
  replace B := B.newc (b := w.heap.size + 1) (by omega) 7 (.int .i64 x7)
  replace D := D.put7 x7
  replace R := R.other (d := w.heap.size + 1) (by omega) 7 (.int .i64 x7)
  generalize v.setCell _ _ = V at *
  clear J1 C c7 v
  go_wp2_with fail
  refine (c8.out _ J).mono ?_
  rintro e v ⟨rfl, J1, C⟩
  replace D := D.but C hnf.symm
  replace R := R.but C hne.symm
  replace B := But.trans B C
  have p := D.cells.2.2.2.2.2.2.2.2.1
  have f := D.free 8
  go_upto_region 11 with (fail)
  clear p f
  replace J := HH.out.but (B.newc (b := w.heap.size + 1) (by omega) 8 (.int .i64 x8)) J1.le (J1.rd.farr hnf 8 (.int .i64 x8))
  replace B := B.newc (b := w.heap.size + 1) (by omega) 8 (.int .i64 x8)
  replace D := D.put8 x8
  replace R := R.other (d := w.heap.size + 1) (by omega) 8 (.int .i64 x8)
  generalize v.setCell _ _ = V at *
  clear J1 C c8 v
  go_wp2_with fail
  refine (c9.out _ J).mono ?_
  rintro e v ⟨rfl, J1, C⟩
  replace D := D.but C hnf.symm
  replace R := R.but C hne.symm
  replace B := But.trans B C
  have p := D.cells.2.2.2.2.2.2.2.2.2.1
  have f := D.free 9
  go_upto_region 12 with (fail)
  clear p f
  replace J := HH.out.but (B.newc (b := w.heap.size + 1) (by omega) 9 (.int .i64 x9)) J1.le (J1.rd.farr hnf 9 (.int .i64 x9))
  replace B := B.newc (b := w.heap.size + 1) (by omega) 9 (.int .i64 x9)
  replace D := D.put9 x9
  replace R := R.other (d := w.heap.size + 1) (by omega) 9 (.int .i64 x9)
  generalize v.setCell _ _ = V at *
  clear J1 C c9 v
  go_wp2_with fail
  refine (c10.out _ J).mono ?_
  rintro e v ⟨rfl, J1, C⟩
  replace D := D.but C hnf.symm
  replace R := R.but C hne.symm
  replace B := But.trans B C
  have p := D.cells.2.2.2.2.2.2.2.2.2.2.1
  have f := D.free 10
  go_upto_region 13 with (fail)
  clear p f
  replace J := HH.out.but (B.newc (b := w.heap.size + 1) (by omega) 10 (.int .i64 x10)) J1.le (J1.rd.farr hnf 10 (.int .i64 x10))
  replace B := B.newc (b := w.heap.size + 1) (by omega) 10 (.int .i64 x10)
  replace D := D.put10 x10
  replace R := R.other (d := w.heap.size + 1) (by omega) 10 (.int .i64 x10)
  generalize v.setCell _ _ = V at *
  clear J1 C c10 v
  go_wp2_with fail
  refine (c11.out _ J).mono ?_
  rintro e v ⟨rfl, J1, C⟩
  replace D := D.but C hnf.symm
  replace R := R.but C hne.symm
  replace B := But.trans B C
  have p := D.cells.2.2.2.2.2.2.2.2.2.2.2.1
  have f := D.free 11
  go_upto_region 14 with (fail)
  clear p f
  replace J := HH.out.but (B.newc (b := w.heap.size + 1) (by omega) 11 (.int .i64 x11)) J1.le (J1.rd.farr hnf 11 (.int .i64 x11))
  replace B := B.newc (b := w.heap.size + 1) (by omega) 11 (.int .i64 x11)
  replace D := D.put11 x11
  replace R := R.other (d := w.heap.size + 1) (by omega) 11 (.int .i64 x11)
  generalize v.setCell _ _ = V at *
  clear J1 C c11 v
  go_wp2_with fail
  refine (c12.out _ J).mono ?_
  rintro e v ⟨rfl, J1, C⟩
  replace D := D.but C hnf.symm
  replace R := R.but C hne.symm
  replace B := But.trans B C
  have p := D.cells.2.2.2.2.2.2.2.2.2.2.2.2.1
  have f := D.free 12
  go_upto_region 15 with (fail)
  clear p f
  replace J := HH.out.but (B.newc (b := w.heap.size + 1) (by omega) 12 (.int .i64 x12)) J1.le (J1.rd.farr hnf 12 (.int .i64 x12))
  replace B := B.newc (b := w.heap.size + 1) (by omega) 12 (.int .i64 x12)
  replace D := D.put12 x12
  replace R := R.other (d := w.heap.size + 1) (by omega) 12 (.int .i64 x12)
  generalize v.setCell _ _ = V at *
  clear J1 C c12 v
  go_wp2_with fail
  refine (c13.out _ J).mono ?_
  rintro e v ⟨rfl, J1, C⟩
  replace D := D.but C hnf.symm
  replace R := R.but C hne.symm
  replace B := But.trans B C
  have p := D.cells.2.2.2.2.2.2.2.2.2.2.2.2.2.1
  have f := D.free 13
  go_upto_region 16 with (fail)
  clear p f
  replace J := HH.out.but (B.newc (b := w.heap.size + 1) (by omega) 13 (.int .i64 x13)) J1.le (J1.rd.farr hnf 13 (.int .i64 x13))
  replace B := B.newc (b := w.heap.size + 1) (by omega) 13 (.int .i64 x13)
  replace D := D.put13 x13
  replace R := R.other (d := w.heap.size + 1) (by omega) 13 (.int .i64 x13)
  generalize v.setCell _ _ = V at *
  clear J1 C c13 v
  go_wp2_with fail
  refine (c14.out _ J).mono ?_
  rintro e v ⟨rfl, J1, C⟩
  replace D := D.but C hnf.symm
  replace R := R.but C hne.symm
  replace B := But.trans B C
  have p := D.cells.2.2.2.2.2.2.2.2.2.2.2.2.2.2.1
  have f := D.free 14
  go_upto_region 17 with (fail)
  clear p f
  replace J := HH.out.but (B.newc (b := w.heap.size + 1) (by omega) 14 (.int .i64 x14)) J1.le (J1.rd.farr hnf 14 (.int .i64 x14))
  replace B := B.newc (b := w.heap.size + 1) (by omega) 14 (.int .i64 x14)
  replace D := D.put14 x14
  replace R := R.other (d := w.heap.size + 1) (by omega) 14 (.int .i64 x14)
  generalize v.setCell _ _ = V at *
  clear J1 C c14 v
  go_wp2_with fail
  refine (c15.out _ J).mono ?_
  rintro e v ⟨rfl, J1, C⟩
  replace D := D.but C hnf.symm
  replace R := R.but C hne.symm
  replace B := But.trans B C
  have p := D.cells.2.2.2.2.2.2.2.2.2.2.2.2.2.2.2.1
  have f := D.free 15
  go_upto_region 18 with (fail)
  clear p f
  replace J := HH.out.but (B.newc (b := w.heap.size + 1) (by omega) 15 (.int .i64 x15)) J1.le (J1.rd.farr hnf 15 (.int .i64 x15))
  replace B := B.newc (b := w.heap.size + 1) (by omega) 15 (.int .i64 x15)
  replace D := D.put15 x15
  replace R := R.other (d := w.heap.size + 1) (by omega) 15 (.int .i64 x15)
  generalize v.setCell _ _ = V at *
  clear J1 C c15 v
  go_wp2_with fail
  refine (c16.out _ J).mono ?_
  rintro e v ⟨rfl, J1, C⟩
  replace D := D.but C hnf.symm
  replace R := R.but C hne.symm
  replace B := But.trans B C
  have p := D.cells.2.2.2.2.2.2.2.2.2.2.2.2.2.2.2.2.1
  have f := D.free 16
  go_upto_region 19 with (fail)
  clear p f
  replace J := HH.out.but (B.newc (b := w.heap.size + 1) (by omega) 16 (.int .i64 x16)) J1.le (J1.rd.farr hnf 16 (.int .i64 x16))
  replace B := B.newc (b := w.heap.size + 1) (by omega) 16 (.int .i64 x16)
  replace D := D.put16 x16
  replace R := R.other (d := w.heap.size + 1) (by omega) 16 (.int .i64 x16)
  generalize v.setCell _ _ = V at *
  clear J1 C c16 v
  go_wp2_with fail
  refine (c17.out _ J).mono ?_
  rintro e v ⟨rfl, J1, C⟩
  replace D := D.but C hnf.symm
  replace R := R.but C hne.symm
  replace B := But.trans B C
  have p := D.cells.2.2.2.2.2.2.2.2.2.2.2.2.2.2.2.2.2.1
  have f := D.free 17
  go_upto_region 20 with (fail)
  clear p f
  replace J := HH.out.but (B.newc (b := w.heap.size + 1) (by omega) 17 (.int .i64 x17)) J1.le (J1.rd.farr hnf 17 (.int .i64 x17))
  replace B := B.newc (b := w.heap.size + 1) (by omega) 17 (.int .i64 x17)
  replace D := D.put17 x17
  replace R := R.other (d := w.heap.size + 1) (by omega) 17 (.int .i64 x17)
  generalize v.setCell _ _ = V at *
  clear J1 C c17 v
  go_wp2_with fail
  refine (c18.out _ J).mono ?_
  rintro e v ⟨rfl, J1, C⟩
  replace D := D.but C hnf.symm
  replace R := R.but C hne.symm
  replace B := But.trans B C
  have p := D.cells.2.2.2.2.2.2.2.2.2.2.2.2.2.2.2.2.2.2
  have f := D.free 18
  go_upto_region 21 with (fail)
  clear p f
  replace J := HH.out.but (B.newc (b := w.heap.size + 1) (by omega) 18 (.bool (xb == 1))) J1.le (J1.rd.farr hnf 18 (.bool (xb == 1)))
  replace B := B.newc (b := w.heap.size + 1) (by omega) 18 (.bool (xb == 1))
  replace D := D.put18 (xb == 1)
  replace R := R.other (d := w.heap.size + 1) (by omega) 18 (.bool (xb == 1))
  generalize v.setCell _ _ = V at *
  clear J1 C c18 v
  (refine wp_region_plain (Old V) 1 (Below.refl _ V) ?_; simp only [List.take_succ_cons, List.take_zero, List.drop_succ_cons, List.drop_zero])
  (refine Text.val (fun x hx => load_geo (.tmp 3) rfl rfl (D.old hx)) (by kernel_rfl) ?_; simp only [Act.put, List.getElem_toArray, List.getElem_cons_succ, List.getElem_cons_zero, List.setIfInBounds_toArray, List.set_cons_zero, List.set_cons_succ])
  intro x hx
  have R3 := R.old hx
  have J3 := J.old hx
  have B3 := But.trans B (But.of hx)
  refine store_geo rfl (.tmp 2) (.tmp 61) rfl rfl rfl R3 ?_
  go_wp2
  rw [HR.out]
  refine bodyPost_ret (v := .agg (geoC ⟨x0, x1, x2, x3, x4, x5, x6, x7, x8, x9, x10, x11, x12, x13, x14, x15, x16, x17, (xb == 1)⟩)) ?_ rfl ⟨rfl, HH.out.but (B3.newRow (Nat.le_refl _) _) J3.le (J3.rd.farRow hne _), B3.newRow (Nat.le_refl _) _⟩
  exact results_cell_row Try.results39 _ _ _ 26 _ _ _ rfl (Blk.row R3 _) Try.underlying26 rfl info24
end Go.Proofs.Ytjfjekncmejfpaa
