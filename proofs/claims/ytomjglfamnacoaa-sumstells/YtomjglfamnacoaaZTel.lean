/- The walk of SumsTells. -/
import Derived.Test.YtomjglfamnacoaaZAw
namespace Go.Proofs.Ytomjglfamnacoaa
open Go.RowKit
set_option maxRecDepth 20000
set_option linter.unusedVariables false
set_option linter.unusedSimpArgs false

theorem sumsTells_out (a : Option Addr) (len cap : Nat) (p q : Int) (w : World) (hn : 200 < len) (hc : len ≤ 9223372036854775807) :
    Calls Try.prog 3 #[.slice a len cap, .int .i64 p, .int .i64 q] w fun e w' => e = .returned (.bool true) ∧ Below w.heap.size w w' := by
  have c := awake19
  go_enter Try.func3, Try.ntmps3
  go_wp2_with fail
  refine (c _).mono ?_
  rintro e w1 ⟨rfl, b1⟩
  go_wp2
  go_ret
  exact ⟨rfl, b1⟩
set_option maxHeartbeats 2000000 in
theorem sumsTells_in (a : Option Addr) (cap : Nat) (l : List I7) (p q : Int) (w : World) (hn : l.length ≤ 200) (hr : Els 7 encI w a l.length fun k => l.getD k zeroI) :
    Calls Try.prog 3 #[.slice a l.length cap, .int .i64 p, .int .i64 q] w fun e w' => e = .returned (.bool true) ∧ Below w.heap.size w w' := by
  have c1 := snew_any a cap l w (by omega) hr
  have c2 := fun x (hx : Below w.heap.size w x) => rFair_any a cap l x (by omega) (hr.carry hx)
  have cw := Lib.hid awake19
  have HR := Lib.hid hr
  clear hr
  cases hM : fairM l with
  | false =>
    rw [hM] at c1 c2
    go_enter Try.func3, Try.ntmps3
    go_wp2_with fail
    refine c1.mono ?_
    rintro e w1 ⟨v, rfl, _, hv, b1⟩
    obtain rfl := hv trivial
    clear c1
    go_wp2_with fail
    refine (c2 _ b1).mono ?_
    rintro e w2 ⟨rfl, b2⟩
    replace b2 := tstep b1 b2 b1.size
    clear c2 b1
    go_wp2_with fail
    refine (cw.out _).mono ?_
    rintro e w3 ⟨rfl, b3⟩
    replace b3 := tstep b2 b3 b2.size
    go_wp2
    go_ret
    exact ⟨rfl, b3⟩
  | true =>
    have hf : fairTo l l.length = true := by
      unfold fairM at hM
      exact (Bool.and_eq_true_iff.1 hM).1
    rw [hM] at c1 c2
    have HC := Lib.hid fun (v : Value) (x : World) (h : SumV x v l) => And.intro (sof_any v l p q x h (by omega) hf) (And.intro (sboxes_any v l p q x h (by omega) hf) (And.intro (sglues_any v l p q x h (by omega)) (slen_any v l x h (by omega))))
    have HD := Lib.hid fun (x : World) (hx : Below w.heap.size w x) => And.intro (rOf_any a cap l p q x (by omega) hf (HR.out.carry hx)) (And.intro (rBoxes_any a cap l p q x (by omega) hf (HR.out.carry hx)) (rGlues_any a cap l p q x (by omega) (HR.out.carry hx)))
    have HS := Lib.hid fun (u v : Value) (x : World) (hu : NewT (gluR l p q) u x) (hv : NewT (gluR l p q) v x) => rSame_any u v (gluR l p q) x (by have := gluR_len l p q; omega) hu hv
    clear hf HR
    generalize rngM l p q = r at *
    generalize rngS (boxK l) p q l.length = s at *
    generalize gluR l p q = g at *
    obtain ⟨r0, r1, r2, r3, r4, r5⟩ := r
    unfold tot at HC HD
    dsimp only at HC HD
    go_enter Try.func3, Try.ntmps3
    go_wp2_with fail
    refine c1.mono ?_
    rintro e w1 ⟨v, rfl, hv, _, b1⟩
    have V1 := hv trivial
    obtain ⟨pp, _, _, _, rfl, _⟩ := V1
    have V1 : SumV w1 (.pointer (some ⟨pp, 0, none⟩)) l := .inr (hv trivial)
    clear c1 hv
    go_wp2_with fail
    refine (c2 _ b1).mono ?_
    rintro e w2 ⟨rfl, b2⟩
    have V2 := V1.carry b2
    replace b2 := tstep b1 b2 b1.size
    clear c2 b1 V1
    go_wp2_with fail
    refine (HC.out _ _ V2).1.mono ?_
    rintro e w3 ⟨rfl, b3⟩
    have V3 := V2.carry b3
    replace b3 := tstep b2 b3 b2.size
    clear b2 V2
    go_wp2_with fail
    refine (HD.out _ b3).1.mono ?_
    rintro e w4 ⟨rfl, b4⟩
    have V4 := V3.carry b4
    replace b4 := tstep b3 b4 b3.size
    clear b3 V3
    go_wp2_with fail
    refine (HC.out _ _ V4).2.2.1.mono ?_
    rintro e w5 ⟨u5, rfl, N5, b5⟩
    have V5 := V4.carry b5
    replace b5 := tstep b4 b5 b4.size
    clear b4 V4
    go_wp2_with fail
    refine (HD.out _ b5).2.2.mono ?_
    rintro e w6 ⟨u6, rfl, N6, b6⟩
    have V6 := V5.carry b6
    replace N5 := N5.carry b6
    replace b6 := tstep b5 b6 b5.size
    clear b5 V5
    go_wp2_with fail
    refine (HS.out _ _ _ N5 N6).mono ?_
    rintro e w7 ⟨rfl, b7⟩
    have V7 := V6.carry b7
    replace b7 := tstep b6 b7 b6.size
    clear b6 V6 N5 N6
    go_wp2_with fail
    refine (HC.out _ _ V7).2.1.mono ?_
    rintro e w8 ⟨rfl, b8⟩
    have V8 := V7.carry b8
    replace b8 := tstep b7 b8 b7.size
    clear b7 V7
    go_wp2_with fail
    refine (HD.out _ b8).2.1.mono ?_
    rintro e w9 ⟨rfl, rfl⟩
    go_wp2_with fail
    refine (HC.out _ _ V8).2.2.2.mono ?_
    rintro e w10 ⟨rfl, rfl⟩
    clear V8 HC HD HS
    go_wp2_with fail
    refine (cw.out _).mono ?_
    rintro e w11 ⟨rfl, b11⟩
    replace b11 := tstep b8 b11 b8.size
    go_wp2
    go_ret
    exact ⟨rfl, b11⟩
theorem sumsTells_walk (a : Option Addr) (len cap : Nat) (p : Int) (hp : (Lit.int .i64 p).wf = true) (q : Int) (hq : (Lit.int .i64 q).wf = true) (w : World) (h : IsFlat Try.prog [3, 28, 3, 28, 3, 28, 3] w a len cap) :
    Calls Try.prog 3 #[.slice a len cap, .int .i64 p, .int .i64 q] w fun e w' => e = .returned (.bool true) ∧ Below w.heap.size w w' := by
  obtain ⟨L, rfl, h1, h2, _, h3⟩ := h.itemsA
  by_cases hg : 200 < L.length
  · exact sumsTells_out a _ cap p q w hg (Nat.le_trans (Nat.le_trans h1 h2) (by decide))
  · exact sumsTells_in a cap L p q w (by omega) h3
end Go.Proofs.Ytomjglfamnacoaa
