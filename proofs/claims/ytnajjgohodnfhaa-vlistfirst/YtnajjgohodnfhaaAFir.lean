/- The walk of VlistFirst. -/
import Derived.Test.YtnajjgohodnfhaaAAw
namespace Go.Proofs.Ytnajjgohodnfhaa
open Go.RowKit
set_option maxRecDepth 20000
set_option linter.unusedVariables false
set_option linter.unusedSimpArgs false

theorem vlistFirst_out (a : Option Addr) (len cap : Nat) (n : Int) (w : World) (h : 200 < len ∨ n < 0 ∨ (len : Int) < n) (hm : len ≤ 9223372036854775807) :
    Calls Try.prog 3 #[.slice a len cap, .int .i64 n] w fun e w' => e = .returned (.bool true) ∧ Below w.heap.size w w' := by
  rcases (by omega : 200 < len ∨ (¬ 200 < len ∧ n < 0) ∨ (¬ 200 < len ∧ ¬ n < 0 ∧ (len : Int) < n)) with h | ⟨g, h⟩ | ⟨g, g2, h⟩
  all_goals
    go_enter Try.func3, Try.ntmps3
    go_wp2_with (go_at_call 5; refine (awake18 _).mono ?_; rintro e w1 ⟨rfl, b1⟩)
    go_ret
    exact ⟨rfl, b1⟩
set_option maxHeartbeats 2000000 in
theorem vlistFirst_in (a : Option Addr) (cap : Nat) (L : List I7) (n : Int) (w : World) (hl : L.length ≤ 200) (h0 : 0 ≤ n) (h1 : n ≤ L.length) (hr : Els 7 encI w a L.length fun k => L.getD k zeroI) :
    Calls Try.prog 3 #[.slice a L.length cap, .int .i64 n] w fun e w' => e = .returned (.bool true) ∧ Below w.heap.size w w' := by
  have cn := vnew_any a cap L w (by omega) hr
  have HC := Lib.hid fun (v : Value) (z : Int) (x : World) (h : VAt x v L) => And.intro (vtrim_any v L z x h (by omega)) (And.intro (vfirst_any v L z x h (by omega)) (And.intro (vforce_any v L z x h (by omega)) (vmay_any v L z x h (by omega))))
  have ca := Lib.hid awake18
  have t1 := trim_twice L n
  obtain ⟨tm, t2, t3, t4, _⟩ := trimV_facts L n
  have t5 : n ≤ (tm : Int) := by unfold startV at t3; omega
  rw [t2] at t1
  clear hr t3
  by_cases hn : n = L.length
  · have e1 : firstV L n = -1 := by unfold firstV afterV; rw [if_pos (by omega)]
    have e2 : forceV L n = -1 := by unfold forceV afterV; rw [if_pos (by omega)]
    have HT := Lib.hid t1
    have HE := Lib.hid (And.intro t2 (And.intro e1 e2))
    clear t1 t2 e1 e2
    generalize hN : L.length = N at *
    have HN := Lib.hid hN
    clear hN
    subst hn
    go_enter Try.func3, Try.ntmps3
    go_wp2_with fail
    refine cn.mono ?_
    rintro e w1 ⟨v, rfl, V1, b1⟩
    clear cn
    go_wp2_with fail
    have k1 := (HC.out v N w1 V1).1
    rw [HE.out.1] at k1
    refine k1.mono ?_
    rintro e w2 ⟨rfl, b2⟩
    have V2 := V1.carry b2
    replace b2 := tstep b1 b2 b1.size
    clear b1 V1 k1
    go_wp2_with fail
    have k2 := (HC.out v N w2 V2).2.1
    rw [HE.out.2.1] at k2
    refine k2.mono ?_
    rintro e w3 ⟨rfl, b3⟩
    have V3 := V2.carry b3
    replace b3 := tstep b2 b3 b2.size
    clear b2 V2 k2
    go_wp2_with fail
    have k3 := (HC.out v N w3 V3).2.2.1
    rw [HE.out.2.2] at k3
    refine k3.mono ?_
    rintro e w4 ⟨rfl, b4⟩
    have V4 := V3.carry b4
    replace b4 := tstep b3 b4 b3.size
    clear b3 V3 k3
    go_wp2_with fail
    have k4 := (HC.out v tm w4 V4).1
    rw [HT.out] at k4
    refine k4.mono ?_
    rintro e w5 ⟨rfl, b5⟩
    replace b5 := tstep b4 b5 b4.size
    clear b4 V4 k4 HC HE HT
    go_wp2_with fail
    refine (ca.out w5).mono ?_
    rintro e w6 ⟨rfl, b6⟩
    replace b6 := tstep b5 b6 b5.size
    clear ca
    go_wp2
    go_ret
    exact ⟨rfl, b6⟩
  · obtain ⟨f, m, e1, e2, e3, e4, e5, e6⟩ := first_force (l := L) h0 (by omega)
    have HT := Lib.hid t1
    have HE := Lib.hid (And.intro t2 (And.intro e1 (And.intro e2 e6)))
    clear t1 t2 e1 e2 e6
    generalize hN : L.length = N at *
    have HN := Lib.hid hN
    clear hN
    have f1 : (n == (N : Int)) = false := by simpa using hn
    go_enter Try.func3, Try.ntmps3
    go_wp2_with fail
    refine cn.mono ?_
    rintro e w1 ⟨v, rfl, V1, b1⟩
    clear cn
    go_wp2_with fail
    have k1 := (HC.out v n w1 V1).1
    rw [HE.out.1] at k1
    refine k1.mono ?_
    rintro e w2 ⟨rfl, b2⟩
    have V2 := V1.carry b2
    replace b2 := tstep b1 b2 b1.size
    clear b1 V1 k1
    go_wp2_with fail
    have k2 := (HC.out v n w2 V2).2.1
    rw [HE.out.2.1] at k2
    refine k2.mono ?_
    rintro e w3 ⟨rfl, b3⟩
    have V3 := V2.carry b3
    replace b3 := tstep b2 b3 b2.size
    clear b2 V2 k2
    go_wp2_with fail
    have k3 := (HC.out v n w3 V3).2.2.1
    rw [HE.out.2.2.1] at k3
    refine k3.mono ?_
    rintro e w4 ⟨rfl, b4⟩
    have V4 := V3.carry b4
    replace b4 := tstep b3 b4 b3.size
    clear b3 V3 k3
    go_wp2_with fail
    have k4 := (HC.out v tm w4 V4).1
    rw [HT.out] at k4
    refine k4.mono ?_
    rintro e w5 ⟨rfl, b5⟩
    have V5 := V4.carry b5
    replace b5 := tstep b4 b5 b4.size
    clear b4 V4 k4
    go_wp2_with fail
    have k5 := (HC.out v m w5 V5).2.2.2
    rw [HE.out.2.2.2] at k5
    refine k5.mono ?_
    rintro e w6 ⟨rfl, b6⟩
    replace b6 := tstep b5 b6 b5.size
    clear b5 V5 k5 HC HE HT
    go_wp2_with fail
    refine (ca.out w6).mono ?_
    rintro e w7 ⟨rfl, b7⟩
    replace b7 := tstep b6 b7 b6.size
    clear ca
    go_wp2
    go_ret
    exact ⟨rfl, b7⟩
theorem vlistFirst_walk (a : Option Addr) (len cap : Nat) (n : Int) (hn : (Lit.int .i64 n).wf = true) (w : World) (h : IsFlat Try.prog [3, 29, 3, 29, 3, 29, 3] w a len cap) :
    Calls Try.prog 3 #[.slice a len cap, .int .i64 n] w fun e w' => e = .returned (.bool true) ∧ Below w.heap.size w w' := by
  obtain ⟨L, rfl, h1, h2, _, h3⟩ := h.itemsA
  by_cases hg : 200 < L.length ∨ n < 0 ∨ (L.length : Int) < n
  · exact vlistFirst_out a _ cap n w hg (Nat.le_trans (Nat.le_trans h1 h2) (by decide))
  · exact vlistFirst_in a cap L n w (by omega) (by omega) (by omega) h3
end Go.Proofs.Ytnajjgohodnfhaa
