/- The document's Near; items, lines and geometries brought to a grid, in place and by value. -/
import Derived.Test.YthcgncgnbjhniaaGreatJNum
import Derived.Test.YthcgncgnbjhniaaGreatNSame
namespace Go.Proofs.YthcgncgnbjhniaaGreat
open Go.RowKit
set_option maxRecDepth 20000
set_option linter.unusedVariables false
set_option linter.unusedSimpArgs false

set_option maxHeartbeats 1000000 in
theorem rgnear_any (n s : Int) (w : World) (hn : inR n) (hs : inR s) :
    Calls Tryz.prog 62 #[.int .i64 n, .int .i64 s] w fun e w' => e = .returned (.int .i64 (nearZ n s)) ∧ Below w.heap.size w w' := by
  by_cases h1 : s < 1
  · have e : nearZ n s = n := by unfold nearZ; rw [if_pos h1]
    rw [e]
    go_enter Tryz.func62, Tryz.ntmps62
    go_wp2
    go_ret
    exact ⟨rfl, Below.refl _ _⟩
  · have c1 := Lib.hid fun w => rdown_any n s w hn hs
    have c2 := Lib.hid fun w => rup_any n s w hn hs
    have cd := Lib.hid fun w => got_any (downR n s) n w
    have cu := Lib.hid fun w => got_any (upR n s) n w
    have hb := emod_bd n s (by omega)
    have ho := over_bd n s (by omega)
    have H : ∃ t, n % s = t ∧ ((0 ≤ n ∧ t = n % s) ∨ (n < 0 ∧ 0 ≤ n.tmod s ∧ t = n.tmod s) ∨ (n < 0 ∧ n.tmod s < 0 ∧ t = n.tmod s + s)) := by
      refine ⟨n % s, rfl, ?_⟩
      by_cases q : 0 ≤ n
      · exact .inl ⟨q, rfl⟩
      · by_cases q' : 0 ≤ n.tmod s
        · exact .inr (.inl ⟨by omega, q', (over_pos n s (by omega) q').symm⟩)
        · exact .inr (.inr ⟨by omega, by omega, (over_neg n s (by omega) (by omega)).symm⟩)
    obtain ⟨t, ht, hw⟩ := H
    rw [near_ways h1 ht]
    rw [ht] at hb
    clear ht
    unfold inR at hn hs
    unfold downZ upZ
    generalize (bif (downR n s).2 then (downR n s).1 else n) = d at *
    generalize (bif (upR n s).2 then (upR n s).1 else n) = p at *
    unfold pair at c1 c2 cd cu
    generalize (downR n s).1 = d1 at *
    generalize (downR n s).2 = d2 at *
    generalize (upR n s).1 = u1 at *
    generalize (upR n s).2 = u2 at *
    rcases hw with ⟨q, rfl⟩ | ⟨q, q', rfl⟩ | ⟨q, q', rfl⟩
    · by_cases hlt : n % s < s - n % s
      · rw [if_pos hlt]
        go_enter Tryz.func62, Tryz.ntmps62
        go_wp2_with fail
        refine (c1.out _).mono ?_
        rintro e w1 ⟨rfl, b1⟩
        go_wp2_with fail
        refine (c2.out _).mono ?_
        rintro e w2 ⟨rfl, b2⟩
        replace b2 := tstep b1 b2 b1.size
        clear b1 c1 c2
        go_wp2_with fail
        refine (cd.out _).mono ?_
        rintro e w3 ⟨rfl, b3⟩
        go_wp2
        go_ret
        exact ⟨rfl, tstep (tstep b2 (tbel2 _ _ _) b2.size) b3 (tstep b2 (tbel2 _ _ _) b2.size).size⟩
      · rw [if_neg hlt]
        have hz : (n % s == 0) = false := by simp; omega
        go_enter Tryz.func62, Tryz.ntmps62
        go_wp2_with fail
        refine (c1.out _).mono ?_
        rintro e w1 ⟨rfl, b1⟩
        go_wp2_with fail
        refine (c2.out _).mono ?_
        rintro e w2 ⟨rfl, b2⟩
        replace b2 := tstep b1 b2 b1.size
        clear b1 c1 c2
        go_wp2_with fail
        refine (cu.out _).mono ?_
        rintro e w3 ⟨rfl, b3⟩
        go_wp2
        go_ret
        exact ⟨rfl, tstep (tstep b2 (tbel2 _ _ _) b2.size) b3 (tstep b2 (tbel2 _ _ _) b2.size).size⟩
    · by_cases hlt : n.tmod s < s - n.tmod s
      · rw [if_pos hlt]
        go_enter Tryz.func62, Tryz.ntmps62
        go_wp2_with fail
        refine (c1.out _).mono ?_
        rintro e w1 ⟨rfl, b1⟩
        go_wp2_with fail
        refine (c2.out _).mono ?_
        rintro e w2 ⟨rfl, b2⟩
        replace b2 := tstep b1 b2 b1.size
        clear b1 c1 c2
        go_wp2_with fail
        refine (cd.out _).mono ?_
        rintro e w3 ⟨rfl, b3⟩
        go_wp2
        go_ret
        exact ⟨rfl, tstep (tstep b2 (tbel2 _ _ _) b2.size) b3 (tstep b2 (tbel2 _ _ _) b2.size).size⟩
      · rw [if_neg hlt]
        have hz : (n.tmod s == 0) = false := by simp; omega
        go_enter Tryz.func62, Tryz.ntmps62
        go_wp2_with fail
        refine (c1.out _).mono ?_
        rintro e w1 ⟨rfl, b1⟩
        go_wp2_with fail
        refine (c2.out _).mono ?_
        rintro e w2 ⟨rfl, b2⟩
        replace b2 := tstep b1 b2 b1.size
        clear b1 c1 c2
        go_wp2_with fail
        refine (cu.out _).mono ?_
        rintro e w3 ⟨rfl, b3⟩
        go_wp2
        go_ret
        exact ⟨rfl, tstep (tstep b2 (tbel2 _ _ _) b2.size) b3 (tstep b2 (tbel2 _ _ _) b2.size).size⟩
    · by_cases hlt : n.tmod s + s < s - (n.tmod s + s)
      · rw [if_pos hlt]
        go_enter Tryz.func62, Tryz.ntmps62
        go_wp2_with fail
        refine (c1.out _).mono ?_
        rintro e w1 ⟨rfl, b1⟩
        go_wp2_with fail
        refine (c2.out _).mono ?_
        rintro e w2 ⟨rfl, b2⟩
        replace b2 := tstep b1 b2 b1.size
        clear b1 c1 c2
        go_wp2_with fail
        refine (cd.out _).mono ?_
        rintro e w3 ⟨rfl, b3⟩
        go_wp2
        go_ret
        exact ⟨rfl, tstep (tstep b2 (tbel2 _ _ _) b2.size) b3 (tstep b2 (tbel2 _ _ _) b2.size).size⟩
      · rw [if_neg hlt]
        have hz : (n.tmod s + s == 0) = false := by simp; omega
        go_enter Tryz.func62, Tryz.ntmps62
        go_wp2_with fail
        refine (c1.out _).mono ?_
        rintro e w1 ⟨rfl, b1⟩
        go_wp2_with fail
        refine (c2.out _).mono ?_
        rintro e w2 ⟨rfl, b2⟩
        replace b2 := tstep b1 b2 b1.size
        clear b1 c1 c2
        go_wp2_with fail
        refine (cu.out _).mono ?_
        rintro e w3 ⟨rfl, b3⟩
        go_wp2
        go_ret
        exact ⟨rfl, tstep (tstep b2 (tbel2 _ _ _) b2.size) b3 (tstep b2 (tbel2 _ _ _) b2.size).size⟩
/-! ### Items -/
def encI (x : I7) : List Value := [.int .i64 x.k, .int .i64 x.h, .int .i64 x.f, .int .i64 x.s, .int .i64 x.o, .int .i64 x.r, .int .i64 x.n]
def encF (x : F3) : List Value := [.int .i64 x.c, .int .i64 x.h, .int .i64 x.p]
def encZ (x : Int) : List Value := [.int .i64 x]
theorem encI_len (x : I7) : (encI x).length = 7 := rfl
theorem encF_len (x : F3) : (encF x).length = 3 := rfl
theorem encZ_len (x : Int) : (encZ x).length = 1 := rfl
theorem encI_one : ∀ x, ∀ u ∈ encI x, u.oneCell' = true := fun x u hu => by
  simp only [encI, List.mem_cons, List.not_mem_nil, or_false] at hu
  rcases hu with rfl | rfl | rfl | rfl | rfl | rfl | rfl <;> rfl
theorem encF_one : ∀ x, ∀ u ∈ encF x, u.oneCell' = true := fun x u hu => by
  simp only [encF, List.mem_cons, List.not_mem_nil, or_false] at hu
  rcases hu with rfl | rfl | rfl <;> rfl
theorem encZ_one : ∀ x, ∀ u ∈ encZ x, u.oneCell' = true := fun x u hu => by
  simp only [encZ, List.mem_cons, List.not_mem_nil, or_false] at hu
  subst hu; rfl
theorem Blk.set7j {w : World} {g : Nat} {T : TypeId} {u0 u1 u2 u3 u4 u5 u6 : Value} (h : Blk w g #[u0, u1, u2, u3, u4, u5, u6] T) (v0 v1 v2 v3 v4 v5 v6 : Value) : Blk (((((((w.setCell ⟨g, 0, none⟩ v0).setCell ⟨g, 1, none⟩ v1).setCell ⟨g, 2, none⟩ v2).setCell ⟨g, 3, none⟩ v3).setCell ⟨g, 4, none⟩ v4).setCell ⟨g, 5, none⟩ v5).setCell ⟨g, 6, none⟩ v6) g #[v0, v1, v2, v3, v4, v5, v6] T := by
  simpa using ((((((h.set 0 v0).set 1 v1).set 2 v2).set 3 v3).set 4 v4).set 5 v5).set 6 v6
theorem info39 : (Tryz.prog.info? 46).map (·.size) = some 7 := by kernel_rfl
theorem ritem_any (x : I7) (s : Int) (w : World) (hx : inR x.h) (hs : inR s) :
    Calls Tryz.prog 38 #[itm x, .int .i64 s] w fun e w' => e = .returned (itm (snapI s x)) ∧ Below w.heap.size w w' := by
  have c1 := fun w => rgup_any x.h s w hx hs
  have c2 := fun w => rgnear_any x.h s w hx hs
  obtain ⟨k, h, f, st, o, r, n⟩ := x
  unfold itm snapI
  dsimp only at *
  clear hx
  generalize upZ h s = u at *
  generalize nearZ h s = m at *
  have R := blk_two w (.cells #[.int .i64 k, .int .i64 h, .int .i64 f, .int .i64 st, .int .i64 o, .int .i64 r, .int .i64 n] 46) #[.int .i64 0, .int .i64 0, .int .i64 0, .int .i64 0, .int .i64 0, .int .i64 0, .int .i64 0] 46
  have D := (blk_new w #[.int .i64 k, .int .i64 h, .int .i64 f, .int .i64 st, .int .i64 o, .int .i64 r, .int .i64 n] 46).alloc (.cells #[.int .i64 0, .int .i64 0, .int .i64 0, .int .i64 0, .int .i64 0, .int .i64 0, .int .i64 0] 46)
  have b0 := tbel2 w (.cells #[.int .i64 k, .int .i64 h, .int .i64 f, .int .i64 st, .int .i64 o, .int .i64 r, .int .i64 n] 46) (.cells #[.int .i64 0, .int .i64 0, .int .i64 0, .int .i64 0, .int .i64 0, .int .i64 0, .int .i64 0] 46)
  by_cases h1 : k = 1
  · subst h1
    simp only [if_true]
    go_enter Tryz.func38, Tryz.ntmps38
    go_wp2_with fail
    refine (c1 _).mono ?_
    rintro e w1 ⟨rfl, b1⟩
    have D1 := D.old b1
    have R1 := R.old b1
    have b2 := tstep b0 b1 b0.size
    clear D R b0 b1 c1 c2
    obtain ⟨p0, p1, p2, p3, p4, p5, p6⟩ := D1.seven
    obtain ⟨q0, q1, q2, q3, q4, q5, q6⟩ := D1.seven_free
    obtain ⟨r0, r1, r2, r3, r4, r5, r6⟩ := R1.seven
    obtain ⟨t0, t1, t2, t3, t4, t5, t6⟩ := R1.seven_free
    go_wp2
    refine bodyPost_ret (v := .agg #[.int .i64 1, .int .i64 u, .int .i64 f, .int .i64 st, .int .i64 o, .int .i64 r, .int .i64 n]) ?_ rfl ⟨rfl, ?_⟩
    · exact results_cell_row Tryz.results38 _ _ _ 46 _ _ _ rfl ((R1.other (by simp) 1 _).set7j _ _ _ _ _ _ _) Tryz.underlying46 rfl info39
    repeat (with_reducible first | exact b2 | refine Below.setCell ?_ (by simp) _)
  by_cases h2 : k = 2
  · subst h2
    simp only [show ¬ ((2 : Int) = 1) by decide, if_false, if_true]
    go_enter Tryz.func38, Tryz.ntmps38
    go_wp2_with fail
    refine (c2 _).mono ?_
    rintro e w1 ⟨rfl, b1⟩
    have D1 := D.old b1
    have R1 := R.old b1
    have b2 := tstep b0 b1 b0.size
    clear D R b0 b1 c1 c2
    obtain ⟨p0, p1, p2, p3, p4, p5, p6⟩ := D1.seven
    obtain ⟨q0, q1, q2, q3, q4, q5, q6⟩ := D1.seven_free
    obtain ⟨r0, r1, r2, r3, r4, r5, r6⟩ := R1.seven
    obtain ⟨t0, t1, t2, t3, t4, t5, t6⟩ := R1.seven_free
    go_wp2
    refine bodyPost_ret (v := .agg #[.int .i64 2, .int .i64 m, .int .i64 f, .int .i64 0, .int .i64 0, .int .i64 0, .int .i64 n]) ?_ rfl ⟨rfl, ?_⟩
    · exact results_cell_row Tryz.results38 _ _ _ 46 _ _ _ rfl (((((R1.other (by simp) 1 _).other (by simp) 3 _).other (by simp) 4 _).other (by simp) 5 _).set7j _ _ _ _ _ _ _) Tryz.underlying46 rfl info39
    repeat (with_reducible first | exact b2 | refine Below.setCell ?_ (by simp) _)
  · have e1 : (k == 1) = false := by simpa using h1
    have e2 : (k == 2) = false := by simpa using h2
    rw [if_neg h1, if_neg h2]
    go_enter Tryz.func38, Tryz.ntmps38
    go_wp2
    refine bodyPost_ret (v := .agg #[.int .i64 k, .int .i64 h, .int .i64 f, .int .i64 st, .int .i64 o, .int .i64 r, .int .i64 n]) ?_ rfl ⟨rfl, ?_⟩
    · first
        | exact results_cell_row Tryz.results38 _ _ _ 46 _ _ _ rfl (blk_two _ _ _ _) Tryz.underlying46 rfl info39
        | exact results_cell_row Tryz.results38 _ _ _ 46 _ _ _ rfl (R.set7j _ _ _ _ _ _ _) Tryz.underlying46 rfl info39
    exact tbel2 w _ _
end Go.Proofs.YthcgncgnbjhniaaGreat
