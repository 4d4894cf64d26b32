/- The clauses of package valid that count, stray and unanchored. -/
import Derived.Test.YthcgncgnbjhniaaGreatKIdx
import Derived.Test.YthcgncgnbjhniaaGreatEChk
namespace Go.Proofs.YthcgncgnbjhniaaGreat
open Go.RowKit
set_option maxRecDepth 20000
set_option linter.unusedVariables false
set_option linter.unusedSimpArgs false

theorem whole_any (b : Bool) (w : World) : Calls Tryz.prog 18 #[.bool b] w fun e w' => e = .returned (.int .i64 (wholeK b)) ∧ w' = w := by
  cases b
  all_goals
    go_enter Tryz.func18, Tryz.ntmps18
    go_wp2
    go_ret
    exact ⟨rfl, rfl⟩
theorem clause1_any (j : J4) (s : S3) (w : World) (hL : Lists w j s) : Calls Tryz.prog 17 #[.agg (jobC j s)] w fun e w' => e = .returned (.int .i64 (faultK j 0)) ∧ Below w.heap.size w w' := by
  have D := job_new w j s
  have b0 := tbel1 w (.cells (jobC j s) 29)
  have m1 := Nat.le_trans hL.ic.1 hL.ic.2
  simp only [maxLen] at m1
  obtain ⟨t19, t20, t21⟩ := D.three
  have c := fun w => whole_any (decide ((4096 : Int) < j.items.length)) w
  clear hL D
  unfold faultK
  generalize wholeK _ = z at *
  generalize j.items.length = n at *
  go_enter Tryz.func17, Tryz.ntmps17
  go_upto_region 1 with (fail)
  generalize w.alloc _ = U at *
  go_wp2_with (refine (c _).mono ?_; rintro e w1 ⟨rfl, rfl⟩)
  go_ret
  exact ⟨rfl, b0⟩
theorem clause2_any (j : J4) (s : S3) (w : World) (hL : Lists w j s) : Calls Tryz.prog 19 #[.agg (jobC j s)] w fun e w' => e = .returned (.int .i64 (faultK j 1)) ∧ Below w.heap.size w w' := by
  have D := job_new w j s
  have b0 := tbel1 w (.cells (jobC j s) 29)
  have m1 := Nat.le_trans hL.fc.1 hL.fc.2
  simp only [maxLen] at m1
  obtain ⟨t19, t20, t21⟩ := D.three
  have c := fun w => whole_any (decide ((256 : Int) < j.floats.length)) w
  clear hL D
  unfold faultK
  generalize wholeK _ = z at *
  generalize j.floats.length = n at *
  go_enter Tryz.func19, Tryz.ntmps19
  go_upto_region 1 with (fail)
  generalize w.alloc _ = U at *
  go_wp2_with (refine (c _).mono ?_; rintro e w1 ⟨rfl, rfl⟩)
  go_ret
  exact ⟨rfl, b0⟩
theorem clause3_any (j : J4) (s : S3) (w : World) (hL : Lists w j s) : Calls Tryz.prog 20 #[.agg (jobC j s)] w fun e w' => e = .returned (.int .i64 (faultK j 2)) ∧ Below w.heap.size w w' := by
  have D := job_new w j s
  have b0 := tbel1 w (.cells (jobC j s) 29)
  have m1 := Nat.le_trans hL.nc.1 hL.nc.2
  simp only [maxLen] at m1
  obtain ⟨t19, t20, t21⟩ := D.three
  have c := fun w => whole_any (decide ((512 : Int) < j.notes.length)) w
  clear hL D
  unfold faultK
  generalize wholeK _ = z at *
  generalize j.notes.length = n at *
  go_enter Tryz.func20, Tryz.ntmps20
  go_upto_region 1 with (fail)
  generalize w.alloc _ = U at *
  go_wp2_with (refine (c _).mono ?_; rintro e w1 ⟨rfl, rfl⟩)
  go_ret
  exact ⟨rfl, b0⟩
theorem clause4_any (j : J4) (s : S3) (w : World) : Calls Tryz.prog 21 #[.agg (jobC j s)] w fun e w' => e = .returned (.int .i64 (faultK j 3)) ∧ Below w.heap.size w w' := by
  have D := job_new w j s
  have b0 := tbel1 w (.cells (jobC j s) 29)
  have c := fun w => whole_any (decide (errE j.g = 6)) w
  have cg := fun w => gcheck_any j.g w
  unfold faultK
  generalize wholeK _ = z at *
  generalize errE j.g = n at *
  go_enter Tryz.func21, Tryz.ntmps21
  go_upto_region 1 with (fail)
  generalize w.alloc _ = U at *
  (refine wp_region_plain (Old U) 4 (Below.refl _ U) ?_; simp only [List.take_succ_cons, List.take_zero, List.drop_succ_cons, List.drop_zero])
  repeat (first | (apply Text.sees (hw := by kernel_rfl); (focus (intro x hx K hK; have hc := (fun _ _ => trivial) x hx; go_simp; exact hK)); simp only [Act.put, List.getElem_toArray, List.getElem_cons_succ, List.getElem_cons_zero, List.setIfInBounds_toArray, List.set_cons_zero, List.set_cons_succ]) | (apply Text.idle; (focus (intro x hx K hK; go_simp; exact hK)); simp only [Act.put, List.getElem_toArray, List.getElem_cons_succ, List.getElem_cons_zero, List.setIfInBounds_toArray, List.set_cons_zero, List.set_cons_succ]))
  (refine Text.val (fun x hx => load_jgeo (.tmp 3) rfl rfl (D.old hx)) (by kernel_rfl) ?_; simp only [Act.put, List.getElem_toArray, List.getElem_cons_succ, List.getElem_cons_zero, List.setIfInBounds_toArray, List.set_cons_zero, List.set_cons_succ])
  (refine Text.call (Old.call fun x hx => cg x) (by kernel_rfl) (fun _ => by kernel_rfl) ?_; simp only [Act.put, List.getElem_toArray, List.getElem_cons_succ, List.getElem_cons_zero, List.setIfInBounds_toArray, List.set_cons_zero, List.set_cons_succ])
  repeat (first | (apply Text.sees (hw := by kernel_rfl); (focus (intro x hx K hK; have hc := (fun _ _ => trivial) x hx; go_simp; exact hK)); simp only [Act.put, List.getElem_toArray, List.getElem_cons_succ, List.getElem_cons_zero, List.setIfInBounds_toArray, List.set_cons_zero, List.set_cons_succ]) | (apply Text.idle; (focus (intro x hx K hK; go_simp; exact hK)); simp only [Act.put, List.getElem_toArray, List.getElem_cons_succ, List.getElem_cons_zero, List.setIfInBounds_toArray, List.set_cons_zero, List.set_cons_succ]))
  intro x hx
  go_wp2_with (refine (c _).mono ?_; rintro e w1 ⟨rfl, rfl⟩)
  go_ret
  exact ⟨rfl, tstep b0 hx b0.size⟩
theorem clause5_any (j : J4) (s : S3) (w : World) : Calls Tryz.prog 23 #[.agg (jobC j s)] w fun e w' => e = .returned (.int .i64 (faultK j 4)) ∧ Below w.heap.size w w' := by
  have D := job_new w j s
  have b0 := tbel1 w (.cells (jobC j s) 29)
  have c := fun w => whole_any (decide (errE j.g = 7)) w
  have cg := fun w => gcheck_any j.g w
  unfold faultK
  generalize wholeK _ = z at *
  generalize errE j.g = n at *
  go_enter Tryz.func23, Tryz.ntmps23
  go_upto_region 1 with (fail)
  generalize w.alloc _ = U at *
  (refine wp_region_plain (Old U) 4 (Below.refl _ U) ?_; simp only [List.take_succ_cons, List.take_zero, List.drop_succ_cons, List.drop_zero])
  repeat (first | (apply Text.sees (hw := by kernel_rfl); (focus (intro x hx K hK; have hc := (fun _ _ => trivial) x hx; go_simp; exact hK)); simp only [Act.put, List.getElem_toArray, List.getElem_cons_succ, List.getElem_cons_zero, List.setIfInBounds_toArray, List.set_cons_zero, List.set_cons_succ]) | (apply Text.idle; (focus (intro x hx K hK; go_simp; exact hK)); simp only [Act.put, List.getElem_toArray, List.getElem_cons_succ, List.getElem_cons_zero, List.setIfInBounds_toArray, List.set_cons_zero, List.set_cons_succ]))
  (refine Text.val (fun x hx => load_jgeo (.tmp 3) rfl rfl (D.old hx)) (by kernel_rfl) ?_; simp only [Act.put, List.getElem_toArray, List.getElem_cons_succ, List.getElem_cons_zero, List.setIfInBounds_toArray, List.set_cons_zero, List.set_cons_succ])
  (refine Text.call (Old.call fun x hx => cg x) (by kernel_rfl) (fun _ => by kernel_rfl) ?_; simp only [Act.put, List.getElem_toArray, List.getElem_cons_succ, List.getElem_cons_zero, List.setIfInBounds_toArray, List.set_cons_zero, List.set_cons_succ])
  repeat (first | (apply Text.sees (hw := by kernel_rfl); (focus (intro x hx K hK; have hc := (fun _ _ => trivial) x hx; go_simp; exact hK)); simp only [Act.put, List.getElem_toArray, List.getElem_cons_succ, List.getElem_cons_zero, List.setIfInBounds_toArray, List.set_cons_zero, List.set_cons_succ]) | (apply Text.idle; (focus (intro x hx K hK; go_simp; exact hK)); simp only [Act.put, List.getElem_toArray, List.getElem_cons_succ, List.getElem_cons_zero, List.setIfInBounds_toArray, List.set_cons_zero, List.set_cons_succ]))
  intro x hx
  go_wp2_with (refine (c _).mono ?_; rintro e w1 ⟨rfl, rfl⟩)
  go_ret
  exact ⟨rfl, tstep b0 hx b0.size⟩
theorem clause6_any (j : J4) (s : S3) (w : World) (hL : Lists w j s) (hn : j.items.length ≤ 1000000) : Calls Tryz.prog 24 #[.agg (jobC j s)] w fun e w' => e = .returned (.int .i64 (faultK j 5)) ∧ Below w.heap.size w w' := by
  have D := job_new w j s
  have b0 := tbel1 w (.cells (jobC j s) 29)
  obtain ⟨t19, t20, t21⟩ := D.three
  have c := Lib.hid fun x (hx : Old (w.alloc (.cells (jobC j s) 29)) x) => wrongI_any s.ia s.ic j.items x (by omega) (hL.items.carry (tstep b0 hx b0.size))
  unfold faultK
  generalize idxK _ _ = z at *
  clear hL D
  go_enter Tryz.func24, Tryz.ntmps24
  go_upto_region 1 with (fail)
  generalize w.alloc _ = U at *
  go_wp2_with (refine (c.out _ (Below.refl _ _)).mono ?_; rintro e w1 ⟨rfl, b1⟩)
  go_ret
  exact ⟨rfl, tstep b0 b1 b0.size⟩
theorem clause7_any (j : J4) (s : S3) (w : World) (hL : Lists w j s) (hn : j.notes.length ≤ 1000000) : Calls Tryz.prog 27 #[.agg (jobC j s)] w fun e w' => e = .returned (.int .i64 (faultK j 6)) ∧ Below w.heap.size w w' := by
  have D := job_new w j s
  have b0 := tbel1 w (.cells (jobC j s) 29)
  obtain ⟨t19, t20, t21⟩ := D.three
  have c := Lib.hid fun x (hx : Old (w.alloc (.cells (jobC j s) 29)) x) => wrongN_any s.na s.nc j.notes x (by omega) (hL.notes.carry (tstep b0 hx b0.size))
  unfold faultK
  generalize idxK _ _ = z at *
  clear hL D
  go_enter Tryz.func27, Tryz.ntmps27
  go_upto_region 1 with (fail)
  generalize w.alloc _ = U at *
  go_wp2_with (refine (c.out _ (Below.refl _ _)).mono ?_; rintro e w1 ⟨rfl, b1⟩)
  go_ret
  exact ⟨rfl, tstep b0 b1 b0.size⟩
theorem clause8_any (j : J4) (s : S3) (w : World) (hL : Lists w j s) (hn : j.floats.length ≤ 1000000) : Calls Tryz.prog 30 #[.agg (jobC j s)] w fun e w' => e = .returned (.int .i64 (faultK j 7)) ∧ Below w.heap.size w w' := by
  have D := job_new w j s
  have b0 := tbel1 w (.cells (jobC j s) 29)
  obtain ⟨t19, t20, t21⟩ := D.three
  have c := Lib.hid fun x (hx : Old (w.alloc (.cells (jobC j s) 29)) x) => wrongF_any s.fa s.fc j.floats x (by omega) (hL.floats.carry (tstep b0 hx b0.size))
  unfold faultK
  generalize idxK _ _ = z at *
  clear hL D
  go_enter Tryz.func30, Tryz.ntmps30
  go_upto_region 1 with (fail)
  generalize w.alloc _ = U at *
  go_wp2_with (refine (c.out _ (Below.refl _ _)).mono ?_; rintro e w1 ⟨rfl, b1⟩)
  go_ret
  exact ⟨rfl, tstep b0 b1 b0.size⟩
theorem stray_any (a : Option Addr) (cap : Nat) (l : List I7) (k c : Int) (w : World) (hn : l.length ≤ 1000000) (hr : Els 7 encI w a l.length fun k => l.getD k zeroI) :
    Calls Tryz.prog 55 #[.slice a l.length cap, .int .i64 k, .int .i64 c] w fun e w' => e = .returned (.int .i64 (strayK l k c)) ∧ Below w.heap.size w w' := by
  have HR := Lib.hid hr
  clear hr
  go_enter Tryz.func55, Tryz.ntmps55
  go_wp2_with fail
  go_loopw [7, 12] (fun u i wr => ∃ m : Nat, m ≤ l.length ∧ i = .int .i64 m ∧ u = .int .i64 (cntUp l k m) ∧ Below w.heap.size w wr ∧ Hid (∀ j, j < m → offK l k c j = false)) (fun _ i _ => l.length - (intOf i).toNat)
  case atStart => exact ⟨0, Nat.zero_le _, rfl, rfl, Below.refl _ _, Lib.hid fun j hj => by omega⟩
  case round =>
    obtain ⟨m, hm, rfl, rfl, bw, HP⟩ := hrel
    by_cases hlt : m < l.length
    · obtain ⟨b, off, rfl, hB, h0, h1, h2, h3, h4, h5, h6⟩ := els7 (HR.out.carry bw) hlt
      have hc := cntUp_in l k m
      have HY : Hid (offK l k c m = true → strayK l k c = m) := Lib.hid fun h => firstK_eq hlt h HP.out
      have HS : Hid (offK l k c m = false → ∀ j, j < m + 1 → offK l k c j = false) := Lib.hid fun h j hj => by
        rcases Nat.lt_or_ge j m with h1 | h1
        · exact HP.out j h1
        · obtain rfl : j = m := by omega
          exact h
      have Q1 := Lib.hid (offK_other (l := l) (k := k) (c := c) (i := m))
      have Q2 := Lib.hid (offK_n (l := l) (k := k) (c := c) (i := m))
      have Q3 := Lib.hid (offK_c (l := l) (k := k) (c := c) (i := m))
      have Q4 := Lib.hid (offK_not (l := l) (k := k) (c := c) (i := m))
      have Q5 := Lib.hid (cntUp_step (l := l) (k := k) (i := m))
      have Q6 := Lib.hid (cntUp_stay (l := l) (k := k) (i := m))
      clear HP
      generalize cntUp l k m = u at *
      generalize l.getD m zeroI = y at *
      obtain ⟨y0, y1, y2, y3, y4, y5, y6⟩ := y
      dsimp only at *
      by_cases hk : y0 = k
      · subst hk
        by_cases hu : y6 = u
        · subst hu
          by_cases hcu : c ≤ y6
          · have e := Lib.hid (HY.out (Q3.out rfl hcu))
            clear HY HS Q1 Q2 Q3 Q4 Q5 Q6
            go_wp2
            go_ret
            exact ⟨by rw [e.out]; rfl, tstep bw (tbel1 _ _) bw.size⟩
          · have e := Lib.hid (HS.out (Q4.out rfl hcu))
            have e2 := Lib.hid (Q5.out rfl)
            clear HY HS Q1 Q2 Q3 Q4 Q5 Q6
            go_wp2
            go_roundw
            case rel => exact ⟨m + 1, by omega, by go_num, by rw [e2.out], tstep bw (tbel1 _ _) bw.size, e⟩
            case measure => simp [intOf]; omega
        · have hne : (y6 != u) = true := by simpa using hu
          have e := Lib.hid (HY.out (Q2.out rfl hu))
          clear HY HS Q1 Q2 Q3 Q4 Q5 Q6
          go_wp2
          go_ret
          exact ⟨by rw [e.out]; rfl, tstep bw (tbel1 _ _) bw.size⟩
      · have hne : (y0 != k) = true := by simpa using hk
        have e := Lib.hid (HS.out (Q1.out hk))
        have e2 := Lib.hid (Q6.out hk)
        clear HY HS Q1 Q2 Q3 Q4 Q5 Q6
        go_wp2
        go_roundw
        case rel => exact ⟨m + 1, by omega, by go_num, by rw [e2.out], tstep bw (tbel1 _ _) bw.size, e⟩
        case measure => simp [intOf]; omega
    · obtain rfl : m = l.length := by omega
      have e : Hid (strayK l k c = l.length) := Lib.hid (firstK_none HP.out)
      clear HP
      go_wp2
      go_ret
      exact ⟨by rw [e.out]; rfl, bw⟩
end Go.Proofs.YthcgncgnbjhniaaGreat
