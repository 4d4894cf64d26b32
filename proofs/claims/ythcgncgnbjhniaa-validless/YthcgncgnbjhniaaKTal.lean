/- unanchored of package valid. tall of package valid, its clauses, Check and Right. -/
import Derived.Test.YthcgncgnbjhniaaKCls
namespace Go.Proofs.Ythcgncgnbjhniaa
open Go.RowKit
set_option maxRecDepth 20000
set_option linter.unusedVariables false
set_option linter.unusedSimpArgs false

theorem els_irw {w : World} {a : Option Addr} {l : List I7} (h : Els 7 encI w a l.length fun k => l.getD k zeroI) : IRw w a l := fun k hk => els7 h hk
theorem min_op {o : Oper} {a : Act} (x y : Operand) (ho : o.op = .call { callee := .builtin .min, args := #[x, y], argTypes := #[3, 3] }) {p q m : Int} (hx : a.eval x = .int .i64 p) (hy : a.eval y = .int .i64 q) (hm : min p q = m) (w : World) :
    (execOp a.eval o).run Try.prog w = .ok (.value (.int .i64 m)) w := by
  unfold execOp
  simp only [ho, resolve, invoke, builtin, Sem.run_bind, Sem.run_pure, Result.andThen_ok, List.map_toArray, List.map_cons, List.map_nil, hx, hy]
  rw [← hm, run_min_int2, show (if q < p then q else p) = min p q by split <;> omega]
  rfl
set_option maxHeartbeats 1000000 in
theorem unanchored_any (j : J4) (s : S3) (w : World) (hL : Lists w j s) (hn : j.items.length ≤ 1000000) :
    Calls Try.prog 32 #[.agg (jobC j s)] w fun e w' => e = .returned (.int .i64 (faultK j 8)) ∧ Below w.heap.size w w' := by
  have D := job_new w j s
  have b0 := tbel1 w (.cells (jobC j s) 35)
  have m2 := Nat.le_trans hL.nc.1 hL.nc.2
  have m3 := Nat.le_trans hL.fc.1 hL.fc.2
  simp only [maxLen] at m2 m3
  have CI := Lib.hid fun x (hx : Old (w.alloc (.cells (jobC j s) 35)) x) => hL.items.carry (tstep b0 hx b0.size)
  have cs5 := Lib.hid fun x (hx : Old (w.alloc (.cells (jobC j s) 35)) x) => stray_any s.ia s.ic j.items 5 j.notes.length x hn (CI.out x hx)
  have cs6 := Lib.hid fun x (hx : Old (w.alloc (.cells (jobC j s) 35)) x) => stray_any s.ia s.ic j.items 6 j.floats.length x hn (CI.out x hx)
  have cc5 := Lib.hid fun x (hx : Old (w.alloc (.cells (jobC j s) 35)) x) => Count_any s.ia s.ic j.items 5 x hn (by decide) (els_irw (CI.out x hx))
  have cc6 := Lib.hid fun x (hx : Old (w.alloc (.cells (jobC j s) 35)) x) => Count_any s.ia s.ic j.items 6 x hn (by decide) (els_irw (CI.out x hx))
  have CE := Lib.hid fun x (hx : Old (w.alloc (.cells (jobC j s) 35)) x) => (D.old hx).three
  unfold faultK unK
  dsimp only
  clear CI hL D
  generalize strayK j.items 5 j.notes.length = S5 at *
  generalize strayK j.items 6 j.floats.length = S6 at *
  generalize cntUp j.items 5 j.items.length = C5 at *
  generalize cntUp j.items 6 j.items.length = C6 at *
  generalize j.items.length = n at *
  generalize j.notes.length = N5 at *
  generalize j.floats.length = N6 at *
  obtain ⟨A, hA⟩ : ∃ A : Int, min (S5 : Int) (S6 : Int) = A := ⟨_, rfl⟩
  rw [hA]
  have HA := Lib.hid hA
  clear hA
  by_cases h1 : A = (n : Int)
  · by_cases h2 : C5 = (N5 : Int)
    · by_cases h3 : C6 = (N6 : Int)
      · rw [if_pos ⟨h1, h2, h3⟩]
        have e1 := beq_iff_eq.2 h1
        have e2 := beq_iff_eq.2 h2
        have e3 := beq_iff_eq.2 h3
        have CE2 := Lib.hid fun x hx => And.intro e1 (And.intro e2 (And.intro e3 (CE.out x hx)))
        clear h1 h2 h3 e1 e2 e3
        go_enter Try.func32, Try.ntmps32
        go_upto_region 1 with (fail)
        generalize w.alloc _ = U at *
        (refine wp_region_text (Old U) 13 (by kernel_rfl) (by kernel_rfl) (Below.refl _ U).drew ?_; simp only [List.take_succ_cons, List.take_zero, List.drop_succ_cons, List.drop_zero])
        repeat (first | (apply Text.sees (hw := by kernel_rfl); (focus (intro x hx K hK; have hc := CE.out x hx; go_simp; exact hK)); simp only [Act.put, List.getElem_toArray, List.getElem_cons_succ, List.getElem_cons_zero, List.setIfInBounds_toArray, List.set_cons_zero, List.set_cons_succ]) | (apply Text.idle; (focus (intro x hx K hK; go_simp; exact hK)); simp only [Act.put, List.getElem_toArray, List.getElem_cons_succ, List.getElem_cons_zero, List.setIfInBounds_toArray, List.set_cons_zero, List.set_cons_succ]))
        (refine Text.call (Old.call fun x hx => cs5.out x hx) (by kernel_rfl) (fun _ => by kernel_rfl) ?_; simp only [Act.put, List.getElem_toArray, List.getElem_cons_succ, List.getElem_cons_zero, List.setIfInBounds_toArray, List.set_cons_zero, List.set_cons_succ])
        repeat (first | (apply Text.sees (hw := by kernel_rfl); (focus (intro x hx K hK; have hc := CE.out x hx; go_simp; exact hK)); simp only [Act.put, List.getElem_toArray, List.getElem_cons_succ, List.getElem_cons_zero, List.setIfInBounds_toArray, List.set_cons_zero, List.set_cons_succ]) | (apply Text.idle; (focus (intro x hx K hK; go_simp; exact hK)); simp only [Act.put, List.getElem_toArray, List.getElem_cons_succ, List.getElem_cons_zero, List.setIfInBounds_toArray, List.set_cons_zero, List.set_cons_succ]))
        (refine Text.call (Old.call fun x hx => cs6.out x hx) (by kernel_rfl) (fun _ => by kernel_rfl) ?_; simp only [Act.put, List.getElem_toArray, List.getElem_cons_succ, List.getElem_cons_zero, List.setIfInBounds_toArray, List.set_cons_zero, List.set_cons_succ])
        (refine Text.val (fun x _ => min_op (.tmp 9) (.tmp 15) rfl rfl rfl HA.out x) (by kernel_rfl) ?_; simp only [Act.put, List.getElem_toArray, List.getElem_cons_succ, List.getElem_cons_zero, List.setIfInBounds_toArray, List.set_cons_zero, List.set_cons_succ])
        intro V hV
        go_upto_region 2 with (fail)
        (refine wp_region_text (Old U) 22 (by kernel_rfl) (by kernel_rfl) hV.drew ?_; simp only [List.take_succ_cons, List.take_zero, List.drop_succ_cons, List.drop_zero])
        repeat (first | (apply Text.sees (hw := by kernel_rfl); (focus (intro x hx K hK; have hc := CE2.out x hx; go_simp; exact hK)); simp only [Act.put, List.getElem_toArray, List.getElem_cons_succ, List.getElem_cons_zero, List.setIfInBounds_toArray, List.set_cons_zero, List.set_cons_succ]) | (apply Text.idle; (focus (intro x hx K hK; go_simp; exact hK)); simp only [Act.put, List.getElem_toArray, List.getElem_cons_succ, List.getElem_cons_zero, List.setIfInBounds_toArray, List.set_cons_zero, List.set_cons_succ]))
        (refine Text.call (Old.call fun x hx => cc5.out x hx) (by kernel_rfl) (fun _ => by kernel_rfl) ?_; simp only [Act.put, List.getElem_toArray, List.getElem_cons_succ, List.getElem_cons_zero, List.setIfInBounds_toArray, List.set_cons_zero, List.set_cons_succ])
        repeat (first | (apply Text.sees (hw := by kernel_rfl); (focus (intro x hx K hK; have hc := CE2.out x hx; go_simp; exact hK)); simp only [Act.put, List.getElem_toArray, List.getElem_cons_succ, List.getElem_cons_zero, List.setIfInBounds_toArray, List.set_cons_zero, List.set_cons_succ]) | (apply Text.idle; (focus (intro x hx K hK; go_simp; exact hK)); simp only [Act.put, List.getElem_toArray, List.getElem_cons_succ, List.getElem_cons_zero, List.setIfInBounds_toArray, List.set_cons_zero, List.set_cons_succ]))
        (refine Text.call (Old.call fun x hx => cc6.out x hx) (by kernel_rfl) (fun _ => by kernel_rfl) ?_; simp only [Act.put, List.getElem_toArray, List.getElem_cons_succ, List.getElem_cons_zero, List.setIfInBounds_toArray, List.set_cons_zero, List.set_cons_succ])
        repeat (first | (apply Text.sees (hw := by kernel_rfl); (focus (intro x hx K hK; have hc := CE2.out x hx; go_simp; exact hK)); simp only [Act.put, List.getElem_toArray, List.getElem_cons_succ, List.getElem_cons_zero, List.setIfInBounds_toArray, List.set_cons_zero, List.set_cons_succ]) | (apply Text.idle; (focus (intro x hx K hK; go_simp; exact hK)); simp only [Act.put, List.getElem_toArray, List.getElem_cons_succ, List.getElem_cons_zero, List.setIfInBounds_toArray, List.set_cons_zero, List.set_cons_succ]))
        intro x hx
        go_wp2
        go_ret
        exact ⟨rfl, tstep b0 hx b0.size⟩
      · rw [if_neg fun h => h3 h.2.2]
        have e1 := beq_iff_eq.2 h1
        have e2 := beq_iff_eq.2 h2
        have e3 : (C6 == (N6 : Int)) = false := by simpa using h3
        have CE2 := Lib.hid fun x hx => And.intro e1 (And.intro e2 (And.intro e3 (CE.out x hx)))
        clear h1 h2 h3 e1 e2 e3
        go_enter Try.func32, Try.ntmps32
        go_upto_region 1 with (fail)
        generalize w.alloc _ = U at *
        (refine wp_region_text (Old U) 13 (by kernel_rfl) (by kernel_rfl) (Below.refl _ U).drew ?_; simp only [List.take_succ_cons, List.take_zero, List.drop_succ_cons, List.drop_zero])
        repeat (first | (apply Text.sees (hw := by kernel_rfl); (focus (intro x hx K hK; have hc := CE.out x hx; go_simp; exact hK)); simp only [Act.put, List.getElem_toArray, List.getElem_cons_succ, List.getElem_cons_zero, List.setIfInBounds_toArray, List.set_cons_zero, List.set_cons_succ]) | (apply Text.idle; (focus (intro x hx K hK; go_simp; exact hK)); simp only [Act.put, List.getElem_toArray, List.getElem_cons_succ, List.getElem_cons_zero, List.setIfInBounds_toArray, List.set_cons_zero, List.set_cons_succ]))
        (refine Text.call (Old.call fun x hx => cs5.out x hx) (by kernel_rfl) (fun _ => by kernel_rfl) ?_; simp only [Act.put, List.getElem_toArray, List.getElem_cons_succ, List.getElem_cons_zero, List.setIfInBounds_toArray, List.set_cons_zero, List.set_cons_succ])
        repeat (first | (apply Text.sees (hw := by kernel_rfl); (focus (intro x hx K hK; have hc := CE.out x hx; go_simp; exact hK)); simp only [Act.put, List.getElem_toArray, List.getElem_cons_succ, List.getElem_cons_zero, List.setIfInBounds_toArray, List.set_cons_zero, List.set_cons_succ]) | (apply Text.idle; (focus (intro x hx K hK; go_simp; exact hK)); simp only [Act.put, List.getElem_toArray, List.getElem_cons_succ, List.getElem_cons_zero, List.setIfInBounds_toArray, List.set_cons_zero, List.set_cons_succ]))
        (refine Text.call (Old.call fun x hx => cs6.out x hx) (by kernel_rfl) (fun _ => by kernel_rfl) ?_; simp only [Act.put, List.getElem_toArray, List.getElem_cons_succ, List.getElem_cons_zero, List.setIfInBounds_toArray, List.set_cons_zero, List.set_cons_succ])
        (refine Text.val (fun x _ => min_op (.tmp 9) (.tmp 15) rfl rfl rfl HA.out x) (by kernel_rfl) ?_; simp only [Act.put, List.getElem_toArray, List.getElem_cons_succ, List.getElem_cons_zero, List.setIfInBounds_toArray, List.set_cons_zero, List.set_cons_succ])
        intro V hV
        go_upto_region 2 with (fail)
        (refine wp_region_text (Old U) 22 (by kernel_rfl) (by kernel_rfl) hV.drew ?_; simp only [List.take_succ_cons, List.take_zero, List.drop_succ_cons, List.drop_zero])
        repeat (first | (apply Text.sees (hw := by kernel_rfl); (focus (intro x hx K hK; have hc := CE2.out x hx; go_simp; exact hK)); simp only [Act.put, List.getElem_toArray, List.getElem_cons_succ, List.getElem_cons_zero, List.setIfInBounds_toArray, List.set_cons_zero, List.set_cons_succ]) | (apply Text.idle; (focus (intro x hx K hK; go_simp; exact hK)); simp only [Act.put, List.getElem_toArray, List.getElem_cons_succ, List.getElem_cons_zero, List.setIfInBounds_toArray, List.set_cons_zero, List.set_cons_succ]))
        (refine Text.call (Old.call fun x hx => cc5.out x hx) (by kernel_rfl) (fun _ => by kernel_rfl) ?_; simp only [Act.put, List.getElem_toArray, List.getElem_cons_succ, List.getElem_cons_zero, List.setIfInBounds_toArray, List.set_cons_zero, List.set_cons_succ])
        repeat (first | (apply Text.sees (hw := by kernel_rfl); (focus (intro x hx K hK; have hc := CE2.out x hx; go_simp; exact hK)); simp only [Act.put, List.getElem_toArray, List.getElem_cons_succ, List.getElem_cons_zero, List.setIfInBounds_toArray, List.set_cons_zero, List.set_cons_succ]) | (apply Text.idle; (focus (intro x hx K hK; go_simp; exact hK)); simp only [Act.put, List.getElem_toArray, List.getElem_cons_succ, List.getElem_cons_zero, List.setIfInBounds_toArray, List.set_cons_zero, List.set_cons_succ]))
        (refine Text.call (Old.call fun x hx => cc6.out x hx) (by kernel_rfl) (fun _ => by kernel_rfl) ?_; simp only [Act.put, List.getElem_toArray, List.getElem_cons_succ, List.getElem_cons_zero, List.setIfInBounds_toArray, List.set_cons_zero, List.set_cons_succ])
        repeat (first | (apply Text.sees (hw := by kernel_rfl); (focus (intro x hx K hK; have hc := CE2.out x hx; go_simp; exact hK)); simp only [Act.put, List.getElem_toArray, List.getElem_cons_succ, List.getElem_cons_zero, List.setIfInBounds_toArray, List.set_cons_zero, List.set_cons_succ]) | (apply Text.idle; (focus (intro x hx K hK; go_simp; exact hK)); simp only [Act.put, List.getElem_toArray, List.getElem_cons_succ, List.getElem_cons_zero, List.setIfInBounds_toArray, List.set_cons_zero, List.set_cons_succ]))
        intro x hx
        go_wp2
        go_ret
        exact ⟨rfl, tstep b0 hx b0.size⟩
    · rw [if_neg fun h => h2 h.2.1]
      have e1 := beq_iff_eq.2 h1
      have e2 : (C5 == (N5 : Int)) = false := by simpa using h2
      have CE2 := Lib.hid fun x hx => And.intro e1 (And.intro e2 (CE.out x hx))
      clear h1 h2 e1 e2
      go_enter Try.func32, Try.ntmps32
      go_upto_region 1 with (fail)
      generalize w.alloc _ = U at *
      (refine wp_region_text (Old U) 13 (by kernel_rfl) (by kernel_rfl) (Below.refl _ U).drew ?_; simp only [List.take_succ_cons, List.take_zero, List.drop_succ_cons, List.drop_zero])
      repeat (first | (apply Text.sees (hw := by kernel_rfl); (focus (intro x hx K hK; have hc := CE.out x hx; go_simp; exact hK)); simp only [Act.put, List.getElem_toArray, List.getElem_cons_succ, List.getElem_cons_zero, List.setIfInBounds_toArray, List.set_cons_zero, List.set_cons_succ]) | (apply Text.idle; (focus (intro x hx K hK; go_simp; exact hK)); simp only [Act.put, List.getElem_toArray, List.getElem_cons_succ, List.getElem_cons_zero, List.setIfInBounds_toArray, List.set_cons_zero, List.set_cons_succ]))
      (refine Text.call (Old.call fun x hx => cs5.out x hx) (by kernel_rfl) (fun _ => by kernel_rfl) ?_; simp only [Act.put, List.getElem_toArray, List.getElem_cons_succ, List.getElem_cons_zero, List.setIfInBounds_toArray, List.set_cons_zero, List.set_cons_succ])
      repeat (first | (apply Text.sees (hw := by kernel_rfl); (focus (intro x hx K hK; have hc := CE.out x hx; go_simp; exact hK)); simp only [Act.put, List.getElem_toArray, List.getElem_cons_succ, List.getElem_cons_zero, List.setIfInBounds_toArray, List.set_cons_zero, List.set_cons_succ]) | (apply Text.idle; (focus (intro x hx K hK; go_simp; exact hK)); simp only [Act.put, List.getElem_toArray, List.getElem_cons_succ, List.getElem_cons_zero, List.setIfInBounds_toArray, List.set_cons_zero, List.set_cons_succ]))
      (refine Text.call (Old.call fun x hx => cs6.out x hx) (by kernel_rfl) (fun _ => by kernel_rfl) ?_; simp only [Act.put, List.getElem_toArray, List.getElem_cons_succ, List.getElem_cons_zero, List.setIfInBounds_toArray, List.set_cons_zero, List.set_cons_succ])
      (refine Text.val (fun x _ => min_op (.tmp 9) (.tmp 15) rfl rfl rfl HA.out x) (by kernel_rfl) ?_; simp only [Act.put, List.getElem_toArray, List.getElem_cons_succ, List.getElem_cons_zero, List.setIfInBounds_toArray, List.set_cons_zero, List.set_cons_succ])
      intro V hV
      go_upto_region 2 with (fail)
      (refine wp_region_text (Old U) 22 (by kernel_rfl) (by kernel_rfl) hV.drew ?_; simp only [List.take_succ_cons, List.take_zero, List.drop_succ_cons, List.drop_zero])
      repeat (first | (apply Text.sees (hw := by kernel_rfl); (focus (intro x hx K hK; have hc := CE2.out x hx; go_simp; exact hK)); simp only [Act.put, List.getElem_toArray, List.getElem_cons_succ, List.getElem_cons_zero, List.setIfInBounds_toArray, List.set_cons_zero, List.set_cons_succ]) | (apply Text.idle; (focus (intro x hx K hK; go_simp; exact hK)); simp only [Act.put, List.getElem_toArray, List.getElem_cons_succ, List.getElem_cons_zero, List.setIfInBounds_toArray, List.set_cons_zero, List.set_cons_succ]))
      (refine Text.call (Old.call fun x hx => cc5.out x hx) (by kernel_rfl) (fun _ => by kernel_rfl) ?_; simp only [Act.put, List.getElem_toArray, List.getElem_cons_succ, List.getElem_cons_zero, List.setIfInBounds_toArray, List.set_cons_zero, List.set_cons_succ])
      repeat (first | (apply Text.sees (hw := by kernel_rfl); (focus (intro x hx K hK; have hc := CE2.out x hx; go_simp; exact hK)); simp only [Act.put, List.getElem_toArray, List.getElem_cons_succ, List.getElem_cons_zero, List.setIfInBounds_toArray, List.set_cons_zero, List.set_cons_succ]) | (apply Text.idle; (focus (intro x hx K hK; go_simp; exact hK)); simp only [Act.put, List.getElem_toArray, List.getElem_cons_succ, List.getElem_cons_zero, List.setIfInBounds_toArray, List.set_cons_zero, List.set_cons_succ]))
      intro x hx
      go_wp2
      go_ret
      exact ⟨rfl, tstep b0 hx b0.size⟩
  · rw [if_neg fun h => h1 h.1]
    have e1 : (A == (n : Int)) = false := by simpa using h1
    have CE2 := Lib.hid fun x hx => And.intro e1 (CE.out x hx)
    clear h1 e1
    go_enter Try.func32, Try.ntmps32
    go_upto_region 1 with (fail)
    generalize w.alloc _ = U at *
    (refine wp_region_text (Old U) 13 (by kernel_rfl) (by kernel_rfl) (Below.refl _ U).drew ?_; simp only [List.take_succ_cons, List.take_zero, List.drop_succ_cons, List.drop_zero])
    repeat (first | (apply Text.sees (hw := by kernel_rfl); (focus (intro x hx K hK; have hc := CE.out x hx; go_simp; exact hK)); simp only [Act.put, List.getElem_toArray, List.getElem_cons_succ, List.getElem_cons_zero, List.setIfInBounds_toArray, List.set_cons_zero, List.set_cons_succ]) | (apply Text.idle; (focus (intro x hx K hK; go_simp; exact hK)); simp only [Act.put, List.getElem_toArray, List.getElem_cons_succ, List.getElem_cons_zero, List.setIfInBounds_toArray, List.set_cons_zero, List.set_cons_succ]))
    (refine Text.call (Old.call fun x hx => cs5.out x hx) (by kernel_rfl) (fun _ => by kernel_rfl) ?_; simp only [Act.put, List.getElem_toArray, List.getElem_cons_succ, List.getElem_cons_zero, List.setIfInBounds_toArray, List.set_cons_zero, List.set_cons_succ])
    repeat (first | (apply Text.sees (hw := by kernel_rfl); (focus (intro x hx K hK; have hc := CE.out x hx; go_simp; exact hK)); simp only [Act.put, List.getElem_toArray, List.getElem_cons_succ, List.getElem_cons_zero, List.setIfInBounds_toArray, List.set_cons_zero, List.set_cons_succ]) | (apply Text.idle; (focus (intro x hx K hK; go_simp; exact hK)); simp only [Act.put, List.getElem_toArray, List.getElem_cons_succ, List.getElem_cons_zero, List.setIfInBounds_toArray, List.set_cons_zero, List.set_cons_succ]))
    (refine Text.call (Old.call fun x hx => cs6.out x hx) (by kernel_rfl) (fun _ => by kernel_rfl) ?_; simp only [Act.put, List.getElem_toArray, List.getElem_cons_succ, List.getElem_cons_zero, List.setIfInBounds_toArray, List.set_cons_zero, List.set_cons_succ])
    (refine Text.val (fun x _ => min_op (.tmp 9) (.tmp 15) rfl rfl rfl HA.out x) (by kernel_rfl) ?_; simp only [Act.put, List.getElem_toArray, List.getElem_cons_succ, List.getElem_cons_zero, List.setIfInBounds_toArray, List.set_cons_zero, List.set_cons_succ])
    intro V hV
    go_upto_region 2 with (fail)
    (refine wp_region_text (Old U) 22 (by kernel_rfl) (by kernel_rfl) hV.drew ?_; simp only [List.take_succ_cons, List.take_zero, List.drop_succ_cons, List.drop_zero])
    repeat (first | (apply Text.sees (hw := by kernel_rfl); (focus (intro x hx K hK; have hc := CE2.out x hx; go_simp; exact hK)); simp only [Act.put, List.getElem_toArray, List.getElem_cons_succ, List.getElem_cons_zero, List.setIfInBounds_toArray, List.set_cons_zero, List.set_cons_succ]) | (apply Text.idle; (focus (intro x hx K hK; go_simp; exact hK)); simp only [Act.put, List.getElem_toArray, List.getElem_cons_succ, List.getElem_cons_zero, List.setIfInBounds_toArray, List.set_cons_zero, List.set_cons_succ]))
    intro x hx
    go_wp2
    go_ret
    exact ⟨rfl, tstep b0 hx b0.size⟩
end Go.Proofs.Ythcgncgnbjhniaa
namespace Go.Proofs.Ythcgncgnbjhniaa
open Go.RowKit
set_option maxRecDepth 20000
set_option linter.unusedVariables false
set_option linter.unusedSimpArgs false

theorem tall_clo (x : F3) (b : Nat) (j : J4) (s : S3) (w : World) (hD : JobAt w b j s) :
    Calls Try.prog 52 #[flt x, .pointer (some ⟨b, 0, none⟩)] w fun e w' => e = .returned (.bool (decide (j.g.first < x.h))) ∧ Below w.heap.size w w' := by
  have q := hD.geo.2.2.2.2.1
  have hlt : b < w.heap.size := Blk.lt hD
  clear hD
  obtain ⟨c, h, p⟩ := x
  unfold flt
  dsimp only
  go_enter Try.func52, Try.ntmps52
  go_wp2
  go_ret
  exact ⟨rfl, tbel1 w _⟩
theorem build_val {o : Oper} {a : Act} (w : World) (t : TypeId) (parts : Array (Nat × Operand)) (ho : o.op = .build t parts) (cells : Array Value) (hb : Try.prog.built t (parts.map fun (i, x) => (i, a.eval x)).toList = some cells) :
    (execOp a.eval o).run Try.prog w = .ok (.value (.agg cells)) w := by
  unfold execOp
  simp only [ho, Sem.run_bind, run_build w t _ cells hb, Result.andThen_ok]
  rfl
theorem bare_lists {w : World} {j : J4} {s : S3} (h : Lists w j s) : Lists w (bareJ j) ⟨none, 0, none, 0, s.fa, s.fc⟩ :=
  ⟨⟨h.ins.1, fun k => (zero_in 0).1, h.ins.2.2⟩, fun k i hk _ => absurd hk (Nat.not_lt_zero k), ⟨fun _ => ⟨none, 0, 0, none, 0, 0⟩, fun k i hk _ => absurd hk (Nat.not_lt_zero k), fun k hk => absurd hk (Nat.not_lt_zero k)⟩, h.floats, ⟨Nat.le_refl _, Nat.zero_le _⟩, ⟨Nat.le_refl _, Nat.zero_le _⟩, h.fc⟩
theorem bare_few {j : J4} (h : Few j) : Few (bareJ j) := ⟨by simp [bareJ], by simp [bareJ], h.2.2.1, fun k => by simp [bareJ, zeroN]⟩
theorem bare_len {j : J4} (hf : Few j) : (snapJ (bareJ j)).floats.length ≤ 1000000 := by
  have h1 := hf.2.2.1
  have e : (snapJ (bareJ j)).floats.length = j.floats.length := by
    unfold snapJ
    split
    · rfl
    · exact List.length_map ..
  omega
theorem fault9 (j : J4) : faultK j 9 = idxK (tallQ (snapJ (bareJ j)).floats (snapJ (bareJ j)).g.first) (snapJ (bareJ j)).floats.length := (tallK_bare j).symm
set_option maxHeartbeats 1000000 in
theorem tall_any (j : J4) (s : S3) (w : World) (hL : Lists w j s) (hf : Few j) :
    Calls Try.prog 33 #[.agg (jobC j s)] w fun e w' => e = .returned (.int .i64 (faultK j 9)) ∧ Below w.heap.size w w' := by
  have D := job_new w j s
  have b0 := tbel1 w (.cells (jobC j s) 35)
  have c1 := Lib.hid fun x (hx : Old (w.alloc (.cells (jobC j s) 35)) x) => snap_any (bareJ j) ⟨none, 0, none, 0, s.fa, s.fc⟩ x (bare_lists (hL.carry (tstep b0 hx b0.size))) (bare_few hf)
  have hlen := bare_len hf
  rw [fault9 j]
  generalize hz : idxK (tallQ (snapJ (bareJ j)).floats (snapJ (bareJ j)).g.first) (snapJ (bareJ j)).floats.length = z
  have HZ := Lib.hid hz
  clear hz
  have t21 := D.three.2.2
  clear hL hf
  have CE := Lib.hid fun x (hx : Old (w.alloc (.cells (jobC j s) 35)) x) => (D.old hx).three.2.2
  go_enter Try.func33, Try.ntmps33
  go_upto_region 1 with (fail)
  generalize w.alloc _ = U at *
  (refine wp_region_plain (Old U) 5 (Below.refl _ U) ?_; simp only [List.take_succ_cons, List.take_zero, List.drop_succ_cons, List.drop_zero])
  (apply Text.sees (hw := by kernel_rfl); (focus (intro x hx K hK; have hc := (fun _ _ => trivial) x hx; go_simp; exact hK)); simp only [Act.put, List.getElem_toArray, List.getElem_cons_succ, List.getElem_cons_zero, List.setIfInBounds_toArray, List.set_cons_zero, List.set_cons_succ])
  (refine Text.val (fun x hx => load_jgeo (.tmp 4) rfl rfl (D.old hx)) (by kernel_rfl) ?_; simp only [Act.put, List.getElem_toArray, List.getElem_cons_succ, List.getElem_cons_zero, List.setIfInBounds_toArray, List.set_cons_zero, List.set_cons_succ])
  (apply Text.sees (hw := by kernel_rfl); (focus (intro x hx K hK; have hc := (fun _ _ => trivial) x hx; go_simp; exact hK)); simp only [Act.put, List.getElem_toArray, List.getElem_cons_succ, List.getElem_cons_zero, List.setIfInBounds_toArray, List.set_cons_zero, List.set_cons_succ])
  (apply Text.sees (hw := by kernel_rfl); (focus (intro x hx K hK; have hc := CE.out x hx; go_simp; exact hK)); simp only [Act.put, List.getElem_toArray, List.getElem_cons_succ, List.getElem_cons_zero, List.setIfInBounds_toArray, List.set_cons_zero, List.set_cons_succ])
  (refine Text.val (fun x hx => build_val x 35 _ rfl (jobC (bareJ j) ⟨none, 0, none, 0, s.fa, s.fc⟩) (by kernel_rfl)) (by kernel_rfl) ?_; simp only [Act.put, List.getElem_toArray, List.getElem_cons_succ, List.getElem_cons_zero, List.setIfInBounds_toArray, List.set_cons_zero, List.set_cons_succ])
  intro x hx
  refine wpl_call (V := fun v y => ∃ a, v = .agg (jobC (snapJ (bareJ j)) a) ∧ Lists y (snapJ (bareJ j)) a ∧ Below x.heap.size x y) rfl (by kernel_rfl) ((c1.out x hx).mono fun e y h => by obtain ⟨a, r1, r2, r3⟩ := h; exact ⟨_, r1, a, rfl, r2, r3⟩) ?_
  rintro v w1 ⟨s1, rfl, hL1, b1⟩
  simp only [Act.put, List.getElem_toArray, List.getElem_cons_succ, List.getElem_cons_zero, List.setIfInBounds_toArray, List.set_cons_zero, List.set_cons_succ]
  refine make_job (j := snapJ (bareJ j)) (s := s1) rfl rfl rfl (.tmp 3) (.tmp 9) rfl rfl rfl ?_
  simp only [Act.put, List.getElem_toArray, List.getElem_cons_succ, List.getElem_cons_zero, List.setIfInBounds_toArray, List.set_cons_zero, List.set_cons_succ]
  have D1 := job_new w1 (snapJ (bareJ j)) s1
  have b2 := tbel1 w1 (.cells (jobC (snapJ (bareJ j)) s1) 35)
  replace hL1 := hL1.carry b2
  replace b1 := tstep (tstep b0 hx b0.size) (tstep b1 b2 b1.size) (tstep b0 hx b0.size).size
  clear c1 CE D t21 b2 hx
  go_upto_region 2 with (fail)
  generalize w1.heap.size = q at *
  generalize w1.alloc _ = W at *
  have c2 := findF_any s1.fa (snapJ (bareJ j)).floats.length s1.fc 52 (fun k => (snapJ (bareJ j)).floats.getD k zeroF) (tallQ (snapJ (bareJ j)).floats (snapJ (bareJ j)).g.first) (.pointer (some ⟨q, 0, none⟩)) W hlen hL1.floats (fun v w => by kernel_rfl) fun k hk x hx => tall_clo _ q _ s1 x (D1.old hx)
  have t21 := D1.three.2.2
  rw [HZ.out] at c2
  clear hlen hL1 D1 HZ
  go_wp2_with (refine c2.mono ?_; rintro e w2 ⟨rfl, b2⟩)
  go_ret
  exact ⟨rfl, tstep b1 b2 b1.size⟩
end Go.Proofs.Ythcgncgnbjhniaa
