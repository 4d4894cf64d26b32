/- Ahead, Behind, Club and Widow of package para. -/
import Derived.Test.YtopifminodlpbaaPBox
namespace Go.Proofs.Ytopifminodlpbaa
open Go.RowKit
set_option maxRecDepth 20000
set_option linter.unusedVariables false
set_option linter.unusedSimpArgs false

theorem pdown_any (v : Value) (l : List I7) (b : Int) (p : Nat) (w : World) (h : VAt w v l) (hl : l.length ≤ 1000000) (hp : Blk w p #[.int .i64 b] 3) :
    Calls Try.prog 25 #[v, .int .i64 (min b ((l.length : Int) - 1)), .int .i64 (-1), .func (.func 27) #[] #[.pointer (some ⟨p, 0, none⟩)]] w fun e w' => e = .returned (.int .i64 (aheadV l b)) ∧ Below w.heap.size w w' := by
  rw [← aheadV_from]
  exact pbox_any v _ l _ (-1) 27 (fun n => decide (n < b)) (dnT l b) (fun n => (n + 1).toNat) (fun n => n < l.length) w h hl (.inr rfl) (by omega)
    (fun n => dnT_0) (fun n _ => dnT_1) (fun n _ => dnT_2) (fun x w => by kernel_rfl) (fun n x hb => pdn_any n b p x (hp.old hb))
theorem pupto_any (v : Value) (l : List I7) (b : Int) (p : Nat) (w : World) (h : VAt w v l) (hl : l.length ≤ 1000000) (hp : Blk w p #[.int .i64 b] 3) :
    Calls Try.prog 25 #[v, .int .i64 (max b 0), .int .i64 1, .func (.func 28) #[] #[.pointer (some ⟨p, 0, none⟩)]] w fun e w' => e = .returned (.int .i64 (behindV l b)) ∧ Below w.heap.size w w' := by
  rw [← behindV_from]
  exact pbox_any v _ l _ 1 28 (fun n => decide (b ≤ n)) (upT l b) (fun n => (l.length - n).toNat) (fun n => 0 ≤ n) w h hl (.inl rfl) (by omega)
    (fun n => upT_0) (fun n _ => upT_1) (fun n _ => upT_2) (fun x w => by kernel_rfl) (fun n x hb => pup_any n b p x (hp.old hb))
theorem pbehind_any (v : Value) (l : List I7) (b : Int) (w : World) (h : VAt w v l) (hl : l.length ≤ 1000000) :
    Calls Try.prog 12 #[v, .int .i64 b] w fun e w' => e = .returned (.int .i64 (behindV l b)) ∧ Below w.heap.size w w' := by
  have b0 := tbel1 w (.cells #[.int .i64 b] 3)
  have c := pupto_any v l b w.heap.size _ (h.carry b0) hl (blk_new w _ _)
  clear h
  generalize behindV l b = r at *
  by_cases h0 : b < 0
  · have e : max b 0 = 0 := by omega
    rw [e] at c
    go_enter Try.func12, Try.ntmps12
    go_wp2_with fail
    refine c.mono ?_
    rintro e w1 ⟨rfl, b1⟩
    replace b1 := tstep b0 b1 b0.size
    clear c
    go_wp2
    go_ret
    exact ⟨rfl, b1⟩
  · have e : max b 0 = b := by omega
    rw [e] at c
    go_enter Try.func12, Try.ntmps12
    go_wp2_with fail
    refine c.mono ?_
    rintro e w1 ⟨rfl, b1⟩
    replace b1 := tstep b0 b1 b0.size
    clear c
    go_wp2
    go_ret
    exact ⟨rfl, b1⟩
theorem below_same {F : Nat} {args : Array Value} {v : Value} {w : World} (c : Calls Try.prog F args w fun e w' => e = .returned v ∧ w' = w) : Calls Try.prog F args w fun e w' => e = .returned v ∧ Below w.heap.size w w' :=
  c.mono fun e w' ⟨h1, h2⟩ => ⟨h1, h2 ▸ Below.refl _ _⟩
theorem pahead_any (v : Value) (l : List I7) (b : Int) (w : World) (h : VAt w v l) (hl : l.length ≤ 1000000) :
    Calls Try.prog 10 #[v, .int .i64 b] w fun e w' => e = .returned (.int .i64 (aheadV l b)) ∧ Below w.heap.size w w' := by
  have b0 := tbel1 w (.cells #[.int .i64 b] 3)
  have B := blk_new w #[.int .i64 b] 3
  have V := h.carry b0
  clear h
  generalize hG : w.heap.size = g at *
  generalize hW : w.alloc (.cells #[.int .i64 b] 3) = W at *
  have CL := Lib.hid fun x (hx : Old W x) => below_same (vlen_any v l x (V.carry hx))
  have CB := Lib.hid fun x (hx : Old W x) => pdown_any v l b g x (V.carry hx) hl (B.old hx)
  have CE : Hid (∀ x, Old W x → x.cell? ⟨g, 0, none⟩ = some (.int .i64 b)) := Lib.hid fun x hx => (B.old hx).uno
  have b1 := fun x (hx : Old W x) => tstep b0 hx (by rw [← hG]; exact b0.size)
  clear V B
  generalize aheadV l b = r at *
  generalize l.length = n at *
  have u1 : IntKind.i64.wrap ((n : Int) - 1) = (n : Int) - 1 := by rw [IntKind.wrap_i64]; omega
  obtain ⟨m, hm⟩ : ∃ m, m = min b ((n : Int) - 1) := ⟨_, rfl⟩
  rw [← hm] at CB
  have hi : (if IntKind.i64.wrap ((n : Int) - 1) < b then IntKind.i64.wrap ((n : Int) - 1) else b) = m := by rw [u1]; split <;> omega
  clear hm u1
  go_enter Try.func10, Try.ntmps10
  go_wp2_with fail
  go_upto_region 0 with (fail)
  try rw [hG]
  try rw [hW]
  (refine wp_region_text (Old W) 8 (by kernel_rfl) (by kernel_rfl) (Below.refl _ W).drew ?_; simp only [List.take_succ_cons, List.take_zero, List.drop_succ_cons, List.drop_zero])
  repeat (first | (apply Text.sees (hw := by kernel_rfl); (focus (intro x hx K hK; have hc := CE.out x hx; go_simp; exact hK)); simp only [Act.put, List.getElem_toArray, List.getElem_cons_succ, List.getElem_cons_zero, List.setIfInBounds_toArray, List.set_cons_zero, List.set_cons_succ]) | (apply Text.idle; (focus (intro x hx K hK; go_simp; exact hK)); simp only [Act.put, List.getElem_toArray, List.getElem_cons_succ, List.getElem_cons_zero, List.setIfInBounds_toArray, List.set_cons_zero, List.set_cons_succ]))
  (refine Text.call (Old.call fun x hx => CL.out x hx) (by kernel_rfl) (fun _ => by kernel_rfl) ?_; simp only [Act.put, List.getElem_toArray, List.getElem_cons_succ, List.getElem_cons_zero, List.setIfInBounds_toArray, List.set_cons_zero, List.set_cons_succ])
  repeat (first | (apply Text.sees (hw := by kernel_rfl); (focus (intro x hx K hK; have hc := CE.out x hx; go_simp; exact hK)); simp only [Act.put, List.getElem_toArray, List.getElem_cons_succ, List.getElem_cons_zero, List.setIfInBounds_toArray, List.set_cons_zero, List.set_cons_succ]) | (apply Text.idle; (focus (intro x hx K hK; go_simp; exact hK)); simp only [Act.put, List.getElem_toArray, List.getElem_cons_succ, List.getElem_cons_zero, List.setIfInBounds_toArray, List.set_cons_zero, List.set_cons_succ]))
  (refine Text.call (Old.call fun x hx => CB.out x hx) (by kernel_rfl) (fun _ => by kernel_rfl) ?_; simp only [Act.put, List.getElem_toArray, List.getElem_cons_succ, List.getElem_cons_zero, List.setIfInBounds_toArray, List.set_cons_zero, List.set_cons_succ])
  intro x hx
  go_wp2
  go_ret
  exact ⟨rfl, b1 x hx⟩
theorem pclub_any (v : Value) (l : List I7) (b : Int) (w : World) (h : VAt w v l) (hl : l.length ≤ 1000000) :
    Calls Try.prog 14 #[v, .int .i64 b] w fun e w' => e = .returned (.bool (clubV l b)) ∧ Below w.heap.size w w' := by
  have c := pahead_any v l b w h hl
  have d := fun x (hx : Below w.heap.size w x) => pflags_any v l (aheadV l b) x (h.carry hx) hl
  unfold clubV
  clear h
  generalize (atV l (aheadV l b)).f = z at *
  generalize aheadV l b = r at *
  go_enter Try.func14, Try.ntmps14
  go_wp2_with fail
  refine c.mono ?_
  rintro e w1 ⟨rfl, b1⟩
  clear c
  replace d := d w1 b1
  go_wp2_with fail
  refine d.mono ?_
  rintro e w2 ⟨rfl, b2⟩
  replace b2 := tstep b1 b2 b1.size
  clear d
  go_wp2
  go_ret
  exact ⟨rfl, b2⟩
theorem pwidow_any (v : Value) (l : List I7) (b : Int) (w : World) (h : VAt w v l) (hl : l.length ≤ 1000000) :
    Calls Try.prog 16 #[v, .int .i64 b] w fun e w' => e = .returned (.bool (widowV l b)) ∧ Below w.heap.size w w' := by
  have c := pbehind_any v l b w h hl
  have d := fun x (hx : Below w.heap.size w x) => pflags_any v l (behindV l b) x (h.carry hx) hl
  unfold widowV
  clear h
  generalize (atV l (behindV l b)).f = z at *
  generalize behindV l b = r at *
  go_enter Try.func16, Try.ntmps16
  go_wp2_with fail
  refine c.mono ?_
  rintro e w1 ⟨rfl, b1⟩
  clear c
  replace d := d w1 b1
  go_wp2_with fail
  refine d.mono ?_
  rintro e w2 ⟨rfl, b2⟩
  replace b2 := tstep b1 b2 b1.size
  clear d
  go_wp2
  go_ret
  exact ⟨rfl, b2⟩
end Go.Proofs.Ytopifminodlpbaa
