/- The walk of NoteHigh. -/
import Derived.Test.YtimpphkikihhaaaNAw
import Derived.Test.YtimpphkikihhaaaSIs
namespace Go.Proofs.Ytimpphkikihhaaa
open Go.RowKit
set_option maxRecDepth 20000
set_option linter.unusedVariables false
set_option linter.unusedSimpArgs false

theorem high_long (la : Option Addr) (ll lc : Nat) (pa : Option Addr) (pl pc : Nat) (f t : Int) (w : World) (h : 100 < ll) (hl : ll ≤ 9223372036854775807) :
    Calls Try.prog 4 #[nte la ll lc pa pl pc, .int .i64 f, .int .i64 t] w fun e w' => e = .returned (.bool true) ∧ Below w.heap.size w w' := by
  unfold nte
  go_enter Try.func4, Try.ntmps4
  go_wp2_with (go_at_call 6; refine (awake11 _).mono ?_; rintro e w1 ⟨rfl, b1⟩)
  go_ret
  exact ⟨rfl, tstep (tbel1 w _) b1 (tbel1 w _).size⟩
set_option maxHeartbeats 1000000 in
theorem high_short (la : Option Addr) (lc : Nat) (L : List Int) (pa : Option Addr) (pl pc : Nat) (f t : Int) (w : World) (hl : L.length ≤ 100) (hL : IRow w.heap.size w la L) :
    Calls Try.prog 4 #[nte la L.length lc pa pl pc, .int .i64 f, .int .i64 t] w fun e w' => e = .returned (.bool true) ∧ Below w.heap.size w w' := by
  have c1 := Lib.hid fun x (hx : Below w.heap.size w x) => nhigh_any la lc L pa pl pc f t x (by omega) ((hL.carry hx (Nat.le_refl _)).mono hx.size)
  have c2 := Lib.hid fun x (hx : Below w.heap.size w x) => rnhigh_any la lc L pa pl pc f t x (by omega) ((hL.carry hx (Nat.le_refl _)).mono hx.size)
  clear hL
  unfold nte at c1 c2 ⊢
  generalize highN L f t = r at *
  have B := blk_new w #[.slice la L.length lc, .slice pa pl pc] 25
  have b0 := tbel1 w (.cells #[.slice la L.length lc, .slice pa pl pc] 25)
  go_enter Try.func4, Try.ntmps4
  go_wp2_with fail
  generalize w.alloc _ = U at *
  have CE := Lib.hid fun x (hx : Old U x) => (B.old hx).two
  (refine wp_region_text (Old U) 12 (by kernel_rfl) (by kernel_rfl) (Below.refl _ U).drew ?_; simp only [List.take_succ_cons, List.take_zero, List.drop_succ_cons, List.drop_zero])
  repeat (first | (apply Text.sees (hw := by kernel_rfl); (focus (intro x hx K hK; have hc := CE.out x hx; go_simp; exact hK)); simp only [Act.put, List.getElem_toArray, List.getElem_cons_succ, List.getElem_cons_zero, List.setIfInBounds_toArray, List.set_cons_zero, List.set_cons_succ]) | (apply Text.idle; (focus (intro x hx K hK; go_simp; exact hK)); simp only [Act.put, List.getElem_toArray, List.getElem_cons_succ, List.getElem_cons_zero, List.setIfInBounds_toArray, List.set_cons_zero, List.set_cons_succ]))
  (refine Text.call (Old.call fun x hx => c1.out x (tstep b0 hx b0.size)) (by kernel_rfl) (fun _ => by kernel_rfl) ?_; simp only [Act.put, List.getElem_toArray, List.getElem_cons_succ, List.getElem_cons_zero, List.setIfInBounds_toArray, List.set_cons_zero, List.set_cons_succ])
  repeat (first | (apply Text.sees (hw := by kernel_rfl); (focus (intro x hx K hK; have hc := CE.out x hx; go_simp; exact hK)); simp only [Act.put, List.getElem_toArray, List.getElem_cons_succ, List.getElem_cons_zero, List.setIfInBounds_toArray, List.set_cons_zero, List.set_cons_succ]) | (apply Text.idle; (focus (intro x hx K hK; go_simp; exact hK)); simp only [Act.put, List.getElem_toArray, List.getElem_cons_succ, List.getElem_cons_zero, List.setIfInBounds_toArray, List.set_cons_zero, List.set_cons_succ]))
  (refine Text.call (Old.call fun x hx => c2.out x (tstep b0 hx b0.size)) (by kernel_rfl) (fun _ => by kernel_rfl) ?_; simp only [Act.put, List.getElem_toArray, List.getElem_cons_succ, List.getElem_cons_zero, List.setIfInBounds_toArray, List.set_cons_zero, List.set_cons_succ])
  repeat (first | (apply Text.sees (hw := by kernel_rfl); (focus (intro x hx K hK; have hc := CE.out x hx; go_simp; exact hK)); simp only [Act.put, List.getElem_toArray, List.getElem_cons_succ, List.getElem_cons_zero, List.setIfInBounds_toArray, List.set_cons_zero, List.set_cons_succ]) | (apply Text.idle; (focus (intro x hx K hK; go_simp; exact hK)); simp only [Act.put, List.getElem_toArray, List.getElem_cons_succ, List.getElem_cons_zero, List.setIfInBounds_toArray, List.set_cons_zero, List.set_cons_succ]))
  (refine Text.call (Old.call fun x hx => awake11 x) (by kernel_rfl) (fun _ => by kernel_rfl) ?_; simp only [Act.put, List.getElem_toArray, List.getElem_cons_succ, List.getElem_cons_zero, List.setIfInBounds_toArray, List.set_cons_zero, List.set_cons_succ])
  repeat (first | (apply Text.sees (hw := by kernel_rfl); (focus (intro x hx K hK; have hc := CE.out x hx; go_simp; exact hK)); simp only [Act.put, List.getElem_toArray, List.getElem_cons_succ, List.getElem_cons_zero, List.setIfInBounds_toArray, List.set_cons_zero, List.set_cons_succ]) | (apply Text.idle; (focus (intro x hx K hK; go_simp; exact hK)); simp only [Act.put, List.getElem_toArray, List.getElem_cons_succ, List.getElem_cons_zero, List.setIfInBounds_toArray, List.set_cons_zero, List.set_cons_succ]))
  intro w2 hw2
  clear CE B c1 c2
  go_wp2
  go_ret
  exact ⟨rfl, tstep b0 hw2 b0.size⟩
theorem noteHigh_walk (la : Option Addr) (ll lc : Nat) (lz : List Int) (pa : Option Addr) (pl pc : Nat) (pz : List Int) (f : Int) (hf : (Lit.int .i64 f).wf = true) (t : Int) (ht : (Lit.int .i64 t).wf = true) (w : World)
    (h : IsRow .i64 w la ll lc lz) (h' : IsRow .i64 w pa pl pc pz) :
    Calls Try.prog 4 #[.agg #[.slice la ll lc, .slice pa pl pc], .int .i64 f, .int .i64 t] w fun e w' => e = .returned (.bool true) ∧ Below w.heap.size w w' := by
  obtain ⟨L, rfl, hr, h1, h2⟩ := h.irow
  have hm : maxLen ≤ 9223372036854775807 := by decide
  by_cases hc : 100 < L.length
  · exact high_long la L.length lc pa pl pc f t w hc (by omega)
  · exact high_short la lc L pa pl pc f t w (by omega) hr
end Go.Proofs.Ytimpphkikihhaaa
