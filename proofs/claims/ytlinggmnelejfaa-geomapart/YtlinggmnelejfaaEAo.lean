/- GeomApart where it asks nothing. -/
import Derived.Test.YtlinggmnelejfaaETel
namespace Go.Proofs.Ytlinggmnelejfaa
open Go.RowKit
set_option maxRecDepth 20000
set_option linter.unusedVariables false
set_option linter.unusedSimpArgs false

set_option maxHeartbeats 2000000 in
theorem gapart_out (g : G19) (n e : Int) (w : World) (h : (e != 0) = true ∨ (e = 0 ∧ (n < 0 ∨ 1099511627776 < n)))
    (c1 : ∀ x, Calls Try.prog 7 #[.agg (geoC g)] x fun e' y => e' = .returned (.int .i64 e) ∧ Below x.heap.size x y) :
    Calls Try.prog 5 #[.agg (geoC g), .int .i64 n] w fun e w' => e = .returned (.bool true) ∧ Below w.heap.size w w' := by
  have D := geo_new w g
  have b0 := tbel1 w (.cells (geoC g) 24)
  replace c1 := Lib.hid c1
  have ways : (e != 0) = true ∨ (e = 0 ∧ n < 0) ∨ (e = 0 ∧ 0 ≤ n ∧ 1099511627776 < n) := by
    rcases h with h | ⟨h, h' | h'⟩
    · exact .inl h
    · exact .inr (.inl ⟨h, h'⟩)
    · exact .inr (.inr ⟨h, by omega, h'⟩)
  clear h
  rcases ways with h | ⟨rfl, h⟩ | ⟨rfl, h, h'⟩
  all_goals
    go_enter Try.func5, Try.ntmps5
    go_upto_region 1 with (fail)
    generalize w.alloc _ = U at *
    (refine wp_region_plain (Old U) 2 (Below.refl _ U) ?_; simp only [List.take_succ_cons, List.take_zero, List.drop_succ_cons, List.drop_zero])
    (refine Text.val (fun y hy => load_geo (.tmp 2) rfl rfl (D.old hy)) (by kernel_rfl) ?_; simp only [Act.put, List.getElem_toArray, List.getElem_cons_succ, List.getElem_cons_zero, List.setIfInBounds_toArray, List.set_cons_zero, List.set_cons_succ])
    (refine Text.call (Old.call fun y hy => c1.out y) (by kernel_rfl) (fun _ => by kernel_rfl) ?_; simp only [Act.put, List.getElem_toArray, List.getElem_cons_succ, List.getElem_cons_zero, List.setIfInBounds_toArray, List.set_cons_zero, List.set_cons_succ])
    intro x hx
    have bz := tstep b0 hx b0.size
    clear D hx b0 c1
    go_wp2_with fail
    refine (awake13 _).mono ?_
    rintro e y ⟨rfl, hy⟩
    go_wp2
    go_ret
    exact ⟨rfl, tstep bz hy bz.size⟩
end Go.Proofs.Ytlinggmnelejfaa
