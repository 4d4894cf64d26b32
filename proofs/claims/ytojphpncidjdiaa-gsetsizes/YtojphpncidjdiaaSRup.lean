/- The document's Up of layer 8. -/
import Derived.Test.YtojphpncidjdiaaSRef
namespace Go.Proofs.Ytojphpncidjdiaa
open Go.RowKit
set_option maxRecDepth 20000
set_option linter.unusedVariables false
set_option linter.unusedSimpArgs false

theorem fld36 (x y : Value) : ∀ w, Sem.run Try.prog (Instr.field 66 (.agg #[x, y]) 0) w = .ok x w := fun w => by kernel_rfl
theorem fld40 (x y : Value) : ∀ w, Sem.run Try.prog (Instr.field 86 (.agg #[x, y]) 0) w = .ok x w := fun w => by kernel_rfl
theorem scel_new (w : World) (u v : Value) (T : TypeId) : SCel (w.alloc (.cells #[u, v] T)) w.heap.size u v := by
  refine ⟨?_, ?_, ?_, ?_⟩ <;> simp
theorem rup8_walk (whole n : Int) (m : Nat) (s f u : Int) (o o1 : Bool) (a : Option Addr) (cap len : Nat) (w : World) (hlen : len ≤ 1000000) (hm : m = clampN n len) (hin : inR n)
    (hcap : len ≤ cap) (hmax : cap ≤ maxLen)
    (cR : ∀ w', Below w.heap.size w w' → Calls Try.prog 45 #[.int .i64 whole, .slice a len cap] w' fun e w2 => e = .returned (.bool true) ∧ Below w'.heap.size w' w2)
    (cf : ∀ w', Below w.heap.size w w' → Calls Try.prog 56 #[.slice a m cap] w' fun e w2 => e = .returned (.agg #[.int .i64 f, .bool o]) ∧ Below w'.heap.size w' w2)
    (cs : ∀ w', Below w.heap.size w w' → Calls Try.prog 56 #[.slice a len cap] w' fun e w2 => e = .returned (.agg #[.int .i64 s, .bool o1]) ∧ Below w'.heap.size w' w2)
    (cr : ∀ w', Calls Try.prog 57 #[.int .i64 whole, .int .i64 f, .int .i64 s] w' fun e w2 => e = .returned (.agg #[.int .i64 u, .bool true]) ∧ Below w'.heap.size w' w2) :
    Calls Try.prog 46 #[.int .i64 whole, .slice a len cap, .int .i64 n] w fun e w' => e = .returned (.agg #[.int .i64 u, .bool true]) ∧ Below w.heap.size w w' := by
  have h3 : (n ≤ 0 ∧ m = 0) ∨ (len = 0 ∧ 0 < n ∧ m = 0) ∨ ((len : Int) < n ∧ 1 ≤ len ∧ m = len) ∨ (1 ≤ m ∧ m ≤ len ∧ n = m) := by
    unfold clampN at hm
    split at hm
    · exact .inl ⟨by omega, hm⟩
    · split at hm
      · by_cases h0 : len = 0
        · exact .inr (.inl ⟨h0, by omega, by omega⟩)
        · exact .inr (.inr (.inl ⟨by assumption, by omega, hm⟩))
      · by_cases h0 : n = 0
        · exact .inl ⟨by omega, by omega⟩
        · exact .inr (.inr (.inr ⟨by omega, by omega, by omega⟩))
  clear hm
  have f36 := fld36
  have f40 := fld40
  have k0 := scel_new w (.int .i64 0) (.bool false) 66
  have b0 : Below w.heap.size w (w.alloc (.cells #[.int .i64 0, .bool false] 66)) := (Below.refl _ _).alloc (Nat.le_refl _) _
  have z0 : (w.alloc (.cells #[.int .i64 0, .bool false] 66)).heap.size = w.heap.size + 1 := by simp
  rcases h3 with ⟨h1, rfl⟩ | ⟨rfl, h1, rfl⟩ | ⟨h1, h2, rfl⟩ | ⟨h1, h2, rfl⟩
  all_goals go_enter Try.func46, Try.ntmps46
  all_goals go_wp2_with fail
  all_goals refine (cR _ b0).mono ?_
  all_goals rintro e w1 ⟨rfl, b1⟩
  all_goals (have c1 := b0.trans (b1.mono b0.size); have k1 := k0.carry b1 (by rw [z0]; omega); have z1 := b1.size; rw [z0] at z1; clear k0 b0 b1 cR z0)
  all_goals go_wp2_with fail
  all_goals refine (cf _ c1).mono ?_
  all_goals rintro e w2 ⟨rfl, b2⟩
  all_goals (have c2 := c1.trans (b2.mono c1.size); have k2 := k1.carry b2 (by omega); have z2 := b2.size; clear k1 b2 cf c1)
  all_goals go_wp2_with fail
  all_goals (have k3 := k2.carry (w' := w2.alloc (.cells #[.int .i64 f, .bool o] 66)) ((Below.refl _ _).alloc (Nat.le_refl _) _) (by omega))
  all_goals (have l3 := scel_new w2 (.int .i64 f) (.bool o) 66)
  all_goals (have c3 := c2.alloc (c2.size) (.cells #[.int .i64 f, .bool o] 66))
  all_goals (have z3 : w.heap.size < w2.heap.size ∧ (w2.alloc (.cells #[.int .i64 f, .bool o] 66)).heap.size = w2.heap.size + 1 := ⟨by omega, by simp⟩)
  all_goals generalize w2.alloc (.cells #[.int .i64 f, .bool o] 66) = W at *
  all_goals generalize w2.heap.size = g at *
  all_goals clear c2 k2 z2 z1 w1
  all_goals have cells : ∀ x, Old W x → x.cell? ⟨g, 0, none⟩ = some (.int .i64 f) := fun x hx => (l3.carry hx (by omega)).1
  all_goals have CE := Lib.hid cells
  all_goals clear cells l3
  · skip
    (refine wp_region_text (Old W) 9 (by kernel_rfl) (by kernel_rfl) (Below.refl _ W).drew ?_; simp only [List.take_succ_cons, List.take_zero, List.drop_succ_cons, List.drop_zero])
    repeat (first | (apply Text.sees (hw := by kernel_rfl); (focus (intro x hx K hK; have hc := CE.out x hx; go_simp; exact hK)); simp only [Act.put, List.getElem_toArray, List.getElem_cons_succ, List.getElem_cons_zero, List.setIfInBounds_toArray, List.set_cons_zero, List.set_cons_succ]) | (apply Text.idle; (focus (intro x hx K hK; go_simp; exact hK)); simp only [Act.put, List.getElem_toArray, List.getElem_cons_succ, List.getElem_cons_zero, List.setIfInBounds_toArray, List.set_cons_zero, List.set_cons_succ]))
    (refine Text.call (Old.call fun x hx => cs x (c3.trans (hx.mono c3.size))) (by kernel_rfl) (fun _ => by kernel_rfl) ?_; simp only [Act.put, List.getElem_toArray, List.getElem_cons_succ, List.getElem_cons_zero, List.setIfInBounds_toArray, List.set_cons_zero, List.set_cons_succ])
    (refine Text.val (v := .int .i64 s) (fun x hx => by simp [execOp, go_sem, f36]) (by kernel_rfl) ?_; simp only [Act.put, List.getElem_toArray, List.getElem_cons_succ, List.getElem_cons_zero, List.setIfInBounds_toArray, List.set_cons_zero, List.set_cons_succ])
    (refine Text.call (Old.call fun x hx => cr x) (by kernel_rfl) (fun _ => by kernel_rfl) ?_; simp only [Act.put, List.getElem_toArray, List.getElem_cons_succ, List.getElem_cons_zero, List.setIfInBounds_toArray, List.set_cons_zero, List.set_cons_succ])
    (refine Text.val (v := .int .i64 u) (fun x hx => by simp [execOp, go_sem, f40]) (by kernel_rfl) ?_; simp only [Act.put, List.getElem_toArray, List.getElem_cons_succ, List.getElem_cons_zero, List.setIfInBounds_toArray, List.set_cons_zero, List.set_cons_succ])
    repeat (first | (apply Text.sees (hw := by kernel_rfl); (focus (intro x hx K hK; have hc := CE.out x hx; go_simp; exact hK)); simp only [Act.put, List.getElem_toArray, List.getElem_cons_succ, List.getElem_cons_zero, List.setIfInBounds_toArray, List.set_cons_zero, List.set_cons_succ]) | (apply Text.idle; (focus (intro x hx K hK; go_simp; exact hK)); simp only [Act.put, List.getElem_toArray, List.getElem_cons_succ, List.getElem_cons_zero, List.setIfInBounds_toArray, List.set_cons_zero, List.set_cons_succ]))
    intro x hx
    have k4 := k3.carry hx (by omega)
    obtain ⟨s0, s1, g0, g1⟩ := k4
    clear k3 cs cr f36 f40
    go_wp2
    have b4 := c3.trans (hx.mono c3.size)
    refine bodyPost_ret (v := .agg #[.int .i64 u, .bool true]) (by simp [results, Try.results46, go_sem, *]) rfl ⟨rfl, (b4.setCell (p := ⟨w.heap.size, 0, none⟩) (Nat.le_refl _) _).setCell (p := ⟨w.heap.size, 1, none⟩) (Nat.le_refl _) _⟩
  · skip
    (refine wp_region_text (Old W) 9 (by kernel_rfl) (by kernel_rfl) (Below.refl _ W).drew ?_; simp only [List.take_succ_cons, List.take_zero, List.drop_succ_cons, List.drop_zero])
    repeat (first | (apply Text.sees (hw := by kernel_rfl); (focus (intro x hx K hK; have hc := CE.out x hx; go_simp; exact hK)); simp only [Act.put, List.getElem_toArray, List.getElem_cons_succ, List.getElem_cons_zero, List.setIfInBounds_toArray, List.set_cons_zero, List.set_cons_succ]) | (apply Text.idle; (focus (intro x hx K hK; go_simp; exact hK)); simp only [Act.put, List.getElem_toArray, List.getElem_cons_succ, List.getElem_cons_zero, List.setIfInBounds_toArray, List.set_cons_zero, List.set_cons_succ]))
    (refine Text.call (Old.call fun x hx => cs x (c3.trans (hx.mono c3.size))) (by kernel_rfl) (fun _ => by kernel_rfl) ?_; simp only [Act.put, List.getElem_toArray, List.getElem_cons_succ, List.getElem_cons_zero, List.setIfInBounds_toArray, List.set_cons_zero, List.set_cons_succ])
    (refine Text.val (v := .int .i64 s) (fun x hx => by simp [execOp, go_sem, f36]) (by kernel_rfl) ?_; simp only [Act.put, List.getElem_toArray, List.getElem_cons_succ, List.getElem_cons_zero, List.setIfInBounds_toArray, List.set_cons_zero, List.set_cons_succ])
    (refine Text.call (Old.call fun x hx => cr x) (by kernel_rfl) (fun _ => by kernel_rfl) ?_; simp only [Act.put, List.getElem_toArray, List.getElem_cons_succ, List.getElem_cons_zero, List.setIfInBounds_toArray, List.set_cons_zero, List.set_cons_succ])
    (refine Text.val (v := .int .i64 u) (fun x hx => by simp [execOp, go_sem, f40]) (by kernel_rfl) ?_; simp only [Act.put, List.getElem_toArray, List.getElem_cons_succ, List.getElem_cons_zero, List.setIfInBounds_toArray, List.set_cons_zero, List.set_cons_succ])
    repeat (first | (apply Text.sees (hw := by kernel_rfl); (focus (intro x hx K hK; have hc := CE.out x hx; go_simp; exact hK)); simp only [Act.put, List.getElem_toArray, List.getElem_cons_succ, List.getElem_cons_zero, List.setIfInBounds_toArray, List.set_cons_zero, List.set_cons_succ]) | (apply Text.idle; (focus (intro x hx K hK; go_simp; exact hK)); simp only [Act.put, List.getElem_toArray, List.getElem_cons_succ, List.getElem_cons_zero, List.setIfInBounds_toArray, List.set_cons_zero, List.set_cons_succ]))
    intro x hx
    have k4 := k3.carry hx (by omega)
    obtain ⟨s0, s1, g0, g1⟩ := k4
    clear k3 cs cr f36 f40
    go_wp2
    have b4 := c3.trans (hx.mono c3.size)
    refine bodyPost_ret (v := .agg #[.int .i64 u, .bool true]) (by simp [results, Try.results46, go_sem, *]) rfl ⟨rfl, (b4.setCell (p := ⟨w.heap.size, 0, none⟩) (Nat.le_refl _) _).setCell (p := ⟨w.heap.size, 1, none⟩) (Nat.le_refl _) _⟩
  · skip
    (refine wp_region_text (Old W) 9 (by kernel_rfl) (by kernel_rfl) (Below.refl _ W).drew ?_; simp only [List.take_succ_cons, List.take_zero, List.drop_succ_cons, List.drop_zero])
    repeat (first | (apply Text.sees (hw := by kernel_rfl); (focus (intro x hx K hK; have hc := CE.out x hx; go_simp; exact hK)); simp only [Act.put, List.getElem_toArray, List.getElem_cons_succ, List.getElem_cons_zero, List.setIfInBounds_toArray, List.set_cons_zero, List.set_cons_succ]) | (apply Text.idle; (focus (intro x hx K hK; go_simp; exact hK)); simp only [Act.put, List.getElem_toArray, List.getElem_cons_succ, List.getElem_cons_zero, List.setIfInBounds_toArray, List.set_cons_zero, List.set_cons_succ]))
    (refine Text.call (Old.call fun x hx => cs x (c3.trans (hx.mono c3.size))) (by kernel_rfl) (fun _ => by kernel_rfl) ?_; simp only [Act.put, List.getElem_toArray, List.getElem_cons_succ, List.getElem_cons_zero, List.setIfInBounds_toArray, List.set_cons_zero, List.set_cons_succ])
    (refine Text.val (v := .int .i64 s) (fun x hx => by simp [execOp, go_sem, f36]) (by kernel_rfl) ?_; simp only [Act.put, List.getElem_toArray, List.getElem_cons_succ, List.getElem_cons_zero, List.setIfInBounds_toArray, List.set_cons_zero, List.set_cons_succ])
    (refine Text.call (Old.call fun x hx => cr x) (by kernel_rfl) (fun _ => by kernel_rfl) ?_; simp only [Act.put, List.getElem_toArray, List.getElem_cons_succ, List.getElem_cons_zero, List.setIfInBounds_toArray, List.set_cons_zero, List.set_cons_succ])
    (refine Text.val (v := .int .i64 u) (fun x hx => by simp [execOp, go_sem, f40]) (by kernel_rfl) ?_; simp only [Act.put, List.getElem_toArray, List.getElem_cons_succ, List.getElem_cons_zero, List.setIfInBounds_toArray, List.set_cons_zero, List.set_cons_succ])
    repeat (first | (apply Text.sees (hw := by kernel_rfl); (focus (intro x hx K hK; have hc := CE.out x hx; go_simp; exact hK)); simp only [Act.put, List.getElem_toArray, List.getElem_cons_succ, List.getElem_cons_zero, List.setIfInBounds_toArray, List.set_cons_zero, List.set_cons_succ]) | (apply Text.idle; (focus (intro x hx K hK; go_simp; exact hK)); simp only [Act.put, List.getElem_toArray, List.getElem_cons_succ, List.getElem_cons_zero, List.setIfInBounds_toArray, List.set_cons_zero, List.set_cons_succ]))
    intro x hx
    have k4 := k3.carry hx (by omega)
    obtain ⟨s0, s1, g0, g1⟩ := k4
    clear k3 cs cr f36 f40
    go_wp2
    have b4 := c3.trans (hx.mono c3.size)
    refine bodyPost_ret (v := .agg #[.int .i64 u, .bool true]) (by simp [results, Try.results46, go_sem, *]) rfl ⟨rfl, (b4.setCell (p := ⟨w.heap.size, 0, none⟩) (Nat.le_refl _) _).setCell (p := ⟨w.heap.size, 1, none⟩) (Nat.le_refl _) _⟩
  · skip
    (refine wp_region_text (Old W) 9 (by kernel_rfl) (by kernel_rfl) (Below.refl _ W).drew ?_; simp only [List.take_succ_cons, List.take_zero, List.drop_succ_cons, List.drop_zero])
    repeat (first | (apply Text.sees (hw := by kernel_rfl); (focus (intro x hx K hK; have hc := CE.out x hx; go_simp; exact hK)); simp only [Act.put, List.getElem_toArray, List.getElem_cons_succ, List.getElem_cons_zero, List.setIfInBounds_toArray, List.set_cons_zero, List.set_cons_succ]) | (apply Text.idle; (focus (intro x hx K hK; go_simp; exact hK)); simp only [Act.put, List.getElem_toArray, List.getElem_cons_succ, List.getElem_cons_zero, List.setIfInBounds_toArray, List.set_cons_zero, List.set_cons_succ]))
    (refine Text.call (Old.call fun x hx => cs x (c3.trans (hx.mono c3.size))) (by kernel_rfl) (fun _ => by kernel_rfl) ?_; simp only [Act.put, List.getElem_toArray, List.getElem_cons_succ, List.getElem_cons_zero, List.setIfInBounds_toArray, List.set_cons_zero, List.set_cons_succ])
    (refine Text.val (v := .int .i64 s) (fun x hx => by simp [execOp, go_sem, f36]) (by kernel_rfl) ?_; simp only [Act.put, List.getElem_toArray, List.getElem_cons_succ, List.getElem_cons_zero, List.setIfInBounds_toArray, List.set_cons_zero, List.set_cons_succ])
    (refine Text.call (Old.call fun x hx => cr x) (by kernel_rfl) (fun _ => by kernel_rfl) ?_; simp only [Act.put, List.getElem_toArray, List.getElem_cons_succ, List.getElem_cons_zero, List.setIfInBounds_toArray, List.set_cons_zero, List.set_cons_succ])
    (refine Text.val (v := .int .i64 u) (fun x hx => by simp [execOp, go_sem, f40]) (by kernel_rfl) ?_; simp only [Act.put, List.getElem_toArray, List.getElem_cons_succ, List.getElem_cons_zero, List.setIfInBounds_toArray, List.set_cons_zero, List.set_cons_succ])
    repeat (first | (apply Text.sees (hw := by kernel_rfl); (focus (intro x hx K hK; have hc := CE.out x hx; go_simp; exact hK)); simp only [Act.put, List.getElem_toArray, List.getElem_cons_succ, List.getElem_cons_zero, List.setIfInBounds_toArray, List.set_cons_zero, List.set_cons_succ]) | (apply Text.idle; (focus (intro x hx K hK; go_simp; exact hK)); simp only [Act.put, List.getElem_toArray, List.getElem_cons_succ, List.getElem_cons_zero, List.setIfInBounds_toArray, List.set_cons_zero, List.set_cons_succ]))
    intro x hx
    have k4 := k3.carry hx (by omega)
    obtain ⟨s0, s1, g0, g1⟩ := k4
    clear k3 cs cr f36 f40
    go_wp2
    have b4 := c3.trans (hx.mono c3.size)
    refine bodyPost_ret (v := .agg #[.int .i64 u, .bool true]) (by simp [results, Try.results46, go_sem, *]) rfl ⟨rfl, (b4.setCell (p := ⟨w.heap.size, 0, none⟩) (Nat.le_refl _) _).setCell (p := ⟨w.heap.size, 1, none⟩) (Nat.le_refl _) _⟩
theorem rup8_none (whole n : Int) (a : Option Addr) (cap len : Nat) (w : World)
    (cR : ∀ w', Below w.heap.size w w' → Calls Try.prog 45 #[.int .i64 whole, .slice a len cap] w' fun e w2 => e = .returned (.bool false) ∧ Below w'.heap.size w' w2) :
    Calls Try.prog 46 #[.int .i64 whole, .slice a len cap, .int .i64 n] w fun e w' => e = .returned (.agg #[.int .i64 0, .bool false]) ∧ Below w.heap.size w w' := by
  have k0 := scel_new w (.int .i64 0) (.bool false) 66
  have b0 : Below w.heap.size w (w.alloc (.cells #[.int .i64 0, .bool false] 66)) := (Below.refl _ _).alloc (Nat.le_refl _) _
  have z0 : (w.alloc (.cells #[.int .i64 0, .bool false] 66)).heap.size = w.heap.size + 1 := by simp
  go_enter Try.func46, Try.ntmps46
  go_wp2_with fail
  refine (cR _ b0).mono ?_
  rintro e w1 ⟨rfl, b1⟩
  have c1 := b0.trans (b1.mono b0.size)
  have k1 := k0.carry b1 (by rw [z0]; omega)
  obtain ⟨s0, s1, g0, g1⟩ := k1
  clear k0 b0 b1 cR z0
  go_wp2
  refine bodyPost_ret (v := .agg #[.int .i64 0, .bool false]) (by simp [results, Try.results46, go_sem, *]) rfl ⟨rfl, (c1.setCell (p := ⟨w.heap.size, 0, none⟩) (Nat.le_refl _) _).setCell (p := ⟨w.heap.size, 1, none⟩) (Nat.le_refl _) _⟩
theorem rup8_any (whole n : Int) (a : Option Addr) (cap : Nat) (l : List Int) (w : World) (hn : l.length ≤ 1000000) (hw : inR whole) (hin : inR n) (hcap : l.length ≤ cap) (hmax : cap ≤ maxLen)
    (hr : IRow w.heap.size w a l) :
    Calls Try.prog 46 #[.int .i64 whole, .slice a l.length cap, .int .i64 n] w fun e w' => e = .returned (pair (upS whole l n)) ∧ Below w.heap.size w w' := by
  have cR := fun w' (hb : Below w.heap.size w w') => sright_any whole a cap l w' hn ((hr.carry hb (Nat.le_refl _)).mono hb.size)
  by_cases h : rightS whole l = true
  · obtain ⟨h0, hnn, h1, h2, hb⟩ := rightS_facts h
    rw [h] at cR
    have hm := clampN_le n l.length
    have e : upS whole l n = (cumS whole l (clampN n l.length), true) := by unfold upS; rw [if_pos h]
    rw [e]
    have hs := sum_nn hnn (clampN n l.length)
    have hs' := sum_le hnn (clampN n l.length)
    refine rup8_walk whole n (clampN n l.length) l.sum (l.take (clampN n l.length)).sum _ true true a cap l.length w hn rfl hin hcap hmax cR (fun w' hb' => ?_) (fun w' hb' => ?_) (fun w' => ?_)
    · have c := rsum_any a cap (l.take (clampN n l.length)) w' (by rw [List.length_take]; omega) (((hr.take _).carry hb' (Nat.le_refl _)).mono hb'.size)
      rw [total_take hnn _ hm, fit_pos (by unfold inR; omega), List.length_take, Nat.min_eq_left hm] at c
      exact c
    · have c := rsum_any a cap l w' hn ((hr.carry hb' (Nat.le_refl _)).mono hb'.size)
      rw [total_eq hnn, fit_pos (by unfold inR; omega)] at c
      exact c
    · have c := rrat_any whole (l.take (clampN n l.length)).sum l.sum w' hw.2 (by omega) h2
      rw [rat_cum h hw.2] at c
      exact c
  · have h' : rightS whole l = false := by simpa using h
    have e : upS whole l n = (0, false) := by unfold upS; rw [h']; rfl
    rw [e]
    rw [h'] at cR
    exact rup8_none whole n a cap l.length w cR
end Go.Proofs.Ytojphpncidjdiaa
