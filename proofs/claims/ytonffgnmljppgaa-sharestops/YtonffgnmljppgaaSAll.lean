/- The walk of share.All. -/
import Derived.Test.YtonffgnmljppgaaSEach
import Derived.BigQuiet
import Derived.Laws.OwnMore
namespace Go.Proofs.Ytonffgnmljppgaa
open Go.RowKit Go.Shelf
set_option linter.unusedVariables false
attribute [local go_sem] Oper.semAt_some

theorem ownFrom_sbut {β : Type} {n b B : Nat} {w : World} (hn : n ≤ w.heap.size) (hB : n ≤ B) : OwnFrom B (fun (_ : β) W => SBut n b w W) :=
  fun _ X Y row hs hg hr => hs.trans ⟨hg.os, hg.tape, hg.output, hg.size, fun k hk hb =>
    hg.block k (by have := hs.size; omega) (fun e => by have := (hr k e.symm).1; omega)⟩
theorem own_mono {w : World} {base base' : Nat} {e : TypeId} {size : Nat} {v : Value} {n : Nat} {xs : List Value} (h : w.ownsRow base e size v n xs) (hb : base' ≤ base) : w.ownsRow base' e size v n xs := by
  refine ⟨h.1, ?_⟩
  rcases h.2 with h | ⟨g, cap, cur, h1, h2, h3⟩
  · exact .inl h
  · exact .inr ⟨g, cap, cur, h1, by omega, h3⟩
/-- 'out = append(out, v)': what the walk owes behind it; the slice's own rows lie at n and above. -/
theorem sapp {W w1 : World} {n B : Nat} {t e : TypeId} {size : Nat} {v v' : Value} {k m : Nat} {xs ys : List Value} {tmp : Obj}
    (hv : Boxed W B t v) (hte : t ≠ e) (hrow : W.ownsRow n e size v k xs) (hn : n ≤ W.heap.size)
    (hown' : w1.ownsRow n e size v' m ys) (hgrow : (W.alloc tmp).grownBy w1 v.ownBlock) :
    Boxed w1 B t v ∧ Boxed (w1.setCell ⟨B, 0, none⟩ v') B t v' ∧ (w1.setCell ⟨B, 0, none⟩ v').ownsRow n e size v' m ys ∧ KeepsOthers W (w1.setCell ⟨B, 0, none⟩ v') ∧ SBut n B W (w1.setCell ⟨B, 0, none⟩ v') := by
  have h0 := Boxed.appended (n₀ := 0) hv hte (own_mono hrow (Nat.zero_le _)) (Nat.zero_le _) (Nat.zero_le _) (own_mono hown' (Nat.zero_le _)) hgrow
  obtain ⟨hv1, hv2, _, hk, hb⟩ := h0
  refine ⟨hv1, hv2, hown'.kept (grownBy_setCell' w1 B v') (.inr (hv1.not_row hte hown').symm), hk, hb.os, hb.tape, hb.output, hb.size, fun j hj hjB => ?_⟩
  refine ((grownBy_setCell' w1 B v').block j ?_ (fun e => hjB (by cases e; rfl))).trans ((hgrow.block j (by simp; omega) ?_).trans ?_)
  · have := hgrow.size; simp at this; omega
  · rcases hrow.2 with ⟨rfl, _⟩ | ⟨g, cap, cur, rfl, hb, _, _⟩
    · simp [Value.ownBlock]
    · simp [Value.ownBlock]; omega
  · exact Below.heap_alloc W tmp j (by omega)
theorem infoSp : (Try.prog.info? 22).map (fun i => (i.zero, i.size, i.bytes)) = some (some (.int .i64 0), 1, 8) := by kernel_rfl

set_option maxRecDepth 100000 in
set_option maxHeartbeats 2000000 in
theorem all_walk (whole : Int) (a : Option Addr) (cap : Nat) (l : List Int) (w : World) (hn : l.length ≤ 1000000) (hw : inR whole) (hr : IRow w.heap.size w a l) :
    Calls Try.prog 7 #[.int .i64 whole, .slice a l.length cap] w fun e w' => ∃ v, e = .returned (.tuple #[v, .bool (decide (0 < (allS whole l).length))]) ∧
      w'.ownsRow w.heap.size 22 1 v (allS whole l).length ((allS whole l).map fun x => Value.int .i64 x.2) ∧ Below w.heap.size w w' := by
  have hmax : 1000000 ≤ maxLen := by decide
  obtain ⟨i0, hi, hz0, hz1, hz2⟩ := info_parts infoSp
  refine (callsIn_wide (n := 3)).1 ?_
  refine callsIn_of_wp_marks Try.func7 rfl trivial ?_ rfl
  simp only [Try.ntmps7, List.size_toArray, List.length_cons, List.length_nil, Nat.reduceAdd, Nat.reduceSub, Array.replicate_succ, Array.replicate_zero, List.push_toArray, List.append_toArray, List.nil_append, List.cons_append]
  gi_wp2_with (refine ⟨trivial, ?_⟩; refine (callsIn_wide.2 (seach_in _ _ _ _ _)).mono ?_; rintro e w' ⟨rfl, rfl⟩)
  have bO := Boxed.new w 23 (.slice none 0 0)
  have bW := Boxed.new (w.alloc (.cells #[.slice none 0 0] 23)) 22 (.int .i64 whole)
  have bP := Boxed.new ((w.alloc (.cells #[.slice none 0 0] 23)).alloc (.cells #[.int .i64 whole] 22)) 23 (.slice a l.length cap)
  rw [World.size_alloc] at bW bP
  rw [World.size_alloc] at bP
  replace bW := bW.alloc (.cells #[.slice a l.length cap] 23)
  replace bO := (bO.alloc (.cells #[.int .i64 whole] 22)).alloc (.cells #[.slice a l.length cap] 23)
  have hB0 : Below w.heap.size w (((w.alloc (.cells #[.slice none 0 0] 23)).alloc (.cells #[.int .i64 whole] 22)).alloc (.cells #[.slice a l.length cap] 23)) :=
    (((Below.refl _ w).alloc (Nat.le_refl _) _).alloc (by simp) _).alloc (by simp; omega) _
  have hs0 : (((w.alloc (.cells #[.slice none 0 0] 23)).alloc (.cells #[.int .i64 whole] 22)).alloc (.cells #[.slice a l.length cap] 23)).heap.size = w.heap.size + 3 := by simp
  generalize (((w.alloc (.cells #[.slice none 0 0] 23)).alloc (.cells #[.int .i64 whole] 22)).alloc (.cells #[.slice a l.length cap] 23)) = W0 at *
  refine wpIn_rangeFunc_ownG rfl (by omega) (gf := 19) (lb := #[.pointer (some ⟨w.heap.size + 1, 0, none⟩), .pointer (some ⟨w.heap.size + 1 + 1, 0, none⟩)]) rfl trivial (enters_of Try.func19 (by kernel_rfl) rfl)
    (each_stops _ W0.heap.size (w.heap.size + 1) (w.heap.size + 1 + 1) w.heap.size whole a cap l W0 hn hw bW.cell bP.cell (by omega) (by omega) (by omega) (hr.off (Nat.le_refl _)) (Nat.le_refl _) ((hr.carry hB0 (Nat.le_refl _)).mono (by omega)))
    SBut.trans (sbut_b (Nat.le_refl _)) (Below.refl _ _) (fun _ => rfl)
    (fun pre W => (∃ v, Boxed W w.heap.size 23 v ∧ W.ownsRow W0.heap.size 22 1 v pre.length (pre.map fun x => Value.int .i64 x.2) ∧ True) ∧ SBut W0.heap.size w.heap.size W0 W)
    (fun _ _ _ => False)
    (OwnFrom.and (Own.from (holdsRow_own W0.heap.size w.heap.size 23 22 1 (fun pre : List (Nat × Int) => pre.length) (fun pre => pre.map fun x => Value.int .i64 x.2) (fun pre v => True)) _) (ownFrom_sbut (Nat.le_refl _) (Nat.le_refl _)))
    (fun _ _ _ _ _ hs _ _ => hs)
    ⟨⟨_, bO, World.ownsRow_nil _ _ _ _, trivial⟩, SBut.refl _ _ _⟩
    (fun x => { tmps := #[.int .i64 whole, .slice a l.length cap, undef, undef, .slice none 0 0, .bool false, .pointer (some ⟨w.heap.size, 0, none⟩), undef, .int .i64 x.2, .int .i64 whole, .slice a l.length cap, .func (.func 19) #[] #[.pointer (some ⟨w.heap.size + 1, 0, none⟩), .pointer (some ⟨w.heap.size + 1 + 1, 0, none⟩)], .int .i64 (x.1 : Int), .int .i64 x.2, undef, undef, undef, undef, undef, undef, undef, undef], defers := [] }) ?assign ?body ?done ?stop
  case assign =>
    intro l x W K hK
    gi_wp2
    exact hK
  case body =>
    rintro l0 pre x W ⟨⟨v, hv, hrow, _⟩, hB⟩ hlt
    have hc := hv.cell
    have hsz := hB.size
    gi_wp2_with (gi_at_builtin; refine wpListIn_append_own _ rfl _ _ 23 rfl W0.heap.size 22 i0 (.int .i64 0) 1 8 Try.underlying23 hi hz0 hz1 hz2 rfl (by decide) _ _ _ rfl (hrow.alloc _) ⟨W.heap.size, 0, none⟩ 1 1 [.int .i64 x.2] rfl rfl (cell_one_new _ _ _) (by simp [Value.oneCell']) (by omega) (by omega) (by simp; omega) ?_; intro v' w1 hown' hgrow _; obtain ⟨g', cap', rfl⟩ := ownsRow_succ hown'; obtain ⟨hv1, hv2, hr2, hk2, hb2⟩ := sapp hv (by decide) hrow hsz hown' hgrow; have hc1 := hv1.cell; have hf1 := hv1.frozen)
    exact ⟨hk2.from _, hb2, ⟨⟨_, hv2, by simpa using hr2, trivial⟩, hB.trans hb2⟩⟩
  case done =>
    rintro D ys W hD rfl ⟨⟨v, hv, hrow, _⟩, hB⟩ hK
    have hc := hv.cell
    obtain ⟨va, vc, rfl⟩ : ∃ va vc, v = .slice va (allS whole l).length vc := by
      rcases hrow.2 with ⟨rfl, h0⟩ | ⟨g, c, cur, rfl, _⟩
      · exact ⟨none, 0, by rw [h0]⟩
      · exact ⟨_, _, rfl⟩
    obtain ⟨al, hal⟩ : ∃ al, al = allS whole l := ⟨_, rfl⟩
    rw [← hal] at hrow hv hc
    have HA := Lib.hid hal
    clear hal
    gi_wp2
    refine wpIn_wide.2 ?_
    go_quiet (fail)
    gi_wp2
    have hK' : (W.drewN nq).heap[D]? = some (.deferred (some [])) := hK
    refine ⟨by simp, .inl ⟨_, _, rfl, run_takeDeferred hK', ?_⟩⟩
    refine ⟨.tuple #[.slice va al.length vc, .bool (decide (0 < al.length))], by simp [results, Try.results7, go_sem], ?_⟩
    rw [← HA.out]
    refine ⟨_, rfl, ?_, ?_⟩
    · exact ownsRow_putObj (own_mono (show (W.drewN nq).ownsRow W0.heap.size 22 1 _ _ _ from hrow) (by omega)) _ hK' rfl
    · have b1 : Below w.heap.size w (W.drewN nq) := by
        have := hB0.trans (hB.below (m := w.heap.size) (by omega) (Nat.le_refl _))
        exact ⟨this.os, this.tape, this.output, this.size, this.block⟩
      exact b1.trans (belowK_b (w := w) (Nat.le_refl _) _ D _ _ (by omega) hK' rfl rfl)
  case stop =>
    rintro D c pre W _ _ h _
    exact h.elim

theorem allS_len (whole : Int) (l : List Int) : (allS whole l).length = (shareL whole l).length := by
  unfold allS shareL; split <;> simp [uptoS]
theorem allS_map (whole : Int) (l : List Int) : (allS whole l).map (fun x => Value.int .i64 x.2) = (shareL whole l).map (Value.int .i64) := by
  unfold allS shareL; split <;> simp [uptoS, comeS]
theorem allS_pos (whole : Int) (l : List Int) : decide (0 < (allS whole l).length) = rightS whole l := by
  by_cases h : rightS whole l = true
  · have := right_pos h
    rw [h, allS_len, shareL_len h]; simpa using this
  · have h' : rightS whole l = false := by simpa using h
    unfold allS; rw [h']; simp
/-- The numbers l lie where the slice v says, in a block of the call's own, at base and above. -/
structure OwnI (w : World) (base : Nat) (v : Value) (l : List Int) : Prop where
  own : w.ownsRow base 22 1 v l.length (l.map (Value.int .i64))
  ins : ∀ k, inR (l.getD k 0)
theorem shareL_in (whole : Int) (l : List Int) (hw : inR whole) (k : Nat) : inR ((shareL whole l).getD k 0) := by
  by_cases h : rightS whole l = true
  · by_cases hk : k < l.length
    · rw [shareL_getD h k hk]
      have := share_bd h k
      unfold inR at *; omega
    · rw [List.getD_eq_getElem?_getD, List.getElem?_eq_none (by rw [shareL_len h]; omega)]; simp [inR]
  · have h' : rightS whole l = false := by simpa using h
    unfold shareL; rw [h']; simp [inR]
theorem all_any (whole : Int) (a : Option Addr) (cap : Nat) (l : List Int) (w : World) (hn : l.length ≤ 1000000) (hw : inR whole) (hr : IRow w.heap.size w a l) :
    Calls Try.prog 7 #[.int .i64 whole, .slice a l.length cap] w fun e w' => ∃ v, e = .returned (.tuple #[v, .bool (rightS whole l)]) ∧ OwnI w' w.heap.size v (shareL whole l) ∧ Below w.heap.size w w' := by
  refine (all_walk whole a cap l w hn hw hr).mono ?_
  rintro e w' ⟨v, rfl, ho, hb⟩
  rw [allS_pos]
  rw [allS_len, allS_map] at ho
  exact ⟨v, rfl, ⟨ho, shareL_in whole l hw⟩, hb⟩
/-- A slice of the call's own is a row that may be read. -/
theorem OwnI.row {w : World} {base : Nat} {v : Value} {l : List Int} (h : OwnI w base v l) : ∃ a cap, v = .slice a l.length cap ∧ l.length ≤ cap ∧ cap ≤ maxLen ∧ IRow w.heap.size w a l := by
  rcases h.own.2 with ⟨rfl, h0⟩ | ⟨g, cap, cur, rfl, hb, hg, h1, h2, h3, h4⟩
  · exact ⟨none, 0, by rw [h0], by omega, by decide, fun k hk => by omega⟩
  · refine ⟨some ⟨g, 0, none⟩, cap, rfl, h1, h2, fun k hk => ⟨h.ins k, g, 0, rfl, (Array.getElem?_eq_some_iff.1 hg).1, ?_⟩⟩
    rw [World.ownsRow.cellAt h.own (0 + k) (by omega)]
    rw [List.getElem?_map, List.getD_eq_getElem?_getD, Nat.zero_add, List.getElem?_eq_getElem hk]
    simp
end Go.Proofs.Ytonffgnmljppgaa
