/- The walk of the law ShareStops. -/
import Derived.Test.YtonffgnmljppgaaSAw
namespace Go.Proofs.Ytonffgnmljppgaa
open Go.RowKit Go.Shelf
set_option linter.unusedVariables false
set_option linter.unusedSimpArgs false
attribute [local go_sem] Oper.semAt_some

/-- Another box stands across 'out = append(out, v)'. -/
theorem keep_box {W w1 : World} {n B e t : Nat} {v u : Value} {k : Nat} {xs : List Value} {tmp : Obj} (h : Boxed W B t u) (hrow : W.ownsRow n e 1 v k xs) (hgrow : (W.alloc tmp).grownBy w1 v.ownBlock) (hB : B < n) : Boxed w1 B t u := by
  refine (h.alloc tmp).kept hgrow ?_
  rcases hrow.2 with ⟨rfl, _⟩ | ⟨g, cap, cur, rfl, hb, _, _⟩
  · simp [Value.ownBlock]
  · simp [Value.ownBlock]; omega
/-- Who asks at once. -/
theorem stops_none (whole n : Int) (a : Option Addr) (cap len : Nat) (w : World) (hlen : (len : Int) ≤ 9223372036854775807) (h : 40 < len ∨ n < 1 ∨ (len : Int) < n) :
    Calls Try.prog 5 #[.int .i64 whole, .slice a len cap, .int .i64 n] w fun e w' => e = .returned (.bool true) ∧ Below w.heap.size w w' := by
  have b0 : Below w.heap.size w (w.alloc (.cells #[.int .i64 n] 3)) := (Below.refl _ _).alloc (Nat.le_refl _) _
  by_cases h1 : 40 < len
  · go_enter Try.func5, Try.ntmps5
    go_wp2_with (refine (awake8 _).mono ?_; rintro e w1 ⟨rfl, b1⟩)
    go_ret
    exact ⟨rfl, b0.trans (b1.mono b0.size)⟩
  · by_cases h2 : n < 1
    · go_enter Try.func5, Try.ntmps5
      go_wp2_with (refine (awake8 _).mono ?_; rintro e w1 ⟨rfl, b1⟩)
      go_ret
      exact ⟨rfl, b0.trans (b1.mono b0.size)⟩
    · have h3 : (len : Int) < n := by omega
      go_enter Try.func5, Try.ntmps5
      go_wp2_with (refine (awake8 _).mono ?_; rintro e w1 ⟨rfl, b1⟩)
      go_ret
      exact ⟨rfl, b0.trans (b1.mono b0.size)⟩

set_option maxRecDepth 100000 in
set_option maxHeartbeats 2000000 in
theorem stops_some (whole : Int) (n : Nat) (a : Option Addr) (cap : Nat) (l : List Int) (w : World) (hn : l.length ≤ 40) (hw : inR whole) (h1 : 1 ≤ n) (h2 : n ≤ l.length) (hr : IRow w.heap.size w a l) :
    Calls Try.prog 5 #[.int .i64 whole, .slice a l.length cap, .int .i64 n] w fun e w' => e = .returned (.bool true) ∧ Below w.heap.size w w' := by
  have d1 : decide ((40 : Int) < l.length) = false := decide_eq_false (by omega)
  have d2 : decide ((n : Int) < 1) = false := decide_eq_false (by omega)
  have d3 : decide (l.length < n) = false := decide_eq_false (by omega)
  have hmx : 1000000 ≤ maxLen := by decide
  obtain ⟨i0, hi, hz0, hz1, hz2⟩ := info_parts infoSp
  have b0 : Below w.heap.size w (w.alloc (.cells #[.int .i64 n] 3)) := (Below.refl _ _).alloc (Nat.le_refl _) _
  have x0 := Boxed.new w 3 (.int .i64 n)
  have z0 : (w.alloc (.cells #[.int .i64 n] 3)).heap.size = w.heap.size + 1 := by simp
  refine (callsIn_wide (n := 3)).1 ?_
  refine callsIn_of_wp_marks Try.func5 rfl trivial ?_ rfl
  simp only [Try.ntmps5, List.size_toArray, List.length_cons, List.length_nil, Nat.reduceAdd, Nat.reduceSub, Array.replicate_succ, Array.replicate_zero, List.push_toArray, List.append_toArray, List.nil_append, List.cons_append]
  refine wpIn_wide.2 ?_
  go_wp2_with fail
  refine (awake8 _).mono ?_
  rintro e w1 ⟨rfl, b1⟩
  have x1 : Boxed w1 w.heap.size 3 (.int .i64 n) := (b1.block _ (by omega)).trans x0
  have c1 := b0.trans (b1.mono b0.size)
  have z1 := b1.size
  rw [z0] at z1
  clear b1 b0 x0 z0
  go_wp2_with fail
  refine (all_any whole a cap l w1 (by omega) hw ((hr.carry c1 (Nat.le_refl _)).mono c1.size)).mono ?_
  obtain ⟨R, hR⟩ : ∃ R, R = rightS whole l := ⟨_, rfl⟩
  obtain ⟨L, hL⟩ : ∃ L, L = shareL whole l := ⟨_, rfl⟩
  rw [← hR, ← hL]
  have HR := Lib.hid hR
  have HL := Lib.hid hL
  clear hR hL
  rintro e w2 ⟨lv, rfl, ho, b2⟩
  obtain ⟨la, lc, rfl, hlc, hlm, hlr⟩ := ho.row
  have x2 : Boxed w2 w.heap.size 3 (.int .i64 n) := (b2.block _ (by omega)).trans x1
  have c2 := c1.trans (b2.mono c1.size)
  have z2 := b2.size
  clear ho b2 c1 x1
  go_wp2_with fail
  refine (seach_in _ _ _ _ _).mono ?_
  rintro e w3 ⟨rfl, rfl⟩
  go_wp2_with fail
  obtain ⟨W0, hW0⟩ : ∃ W0, W0 = (((w2.alloc (.cells #[.slice none 0 0] 23)).alloc (.cells #[.int .i64 whole] 22)).alloc (.cells #[.slice a l.length cap] 23)) := ⟨_, rfl⟩
  have hs0 : W0.heap.size = w2.heap.size + 3 := by rw [hW0]; simp
  have hB0 : Below w2.heap.size w2 W0 := by
    rw [hW0]
    exact (((Below.refl _ w2).alloc (Nat.le_refl _) _).alloc (by simp) _).alloc (by simp; omega) _
  have bO : Boxed W0 w2.heap.size 23 (.slice none 0 0) := by
    rw [hW0]; exact ((Boxed.new w2 23 (.slice none 0 0)).alloc _).alloc _
  have bW : Boxed W0 (w2.heap.size + 1) 22 (.int .i64 whole) := by
    rw [hW0]
    have := Boxed.new (w2.alloc (.cells #[.slice none 0 0] 23)) 22 (.int .i64 whole)
    simp only [World.size_alloc] at this
    exact this.alloc _
  have bP : Boxed W0 (w2.heap.size + 2) 23 (.slice a l.length cap) := by
    rw [hW0]
    have := Boxed.new ((w2.alloc (.cells #[.slice none 0 0] 23)).alloc (.cells #[.int .i64 whole] 22)) 23 (.slice a l.length cap)
    simp only [World.size_alloc] at this
    exact this
  have x3 : Boxed W0 w.heap.size 3 (.int .i64 n) := (hB0.block _ (by omega)).trans x2
  have c3 := c2.trans (hB0.mono c2.size)
  have hr3 := hr.carry c3 (Nat.le_refl _)
  have hl3 := hlr.carry hB0 (Nat.le_refl _)
  rw [← hW0]
  clear hW0 hB0 x2 c2 hlr
  refine (wpIn_wide (n := 3)).1 ?_
  refine wpIn_rangeFunc_ownG rfl (by omega) (gf := 19) (lb := #[.pointer (some ⟨w2.heap.size + 1, 0, none⟩), .pointer (some ⟨w2.heap.size + 2, 0, none⟩)]) rfl trivial (enters_of Try.func19 (by kernel_rfl) rfl)
    (each_stops _ W0.heap.size (w2.heap.size + 1) (w2.heap.size + 2) w2.heap.size whole a cap l W0 (by omega) hw bW.cell bP.cell (by omega) (by omega) (by omega) (hr3.off (by omega)) (Nat.le_refl _) (hr3.mono (by omega)))
    SBut.trans (sbut_b (Nat.le_refl _)) (Below.refl _ _) (fun _ => rfl)
    (fun pre W => ((∃ v, Boxed W w2.heap.size 23 v ∧ W.ownsRow W0.heap.size 22 1 v pre.length (pre.map fun x => Value.int .i64 x.2) ∧ True) ∧ SBut W0.heap.size w2.heap.size W0 W) ∧ pre.length < n)
    (fun c pre W => ((∃ v, Boxed W w2.heap.size 23 v ∧ W.ownsRow W0.heap.size 22 1 v pre.length (pre.map fun x => Value.int .i64 x.2) ∧ True) ∧ SBut W0.heap.size w2.heap.size W0 W) ∧ c = .exit 0 ∧ pre.length = n)
    (OwnFrom.and (OwnFrom.and (Own.from (holdsRow_own W0.heap.size w2.heap.size 23 22 1 (fun pre : List (Nat × Int) => pre.length) (fun pre => pre.map fun x => Value.int .i64 x.2) (fun pre v => True)) _) (ownFrom_sbut (Nat.le_refl _) (Nat.le_refl _))) (ownFrom_pure _ _))
    (fun c => OwnFrom.and (OwnFrom.and (Own.from (holdsRow_own W0.heap.size w2.heap.size 23 22 1 (fun pre : List (Nat × Int) => pre.length) (fun pre => pre.map fun x => Value.int .i64 x.2) (fun pre v => True)) _) (ownFrom_sbut (Nat.le_refl _) (Nat.le_refl _))) (ownFrom_pure _ _))
    ⟨⟨⟨_, bO, World.ownsRow_nil _ _ _ _, trivial⟩, SBut.refl _ _ _⟩, by simp; omega⟩
    ?a1 ?assign ?body ?done ?stop
  case assign =>
    intro l x W K hK
    gi_wp2
    exact hK
  case body =>
    rintro l0 pre x W ⟨⟨⟨v, hv, hrow, _⟩, hB⟩, hpn⟩ hlt
    have hc := hv.cell
    have hsz := hB.size
    have xn : Boxed W w.heap.size 3 (.int .i64 n) := (hB.block _ (by omega) (by omega)).trans x3
    by_cases hE : pre.length + 1 = n
    · subst hE
      gi_wp2_with (gi_at_builtin; refine wpListIn_append_own _ rfl _ _ 23 rfl W0.heap.size 22 i0 (.int .i64 0) 1 8 Try.underlying23 hi hz0 hz1 hz2 rfl (by decide) _ _ _ rfl (hrow.alloc _) ⟨W.heap.size, 0, none⟩ 1 1 [.int .i64 x.2] rfl rfl (cell_one_new _ _ _) (by simp [Value.oneCell']) (by omega) (by omega) (by simp; omega) ?_; intro v' w1 hown' hgrow _; obtain ⟨g', cap', rfl⟩ := ownsRow_succ hown'; obtain ⟨hv1, hv2, hr2, hk2, hb2⟩ := sapp hv (by decide) hrow hsz hown' hgrow; have hc1 := hv1.cell; have hf1 := hv1.frozen; have xn1 := (keep_box xn hrow hgrow (by omega)).cell)
      refine ⟨hk2.from _, ⟨⟨_, hv2, by simpa using hr2, trivial⟩, hB.trans hb2⟩, rfl, by simp⟩
    · have hq : (((pre.length : Int) + 1) == (n : Int)) = false := by rw [beq_eq_false_iff_ne]; omega
      gi_wp2_with (gi_at_builtin; refine wpListIn_append_own _ rfl _ _ 23 rfl W0.heap.size 22 i0 (.int .i64 0) 1 8 Try.underlying23 hi hz0 hz1 hz2 rfl (by decide) _ _ _ rfl (hrow.alloc _) ⟨W.heap.size, 0, none⟩ 1 1 [.int .i64 x.2] rfl rfl (cell_one_new _ _ _) (by simp [Value.oneCell']) (by omega) (by omega) (by simp; omega) ?_; intro v' w1 hown' hgrow _; obtain ⟨g', cap', rfl⟩ := ownsRow_succ hown'; obtain ⟨hv1, hv2, hr2, hk2, hb2⟩ := sapp hv (by decide) hrow hsz hown' hgrow; have hc1 := hv1.cell; have hf1 := hv1.frozen; have xn1 := (keep_box xn hrow hgrow (by omega)).cell)
      refine ⟨hk2.from _, hb2, ⟨⟨_, hv2, by simpa using hr2, trivial⟩, hB.trans hb2⟩, by simp; omega⟩
  case done =>
    rintro D ys W hD rfl ⟨⟨⟨v, hv, hrow, _⟩, hB⟩, hpn⟩ hK
    have hRf : R = false := by
      rcases hb : R with _ | _
      · rfl
      · have h := HR.out
        rw [hb] at h
        rw [allS_len, shareL_len h.symm] at hpn
        omega
    subst hRf
    have e0 : allS whole l = [] := by unfold allS; rw [← HR.out]; rfl
    rw [e0] at hrow
    obtain ⟨va, vc, rfl⟩ : ∃ va vc, v = .slice va 0 vc := by
      rcases hrow.2 with ⟨rfl, h0⟩ | ⟨g, c, cur, rfl, _⟩
      · exact ⟨none, 0, rfl⟩
      · exact ⟨_, _, rfl⟩
    have hc := hv.cell
    have hDl : D < W.heap.size := (Array.getElem?_eq_some_iff.1 hK).1
    clear hrow e0 hpn
    go_wp2_with (refine (awake8 _).mono ?_; rintro e w5 ⟨rfl, b5⟩)
    have hK' : w5.heap[D]? = some (.deferred (some [])) := (b5.block D hDl).trans hK
    refine ⟨by simp, .inl ⟨_, _, rfl, run_takeDeferred hK', ?_⟩⟩
    refine ⟨_, results_tmp rfl _ _ _, rfl, ?_⟩
    have q1 := hB.below (m := w2.heap.size) (by omega) (Nat.le_refl _)
    have q2 := c3.trans (q1.mono (by omega))
    have q3 := q2.trans (b5.mono q2.size)
    exact q3.trans (belowK_b (w := w) (Nat.le_refl _) _ D _ _ (by omega) hK' rfl rfl)
  case stop =>
    rintro D c pre W hD ⟨hright, k, hk1, hk2, rfl⟩ ⟨⟨⟨v, hv, hrow, _⟩, hB⟩, rfl, hpn⟩ hK
    rw [uptoS_length] at hpn
    subst hpn
    obtain rfl : R = true := HR.out.trans hright
    have hmp : (uptoS (comeS whole l) k).map (fun x => Value.int .i64 x.2) = (uptoS (shareK whole l) k).map (Value.int .i64) := by simp [uptoS, comeS]
    have hLk : L.take k = uptoS (shareK whole l) k := by rw [HL.out]; unfold shareL; rw [if_pos hright, uptoS_take _ _ _ hk2]
    have hown : OwnI W W0.heap.size v (uptoS (shareK whole l) k) := ⟨by rw [uptoS_length, ← hmp]; rw [uptoS_length] at hrow; exact hrow, fun j => by
      rw [← hLk]
      by_cases hj : j < (L.take k).length
      · rw [take_getD hj, HL.out]; exact shareL_in whole l hw j
      · rw [List.getD_eq_getElem?_getD, List.getElem?_eq_none (by omega)]; simp [inR]⟩
    obtain ⟨va, vc, rfl, _, _, hvr⟩ := hown.row
    have hlr := ((hl3.but hB (by omega) (hl3.off (Nat.le_refl _))).take k).mono (show w2.heap.size ≤ W.heap.size from by have := hB.size; omega)
    rw [hLk] at hlr
    have hLl : L.length = l.length := by rw [HL.out, shareL_len hright]
    rw [uptoS_length] at hv
    obtain ⟨U, hU⟩ : ∃ U, U = uptoS (shareK whole l) k := ⟨_, rfl⟩
    have hUl : U.length = k := by rw [hU, uptoS_length]
    rw [← hU] at hlr hvr
    have hc := hv.cell
    have xn : W.cell? ⟨w.heap.size, 0, none⟩ = some (.int .i64 k) := Boxed.cell (t := 3) ((hB.block _ (by omega) (by omega)).trans x3)
    have hDl : D < W.heap.size := (Array.getElem?_eq_some_iff.1 hK).1
    have cs : ∀ x, Old W x → Calls Try.prog 12 #[.slice va k vc, .slice la k lc] x fun e y => e = .returned (.bool true) ∧ Below x.heap.size x y := fun x hx => by
      have c := ssame_any va la vc lc U U x (by omega) (by omega) ((hvr.carry hx (Nat.le_refl _)).mono hx.size) ((hlr.carry hx (Nat.le_refl _)).mono hx.size)
      rw [decide_eq_true rfl, hUl] at c
      exact c
    rw [hLl] at hlc ⊢
    have cut := icut_to la l.length lc k (by omega) hlm
    clear hrow hmp hLk hown hlr hvr hU hUl hLl
    refine wpIn_wide.2 ?_
    go_wp2_with fail
    have cells : ∀ x, Old W x → x.cell? ⟨w.heap.size, 0, none⟩ = some (.int .i64 k) ∧ x.cell? ⟨w2.heap.size, 0, none⟩ = some (.slice va k vc) := fun x hx =>
      ⟨(hx.cell (p := ⟨w.heap.size, 0, none⟩) (by simp; omega)).trans xn, (hx.cell (p := ⟨w2.heap.size, 0, none⟩) (by simp; omega)).trans hc⟩
    have CE := Lib.hid cells
    have g1 : decide (k ≤ l.length) = true := decide_eq_true hk2
    clear cells xn hc
    (refine wp_region_text (Old W) 14 (by kernel_rfl) (by kernel_rfl) (Below.refl _ W).drew ?_; simp only [List.take_succ_cons, List.take_zero, List.drop_succ_cons, List.drop_zero])
    repeat (first | (apply Text.sees (hw := by kernel_rfl); (focus (intro x hx K hK; have hc := CE.out x hx; go_simp; exact hK)); simp only [Act.put, List.getElem_toArray, List.getElem_cons_succ, List.getElem_cons_zero, List.setIfInBounds_toArray, List.set_cons_zero, List.set_cons_succ]) | (apply Text.idle; (focus (intro x hx K hK; go_simp; exact hK)); simp only [Act.put, List.getElem_toArray, List.getElem_cons_succ, List.getElem_cons_zero, List.setIfInBounds_toArray, List.set_cons_zero, List.set_cons_succ]))
    (refine Text.call (Old.call fun x hx => cs x hx) (by kernel_rfl) (fun _ => by kernel_rfl) ?_; simp only [Act.put, List.getElem_toArray, List.getElem_cons_succ, List.getElem_cons_zero, List.setIfInBounds_toArray, List.set_cons_zero, List.set_cons_succ])
    repeat (first | (apply Text.sees (hw := by kernel_rfl); (focus (intro x hx K hK; have hc := CE.out x hx; go_simp; exact hK)); simp only [Act.put, List.getElem_toArray, List.getElem_cons_succ, List.getElem_cons_zero, List.setIfInBounds_toArray, List.set_cons_zero, List.set_cons_succ]) | (apply Text.idle; (focus (intro x hx K hK; go_simp; exact hK)); simp only [Act.put, List.getElem_toArray, List.getElem_cons_succ, List.getElem_cons_zero, List.setIfInBounds_toArray, List.set_cons_zero, List.set_cons_succ]))
    (refine Text.call (Old.call fun x hx => awake8 x) (by kernel_rfl) (fun _ => by kernel_rfl) ?_; simp only [Act.put, List.getElem_toArray, List.getElem_cons_succ, List.getElem_cons_zero, List.setIfInBounds_toArray, List.set_cons_zero, List.set_cons_succ])
    repeat (first | (apply Text.sees (hw := by kernel_rfl); (focus (intro x hx K hK; have hc := CE.out x hx; go_simp; exact hK)); simp only [Act.put, List.getElem_toArray, List.getElem_cons_succ, List.getElem_cons_zero, List.setIfInBounds_toArray, List.set_cons_zero, List.set_cons_succ]) | (apply Text.idle; (focus (intro x hx K hK; go_simp; exact hK)); simp only [Act.put, List.getElem_toArray, List.getElem_cons_succ, List.getElem_cons_zero, List.setIfInBounds_toArray, List.set_cons_zero, List.set_cons_succ]))
    intro x hx
    go_wp2
    have hK' : x.heap[D]? = some (.deferred (some [])) := (hx.block D hDl).trans hK
    refine ⟨by simp, .inl ⟨_, _, rfl, run_takeDeferred hK', ?_⟩⟩
    refine ⟨_, results_tmp rfl _ _ _, rfl, ?_⟩
    have q1 := hB.below (m := w2.heap.size) (by omega) (Nat.le_refl _)
    have q2 := c3.trans (q1.mono (by omega))
    have q3 := q2.trans (hx.mono q2.size)
    exact q3.trans (belowK_b (w := w) (Nat.le_refl _) _ D _ _ (by omega) hK' rfl rfl)
end Go.Proofs.Ytonffgnmljppgaa
