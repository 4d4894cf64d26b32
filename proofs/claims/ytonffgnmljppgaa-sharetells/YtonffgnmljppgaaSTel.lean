/- The walk of the law ShareTells. -/
import Derived.Test.YtonffgnmljppgaaSStop
import Derived.Test.YtonffgnmljppgaaSIs
namespace Go.Proofs.Ytonffgnmljppgaa
open Go.RowKit Go.Shelf
set_option linter.unusedVariables false
set_option linter.unusedSimpArgs false
attribute [local go_sem] Oper.semAt_some

theorem tells_many (whole n : Int) (a : Option Addr) (cap len : Nat) (w : World) (h : 40 < len) (hlen : (len : Int) ≤ 9223372036854775807) :
    Calls Try.prog 3 #[.int .i64 whole, .slice a len cap, .int .i64 n] w fun e w' => e = .returned (.bool true) ∧ Below w.heap.size w w' := by
  have b0 : Below w.heap.size w (w.alloc (.cells #[.bool false] 4)) := (Below.refl _ _).alloc (Nat.le_refl _) _
  have x0 := Boxed.new w 4 (.bool false)
  go_enter Try.func3, Try.ntmps3
  go_wp2_with fail
  refine (awake8 _).mono ?_
  rintro e w1 ⟨rfl, b1⟩
  have x1 : Boxed w1 w.heap.size 4 (.bool false) := (b1.block _ (by simp)).trans x0
  have c1 := b0.trans (b1.mono b0.size)
  have hc := x1.cell
  have hf := x1.frozen
  clear b1 b0 x0
  go_wp2
  refine bodyPost_ret (v := .bool true) (by simp [results, Try.results3, go_sem, hc, hf]) rfl ⟨rfl, c1.setCell (p := ⟨w.heap.size, 0, none⟩) (Nat.le_refl _) _⟩

/-- A round came that was not its turn. -/
def BadTurn (pre : List (Nat × Int)) : Prop := ∃ ini last, pre = ini ++ [last] ∧ last.1 ≠ ini.length
theorem no_bad (whole : Int) (l : List Int) (k : Nat) (hk : 1 ≤ k) : ¬ BadTurn (uptoS (comeS whole l) k) := by
  rintro ⟨ini, last, e, h⟩
  obtain ⟨j, rfl⟩ : ∃ j, k = j + 1 := ⟨k - 1, by omega⟩
  rw [uptoS_succ] at e
  obtain ⟨rfl, e5⟩ := List.append_inj' e rfl
  have e6 : comeS whole l j = last := by simpa using e5
  rw [uptoS_length, ← e6] at h
  exact h rfl

set_option maxRecDepth 100000 in
set_option maxHeartbeats 4000000 in
theorem tells_some (whole n : Int) (a : Option Addr) (cap : Nat) (l : List Int) (w : World) (hn : l.length ≤ 40) (hw : inR whole) (hi : inR n) (hcap : l.length ≤ cap) (hmax : cap ≤ maxLen) (hr : IRow w.heap.size w a l) :
    Calls Try.prog 3 #[.int .i64 whole, .slice a l.length cap, .int .i64 n] w fun e w' => e = .returned (.bool true) ∧ Below w.heap.size w w' := by
  have d1 : decide ((40 : Int) < l.length) = false := decide_eq_false (by omega)
  have hmx : 1000000 ≤ maxLen := by decide
  obtain ⟨i0, hi0, hz0, hz1, hz2⟩ := info_parts infoSp
  have b0 : Below w.heap.size w (w.alloc (.cells #[.bool false] 4)) := (Below.refl _ _).alloc (Nat.le_refl _) _
  have x0 := Boxed.new w 4 (.bool false)
  have z0 : (w.alloc (.cells #[.bool false] 4)).heap.size = w.heap.size + 1 := by simp
  refine (callsIn_wide (n := 3)).1 ?_
  refine callsIn_of_wp_marks Try.func3 rfl trivial ?_ rfl
  simp only [Try.ntmps3, List.size_toArray, List.length_cons, List.length_nil, Nat.reduceAdd, Nat.reduceSub, Array.replicate_succ, Array.replicate_zero, List.push_toArray, List.append_toArray, List.nil_append, List.cons_append]
  refine wpIn_wide.2 ?_
  go_wp2_with fail
  refine (awake8 _).mono ?_
  rintro e w1 ⟨rfl, b1⟩
  have x1 : Boxed w1 w.heap.size 4 (.bool false) := (b1.block _ (by omega)).trans x0
  have c1 := b0.trans (b1.mono b0.size)
  have z1 := b1.size
  rw [z0] at z1
  clear b1 b0 x0 z0
  go_wp2_with fail
  refine (all_any whole a cap l w1 (by omega) hw ((hr.carry c1 (Nat.le_refl _)).mono c1.size)).mono ?_
  obtain ⟨R, hR⟩ : ∃ R, R = rightS whole l := ⟨_, rfl⟩
  obtain ⟨L, hL⟩ : ∃ L, L = shareL whole l := ⟨_, rfl⟩
  rw [← hR, ← hL]
  have HR := Lib.hid hR
  have HL := Lib.hid hL
  clear hR hL
  rintro e w2 ⟨lv, rfl, ho, b2⟩
  obtain ⟨la, lc, rfl, hlc, hlm, hlr⟩ := ho.row
  have x2 : Boxed w2 w.heap.size 4 (.bool false) := (b2.block _ (by omega)).trans x1
  have c2 := c1.trans (b2.mono c1.size)
  have z2 := b2.size
  clear ho b2 c1 x1
  go_wp2_with fail
  refine (sup_any whole n a cap l w2 (by omega) hw hi hcap hmax ((hr.carry c2 (Nat.le_refl _)).mono c2.size)).mono ?_
  obtain ⟨r, hU⟩ : ∃ r, r = upS whole l n := ⟨_, rfl⟩
  rw [← hU]
  have HU := Lib.hid hU
  clear hU
  obtain ⟨u, o⟩ := r
  unfold Go.Proofs.Ytonffgnmljppgaa.two
  rintro e w3 ⟨rfl, b3⟩
  have x3 : Boxed w3 w.heap.size 4 (.bool false) := (b3.block _ (by omega)).trans x2
  have c3 := c2.trans (b3.mono c2.size)
  have z3 := b3.size
  replace hlr := (hlr.carry b3 (Nat.le_refl _)).mono z3
  clear b3 c2 x2
  go_wp2_with fail
  refine (seach_in _ _ _ _ _).mono ?_
  rintro e w4 ⟨rfl, rfl⟩
  go_wp2_with fail
  obtain ⟨W0, hW0⟩ : ∃ W0, W0 = (((w3.alloc (.cells #[.slice none 0 0] 23)).alloc (.cells #[.int .i64 whole] 22)).alloc (.cells #[.slice a l.length cap] 23)) := ⟨_, rfl⟩
  have hs0 : W0.heap.size = w3.heap.size + 3 := by rw [hW0]; simp
  have hB0 : Below w3.heap.size w3 W0 := by
    rw [hW0]
    exact (((Below.refl _ w3).alloc (Nat.le_refl _) _).alloc (by simp) _).alloc (by simp; omega) _
  have bO : Boxed W0 w3.heap.size 23 (.slice none 0 0) := by
    rw [hW0]; exact ((Boxed.new w3 23 (.slice none 0 0)).alloc _).alloc _
  have bW : Boxed W0 (w3.heap.size + 1) 22 (.int .i64 whole) := by
    rw [hW0]
    have := Boxed.new (w3.alloc (.cells #[.slice none 0 0] 23)) 22 (.int .i64 whole)
    simp only [World.size_alloc] at this
    exact this.alloc _
  have bP : Boxed W0 (w3.heap.size + 2) 23 (.slice a l.length cap) := by
    rw [hW0]
    have := Boxed.new ((w3.alloc (.cells #[.slice none 0 0] 23)).alloc (.cells #[.int .i64 whole] 22)) 23 (.slice a l.length cap)
    simp only [World.size_alloc] at this
    exact this
  have x4 : Boxed W0 w.heap.size 4 (.bool false) := (hB0.block _ (by omega)).trans x3
  have c4 := c3.trans (hB0.mono c3.size)
  have hr4 := hr.carry c4 (Nat.le_refl _)
  have hl4 := hlr.carry hB0 (Nat.le_refl _)
  rw [← hW0]
  clear hW0 hB0 x3 c3 hlr
  refine (wpIn_wide (n := 3)).1 ?_
  refine wpIn_rangeFunc_ownG rfl (by omega) (gf := 19) (lb := #[.pointer (some ⟨w3.heap.size + 1, 0, none⟩), .pointer (some ⟨w3.heap.size + 2, 0, none⟩)]) rfl trivial (enters_of Try.func19 (by kernel_rfl) rfl)
    (each_stops _ W0.heap.size (w3.heap.size + 1) (w3.heap.size + 2) w3.heap.size whole a cap l W0 (by omega) hw bW.cell bP.cell (by omega) (by omega) (by omega) (hr4.off (by omega)) (Nat.le_refl _) (hr4.mono (by omega)))
    SBut.trans (sbut_b (Nat.le_refl _)) (Below.refl _ _) (fun _ => rfl)
    (fun pre W => (∃ v, Boxed W w3.heap.size 23 v ∧ W.ownsRow W0.heap.size 22 1 v pre.length (pre.map fun x => Value.int .i64 x.2) ∧ True) ∧ SBut W0.heap.size w3.heap.size W0 W)
    (fun c pre W => BadTurn pre)
    (OwnFrom.and (Own.from (holdsRow_own W0.heap.size w3.heap.size 23 22 1 (fun pre : List (Nat × Int) => pre.length) (fun pre => pre.map fun x => Value.int .i64 x.2) (fun pre v => True)) _) (ownFrom_sbut (Nat.le_refl _) (Nat.le_refl _)))
    (fun c => ownFrom_pure _ _)
    ⟨⟨_, bO, World.ownsRow_nil _ _ _ _, trivial⟩, SBut.refl _ _ _⟩
    ?a1 ?assign ?body ?done ?stop
  case assign =>
    intro l x W K hK
    gi_wp2
    exact hK
  case body =>
    rintro l0 pre x W ⟨⟨v, hv, hrow, _⟩, hB⟩ hlt
    have hsz := hB.size
    have xn : Boxed W w.heap.size 4 (.bool false) := (hB.block _ (by omega) (by omega)).trans x4
    obtain ⟨va, vc, rfl⟩ : ∃ va vc, v = .slice va pre.length vc := by
      rcases hrow.2 with ⟨rfl, h0⟩ | ⟨g, c, cur, rfl, _⟩
      · exact ⟨none, 0, by rw [h0]⟩
      · exact ⟨_, _, rfl⟩
    have hc := hv.cell
    have xc := xn.cell
    have xf := xn.frozen
    obtain ⟨x1, x2⟩ := x
    by_cases hE : x1 = pre.length
    · subst hE
      gi_wp2_with (gi_at_builtin; refine wpListIn_append_own _ rfl _ _ 23 rfl W0.heap.size 22 i0 (.int .i64 0) 1 8 Try.underlying23 hi0 hz0 hz1 hz2 rfl (by decide) _ _ _ rfl (hrow.alloc _) ⟨W.heap.size, 0, none⟩ 1 1 [.int .i64 x2] rfl rfl (cell_one_new _ _ _) (by simp [Value.oneCell']) (by omega) (by omega) (by simp; omega) ?_; intro v' w1 hown' hgrow _; obtain ⟨g', cap', rfl⟩ := ownsRow_succ hown'; obtain ⟨hv1, hv2, hr2, hk2, hb2⟩ := sapp hv (by decide) hrow hsz hown' hgrow; have hc1 := hv1.cell; have hf1 := hv1.frozen)
      exact ⟨hk2.from _, hb2, ⟨_, hv2, by simpa using hr2, trivial⟩, hB.trans hb2⟩
    · have hq : ((x1 : Int) == (pre.length : Int)) = false := by rw [beq_eq_false_iff_ne]; omega
      gi_wp2
      exact ⟨(KeepsOthers.setCell _ _ _).from _, pre, (x1, x2), rfl, hE⟩
  case done =>
    rintro D ys W hD rfl ⟨⟨v, hv, hrow, _⟩, hB⟩ hK
    rw [allS_len, allS_map, ← HL.out] at hrow
    have hown : OwnI W W0.heap.size v L := ⟨hrow, fun j => by rw [HL.out]; exact shareL_in whole l hw j⟩
    obtain ⟨va, vc, rfl, _, _, hvr⟩ := hown.row
    have hLn : L.length ≤ 40 := by
      rw [HL.out]; unfold shareL; split
      · rw [uptoS_length]; exact hn
      · simp
    have hsz := hB.size
    have hl5 := (hl4.but hB (by omega) (hl4.off (Nat.le_refl _))).mono (show w3.heap.size ≤ W.heap.size from by omega)
    have x5 : Boxed W w.heap.size 4 (.bool false) := (hB.block _ (by omega) (by omega)).trans x4
    have c5 : Below w.heap.size w W := c4.trans ((hB.below (m := w3.heap.size) (by omega) (Nat.le_refl _)).mono (by omega))
    have hDl : D < W.heap.size := (Array.getElem?_eq_some_iff.1 hK).1
    have hbx := hv
    clear hrow hown
    have hr5 := (hr.carry c5 (Nat.le_refl _)).mono c5.size
    have k1 := rall_any whole a cap l W (by omega) hw hcap hmax hr5
    rw [← HL.out] at k1
    have k2 : ∀ x, Below W.heap.size W x → Calls Try.prog 11 #[.int .i64 whole, .slice a l.length cap] x fun e y => e = .returned (.bool R) ∧ Below x.heap.size x y := fun x hx => by
      have c := sright_any whole a cap l x (by omega) ((hr5.carry hx (Nat.le_refl _)).mono hx.size)
      rw [← HR.out] at c
      exact c
    have k3 : ∀ x, Below W.heap.size W x → Calls Try.prog 13 #[.int .i64 whole, .slice a l.length cap, .int .i64 n] x fun e y => e = .returned (.agg #[.int .i64 u, .bool o]) ∧ Below x.heap.size x y := fun x hx => by
      have c := rup8_any whole n a cap l x (by omega) hw hi hcap hmax ((hr5.carry hx (Nat.le_refl _)).mono hx.size)
      rw [← HU.out] at c
      exact c
    have k4 : ∀ (b b' : Option Addr) (cb cb' : Nat) (y : World), IRow y.heap.size y b L → IRow y.heap.size y b' L → Calls Try.prog 12 #[.slice b L.length cb, .slice b' L.length cb'] y fun e z => e = .returned (.bool true) ∧ Below y.heap.size y z := fun b b' cb cb' y h1 h2 => by
      have c := ssame_any b b' cb cb' L L y (by omega) (by omega) h1 h2
      rw [decide_eq_true rfl] at c
      exact c
    clear hr hr4 hr5 hl4 bO bW bP x4 c4 hn hw hi d1
    go_wp2_with fail
    refine k1.mono ?_
    rintro e w5 ⟨wv, rfl, ho, b5⟩
    obtain ⟨wa, wc, rfl, _, _, hwr⟩ := ho.row
    clear k1 ho
    go_wp2_with fail
    refine (k2 _ b5).mono ?_
    rintro e w6 ⟨rfl, b6⟩
    have y6 : Below W.heap.size W w6 := b5.trans (b6.mono b5.size)
    have hw6 := (hwr.carry b6 (Nat.le_refl _)).mono b6.size
    have eR : (R == R) = true := beq_self_eq_true _
    clear k2 b5 b6 hwr
    go_wp2_with fail
    refine (k4 _ _ _ _ _ ((hl5.carry y6 (Nat.le_refl _)).mono y6.size) hw6).mono ?_
    rintro e w7 ⟨rfl, b7⟩
    have y7 : Below W.heap.size W w7 := y6.trans (b7.mono y6.size)
    have hw7 := (hw6.carry b7 (Nat.le_refl _)).mono b7.size
    have hc7 := Boxed.cell ((y7.block _ hbx.lt).trans hbx)
    clear y6 b7 hw6
    go_wp2_with fail
    refine (k4 _ _ _ _ _ ((hvr.carry y7 (Nat.le_refl _)).mono y7.size) hw7).mono ?_
    rintro e w8 ⟨rfl, b8⟩
    have y8 : Below W.heap.size W w8 := y7.trans (b8.mono y7.size)
    clear y7 b8 hw7 hc7 k4
    go_wp2_with fail
    refine (k3 _ y8).mono ?_
    rintro e w9 ⟨rfl, b9⟩
    have y9 : Below W.heap.size W w9 := y8.trans (b9.mono y8.size)
    clear y8 b9 k3
    go_wp2_with fail
    refine (awake8 _).mono ?_
    rintro e w10 ⟨rfl, b10⟩
    have y10 : Below W.heap.size W w10 := y9.trans (b10.mono y9.size)
    have x10 : Boxed w10 w.heap.size 4 (.bool false) := (y10.block _ x5.lt).trans x5
    have hc := x10.cell
    have hf := x10.frozen
    clear y9 b10
    go_wp2
    have hK0 : w10.heap[D]? = some (.deferred (some [])) := (y10.block D hDl).trans hK
    have hK' := (KeepsOthers.setCell w10 ⟨w.heap.size, 0, none⟩ (.bool true)).same D _ hK0 rfl
    refine ⟨by simp, .inl ⟨_, _, rfl, run_takeDeferred hK', ?_⟩⟩
    have hc5 := cell_kept (World.cell?_setCell_same' w10 ⟨w.heap.size, 0, none⟩ (.bool true) (by rw [hc]; rfl)) (grownBy_putObj' _ D (.deferred none)) (fun r e => by cases e; exact ⟨_, hK', rfl⟩)
    have c10 : Below w.heap.size w w10 := c5.trans (y10.mono c5.size)
    refine ⟨.bool true, by simp [results, Try.results3, go_sem, hc5], rfl, (c10.setCell (p := ⟨w.heap.size, 0, none⟩) (Nat.le_refl _) _).trans (belowK_b (w := w) (Nat.le_refl _) _ D _ _ (by omega) hK' rfl rfl)⟩
  case stop =>
    rintro D c pre W hD ⟨hright, k, hk1, hk2, rfl⟩ hbad hK
    exact absurd hbad (no_bad whole l k hk1)
theorem shareTells_walk (whole : Int) (hw : (Lit.int .i64 whole).wf = true) (a : Option Addr) (len cap : Nat) (zs : List Int) (n : Int) (hn : (Lit.int .i64 n).wf = true) (w : World) (h : IsRow .i64 w a len cap zs) :
    Calls Try.prog 3 #[.int .i64 whole, .slice a len cap, .int .i64 n] w fun e w' => e = .returned (.bool true) ∧ Below w.heap.size w w' := by
  obtain ⟨l, rfl, hr, h1, h2⟩ := h.irow
  have hm : maxLen ≤ 9223372036854775807 := by decide
  by_cases hc : 40 < l.length
  · exact tells_many whole n a cap l.length w hc (by omega)
  · exact tells_some whole n a cap l w (by omega) (swfR hw) (swfR hn) h1 h2 hr
end Go.Proofs.Ytonffgnmljppgaa
