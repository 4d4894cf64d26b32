/- The walk of AnchorGrows. -/
import Derived.Test.YtniipfpfilenmaaHTel
namespace Go.Proofs.Ytniipfpfilenmaa
open Go.RowKit
set_option maxRecDepth 20000
set_option linter.unusedVariables false
set_option linter.unusedSimpArgs false

theorem nl3 {a b c x y z : Int} (h : a ≤ x ∧ b ≤ y ∧ c ≤ z) : ¬ x < a ∧ ¬ y < b ∧ ¬ z < c := by omega
theorem anchorGrows_out (a : Option Addr) (len cap : Nat) (af : Option Addr) (lf cf : Nat) (p q : Int) (w : World) (hn : 200 < len ∨ q < p) (hc : len ≤ 9223372036854775807) :
    Calls Try.prog 4 #[.slice a len cap, .slice af lf cf, .agg #[.int .i64 p, .int .i64 q]] w fun e w' => e = .returned (.bool true) ∧ Below w.heap.size w w' := by
  have c := awake21
  have b0 := tbel1 w (.cells #[.int .i64 p, .int .i64 q] 24)
  rcases (by omega : 200 < len ∨ (¬ 200 < len ∧ q < p)) with h | ⟨g, h⟩
  all_goals
    clear hn
    go_enter Try.func4, Try.ntmps4
    go_wp2_with fail
    refine (c _).mono ?_
    rintro e w1 ⟨rfl, b1⟩
    go_wp2
    go_ret
    exact ⟨rfl, tstep b0 b1 b0.size⟩
set_option maxHeartbeats 8000000 in
theorem anchorGrows_in (a : Option Addr) (cap : Nat) (l : List I7) (af : Option Addr) (cf : Nat) (fl : List F3) (p q : Int) (w : World) (hn : l.length ≤ 200) (hpq : ¬ q < p) (hr : Els 7 encI w a l.length fun k => l.getD k zeroI) (hi : ∀ k, inI (l.getD k zeroI)) (hf : fl.length ≤ 9223372036854775807) (hrf : URow w af fl) :
    Calls Try.prog 4 #[.slice a l.length cap, .slice af fl.length cf, .agg #[.int .i64 p, .int .i64 q]] w fun e w' => e = .returned (.bool true) ∧ Below w.heap.size w w' := by
  have b0 := tbel1 w (.cells #[.int .i64 p, .int .i64 q] 24)
  have B0 := blk_new w #[.int .i64 p, .int .i64 q] 24
  have c1 := hnew_any a cap l af cf fl _ (by omega) (hr.carry b0) hi hf (hrf.carry b0)
  have cw := Lib.hid awake21
  have HC := Lib.hid fun (v : Value) (x : World) (h : MapV x v l fl) => And.intro (hahead_any v l fl p x h (by omega)) (And.intro (hahead_any v l fl q x h (by omega)) (And.intro (hdue_any v l fl p x h (by omega)) (And.intro (hdue_any v l fl q x h (by omega)) (And.intro (hbegun_any v l fl p x h (by omega)) (And.intro (hbegun_any v l fl q x h (by omega)) (hnotes_any v l fl p q x h (by omega) hi))))))
  have gm := grows_math l fl (show p ≤ q by omega) l.length
  have bm := begun_math l 5 (show p ≤ q by omega) l.length
  rw [← bm] at HC
  have l5 := numsA_len l 5 p q l.length
  have lb : cntB (atE (entN l 5 l.length)) p ≤ l.length := by
    have h1 := cntB_le (atE (entN l 5 l.length)) p
    rw [atE_len] at h1
    exact Nat.le_trans h1 (entN_upto l 5 l.length).few
  clear hr hi hrf bm
  generalize aheadA l fl (clN p l.length) = A at *
  generalize aheadA l fl (clN q l.length) = A' at *
  generalize dueA l fl (clN p l.length) = D at *
  generalize dueA l fl (clN q l.length) = D' at *
  generalize cntB (atE (entN l 5 l.length)) p = nb at *
  generalize numsA l 5 p q l.length = L at *
  obtain ⟨a0, a1, a2⟩ := A
  obtain ⟨b0', b1', b2'⟩ := A'
  obtain ⟨c0, c1', c2⟩ := D
  obtain ⟨d0, d1, d2⟩ := D'
  unfold LeA at gm
  unfold ar3 at HC
  dsimp only at HC gm
  have HM := Lib.hid gm
  clear gm
  rw [show ((nb + L.length : Nat) : Int) = (nb : Int) + (L.length : Int) from rfl] at HC
  have hu : IntKind.i64.wrap ((nb : Int) + (L.length : Int)) = (nb : Int) + (L.length : Int) := by rw [IntKind.wrap_i64]; omega
  go_enter Try.func4, Try.ntmps4
  go_wp2_with fail
  refine c1.mono ?_
  rintro e w1 ⟨v, rfl, hv, b1⟩
  have S := TelS.mk (w := w) (p := p) (q := q) (B0.old b1) hv (tstep b0 b1 b0.size)
  have CE := Lib.hid fun x (hx : Old w1 x) => And.intro hu (S.step hx).bx.two
  have CC := Lib.hid fun x (hx : Old w1 x) => HC.out v x (S.step hx).mv
  have CB := Lib.hid fun x (hx : Old w1 x) => (S.step hx).bel
  clear c1 hv b1 b0 B0 S HC
  go_wp2_with fail
  (refine wp_region_textW (fun _ => .cells #[.int .i64 0, .int .i64 0, .int .i64 0] 33) 16 20 (by kernel_rfl) (by kernel_rfl) (by kernel_rfl) (by kernel_rfl) (fun i h1 h2 => by rcases (show i = 16 ∨ i = 17 ∨ i = 18 ∨ i = 19 by omega) with rfl | rfl | rfl | rfl; exact mk_cnt 16 8 _ rfl rfl rfl rfl; exact mk_cnt 17 9 _ rfl rfl rfl rfl; exact mk_cnt 18 10 _ rfl rfl rfl rfl; exact mk_cnt 19 11 _ rfl rfl rfl rfl) ?_; simp only [List.take_succ_cons, List.take_zero, List.drop_succ_cons, List.drop_zero])
  repeat (apply TextW.sees (hw := by kernel_rfl) (hk := by decide); (focus (intro x hx K hK; have hc := CE.out x hx; go_simp; exact hK)); simp only [Act.put, List.getElem_toArray, List.getElem_cons_succ, List.getElem_cons_zero, List.setIfInBounds_toArray, List.set_cons_zero, List.set_cons_succ])
  (refine TextW.call (fun x hx => (CC.out x hx).1) (by kernel_rfl) (fun _ => by kernel_rfl) (by decide) ?_; simp only [Act.put, List.getElem_toArray, List.getElem_cons_succ, List.getElem_cons_zero, List.setIfInBounds_toArray, List.set_cons_zero, List.set_cons_succ])
  repeat (apply TextW.sees (hw := by kernel_rfl) (hk := by decide); (focus (intro x hx K hK; have hc := CE.out x hx; go_simp; exact hK)); simp only [Act.put, List.getElem_toArray, List.getElem_cons_succ, List.getElem_cons_zero, List.setIfInBounds_toArray, List.set_cons_zero, List.set_cons_succ])
  (refine TextW.call (fun x hx => (CC.out x hx).2.1) (by kernel_rfl) (fun _ => by kernel_rfl) (by decide) ?_; simp only [Act.put, List.getElem_toArray, List.getElem_cons_succ, List.getElem_cons_zero, List.setIfInBounds_toArray, List.set_cons_zero, List.set_cons_succ])
  repeat (apply TextW.sees (hw := by kernel_rfl) (hk := by decide); (focus (intro x hx K hK; have hc := CE.out x hx; go_simp; exact hK)); simp only [Act.put, List.getElem_toArray, List.getElem_cons_succ, List.getElem_cons_zero, List.setIfInBounds_toArray, List.set_cons_zero, List.set_cons_succ])
  (refine TextW.call (fun x hx => (CC.out x hx).2.2.1) (by kernel_rfl) (fun _ => by kernel_rfl) (by decide) ?_; simp only [Act.put, List.getElem_toArray, List.getElem_cons_succ, List.getElem_cons_zero, List.setIfInBounds_toArray, List.set_cons_zero, List.set_cons_succ])
  repeat (apply TextW.sees (hw := by kernel_rfl) (hk := by decide); (focus (intro x hx K hK; have hc := CE.out x hx; go_simp; exact hK)); simp only [Act.put, List.getElem_toArray, List.getElem_cons_succ, List.getElem_cons_zero, List.setIfInBounds_toArray, List.set_cons_zero, List.set_cons_succ])
  (refine TextW.call (fun x hx => (CC.out x hx).2.2.2.1) (by kernel_rfl) (fun _ => by kernel_rfl) (by decide) ?_; simp only [Act.put, List.getElem_toArray, List.getElem_cons_succ, List.getElem_cons_zero, List.setIfInBounds_toArray, List.set_cons_zero, List.set_cons_succ])
  (refine TextW.make (by decide) fun g8 => ?_; simp only [Act.put, List.getElem_toArray, List.getElem_cons_succ, List.getElem_cons_zero, List.setIfInBounds_toArray, List.set_cons_zero, List.set_cons_succ])
  (refine TextW.make (by decide) fun g9 => ?_; simp only [Act.put, List.getElem_toArray, List.getElem_cons_succ, List.getElem_cons_zero, List.setIfInBounds_toArray, List.set_cons_zero, List.set_cons_succ])
  (refine TextW.make (by decide) fun g10 => ?_; simp only [Act.put, List.getElem_toArray, List.getElem_cons_succ, List.getElem_cons_zero, List.setIfInBounds_toArray, List.set_cons_zero, List.set_cons_succ])
  (refine TextW.make (by decide) fun g11 => ?_; simp only [Act.put, List.getElem_toArray, List.getElem_cons_succ, List.getElem_cons_zero, List.setIfInBounds_toArray, List.set_cons_zero, List.set_cons_succ])
  intro y hy listed hl hM
  have M8 := hM.one (i := 16) (g := g8) (by decide) (hl 16 (by decide)) rfl rfl rfl
  have M9 := hM.one (i := 17) (g := g9) (by decide) (hl 17 (by decide)) rfl rfl rfl
  have M10 := hM.one (i := 18) (g := g10) (by decide) (hl 18 (by decide)) rfl rfl rfl
  have M11 := hM.one (i := 19) (g := g11) (by decide) (hl 19 (by decide)) rfl rfl rfl
  have M89 := hM.two (i := 16) (j := 17) (g := g8) (g' := g9) (by decide) (by decide) (by decide) (hl 16 (by decide)) (hl 17 (by decide)) rfl rfl rfl rfl rfl rfl
  have M8t := hM.two (i := 16) (j := 18) (g := g8) (g' := g10) (by decide) (by decide) (by decide) (hl 16 (by decide)) (hl 18 (by decide)) rfl rfl rfl rfl rfl rfl
  have M8e := hM.two (i := 16) (j := 19) (g := g8) (g' := g11) (by decide) (by decide) (by decide) (hl 16 (by decide)) (hl 19 (by decide)) rfl rfl rfl rfl rfl rfl
  have M9t := hM.two (i := 17) (j := 18) (g := g9) (g' := g10) (by decide) (by decide) (by decide) (hl 17 (by decide)) (hl 18 (by decide)) rfl rfl rfl rfl rfl rfl
  have M9e := hM.two (i := 17) (j := 19) (g := g9) (g' := g11) (by decide) (by decide) (by decide) (hl 17 (by decide)) (hl 19 (by decide)) rfl rfl rfl rfl rfl rfl
  have Mte := hM.two (i := 18) (j := 19) (g := g10) (g' := g11) (by decide) (by decide) (by decide) (hl 18 (by decide)) (hl 19 (by decide)) rfl rfl rfl rfl rfl rfl
  clear hM hl
  obtain ⟨L8, H8⟩ := M8
  obtain ⟨L9, H9⟩ := M9
  obtain ⟨L10, H10⟩ := M10
  obtain ⟨L11, H11⟩ := M11
  have K8 : Blk y g8 #[.int .i64 0, .int .i64 0, .int .i64 0] 33 := H8
  have K9 : Blk y g9 #[.int .i64 0, .int .i64 0, .int .i64 0] 33 := H9
  have K10 : Blk y g10 #[.int .i64 0, .int .i64 0, .int .i64 0] 33 := H10
  have K11 : Blk y g11 #[.int .i64 0, .int .i64 0, .int .i64 0] 33 := H11
  clear H8 H9 H10 H11
  have N8 := (((K8.set3 (.int .i64 a0) (.int .i64 a1) (.int .i64 a2)).other3 M89 (.int .i64 b0') (.int .i64 b1') (.int .i64 b2')).other3 M8t (.int .i64 c0) (.int .i64 c1') (.int .i64 c2)).other3 M8e (.int .i64 d0) (.int .i64 d1) (.int .i64 d2)
  have N9 := (((K9.other3 (Ne.symm M89) (.int .i64 a0) (.int .i64 a1) (.int .i64 a2)).set3 (.int .i64 b0') (.int .i64 b1') (.int .i64 b2')).other3 M9t (.int .i64 c0) (.int .i64 c1') (.int .i64 c2)).other3 M9e (.int .i64 d0) (.int .i64 d1) (.int .i64 d2)
  have N10 := (((K10.other3 (Ne.symm M8t) (.int .i64 a0) (.int .i64 a1) (.int .i64 a2)).other3 (Ne.symm M9t) (.int .i64 b0') (.int .i64 b1') (.int .i64 b2')).set3 (.int .i64 c0) (.int .i64 c1') (.int .i64 c2)).other3 Mte (.int .i64 d0) (.int .i64 d1) (.int .i64 d2)
  have N11 := (((K11.other3 (Ne.symm M8e) (.int .i64 a0) (.int .i64 a1) (.int .i64 a2)).other3 (Ne.symm M9e) (.int .i64 b0') (.int .i64 b1') (.int .i64 b2')).other3 (Ne.symm Mte) (.int .i64 c0) (.int .i64 c1') (.int .i64 c2)).set3 (.int .i64 d0) (.int .i64 d1) (.int .i64 d2)
  have hV : Old w1 _ := Below.new3 (Below.new3 (Below.new3 (Below.new3 hy L8 (.int .i64 a0) (.int .i64 a1) (.int .i64 a2)) L9 (.int .i64 b0') (.int .i64 b1') (.int .i64 b2')) L10 (.int .i64 c0) (.int .i64 c1') (.int .i64 c2)) L11 (.int .i64 d0) (.int .i64 d1) (.int .i64 d2)
  obtain ⟨k80, k81, k82⟩ := K8.triple
  obtain ⟨k90, k91, k92⟩ := K9.triple
  obtain ⟨kt0, kt1, kt2⟩ := K10.triple
  obtain ⟨ke0, ke1, ke2⟩ := K11.triple
  obtain ⟨f80, f81, f82⟩ := K8.triple_free
  obtain ⟨f90, f91, f92⟩ := K9.triple_free
  obtain ⟨ft0, ft1, ft2⟩ := K10.triple_free
  obtain ⟨fe0, fe1, fe2⟩ := K11.triple_free
  have t8 := K8.lt
  have t9 := K9.lt
  have tt := K10.lt
  have te := K11.lt
  have M98 := Ne.symm M89
  have Mt8 := Ne.symm M8t
  have Me8 := Ne.symm M8e
  have Mt9 := Ne.symm M9t
  have Me9 := Ne.symm M9e
  have Met := Ne.symm Mte
  clear K8 K9 K10 K11
  go_upto_region 5 with (fail)
  clear k80 k81 k82 k90 k91 k92 kt0 kt1 kt2 ke0 ke1 ke2 f80 f81 f82 f90 f91 f92 ft0 ft1 ft2 fe0 fe1 fe2 t8 t9 tt te M98 Mt8 Me8 Mt9 Me9 Met M89 M8t M8e M9t M9e Mte L8 L9 L10 L11 hy
  generalize (((((((((((World.setCell y _ _).setCell _ _).setCell _ _).setCell _ _).setCell _ _).setCell _ _).setCell _ _).setCell _ _).setCell _ _).setCell _ _).setCell _ _).setCell _ _ = V at *
  have CG := Lib.hid fun x (hx : Old V x) => And.intro HM.out (And.intro (N8.old hx).triple (And.intro (N9.old hx).triple (And.intro (N10.old hx).triple (N11.old hx).triple)))
  have HV := Lib.hid hV
  clear HM N8 N9 N10 N11 hV
  go_wp2_with fail
  go_loopw [12] (fun i wr => Old V wr ∧ (i = .int .i64 0 ∨ i = .int .i64 1 ∨ i = .int .i64 2 ∨ i = .int .i64 3)) (fun i _ => 3 - (intOf i).toNat)
  case atStart => exact ⟨Below.refl _ _, .inl rfl⟩
  case round =>
    obtain ⟨hx, h⟩ := hrel
    have CX := Lib.hid fun x (hy : Old wr x) => CG.out x (hx.old hy)
    rcases h with rfl | rfl | rfl | rfl
    · clear CG CE CC CB
      go_wp2_with fail
      (refine wp_region_text (Old wr) 33 (by kernel_rfl) (by kernel_rfl) (Below.refl _ wr).drew ?_; simp only [List.take_succ_cons, List.take_zero, List.drop_succ_cons, List.drop_zero])
      repeat (first | (apply Text.sees (hw := by kernel_rfl); (focus (intro x hx K hK; have hc := (fun (x : World) (hx : Old wr x) => And.intro (nl3 (CX.out x hx).1.1) (And.intro (nl3 (CX.out x hx).1.2.1) (And.intro (nl3 (CX.out x hx).1.2.2.1) (And.intro (nl3 (CX.out x hx).1.2.2.2) (CX.out x hx).2)))) x hx; go_simp; exact hK)); simp only [Act.put, List.getElem_toArray, List.getElem_cons_succ, List.getElem_cons_zero, List.setIfInBounds_toArray, List.set_cons_zero, List.set_cons_succ]) | (apply Text.idle; (focus (intro x hx K hK; go_simp; exact hK)); simp only [Act.put, List.getElem_toArray, List.getElem_cons_succ, List.getElem_cons_zero, List.setIfInBounds_toArray, List.set_cons_zero, List.set_cons_succ]))
      intro x hy
      have hc := CX.out x hy
      go_wp2
      go_roundw
      case rel => exact ⟨hx.old hy, .inr (.inl rfl)⟩
      case measure => simp [intOf]
    · clear CG CE CC CB
      go_wp2_with fail
      (refine wp_region_text (Old wr) 33 (by kernel_rfl) (by kernel_rfl) (Below.refl _ wr).drew ?_; simp only [List.take_succ_cons, List.take_zero, List.drop_succ_cons, List.drop_zero])
      repeat (first | (apply Text.sees (hw := by kernel_rfl); (focus (intro x hx K hK; have hc := (fun (x : World) (hx : Old wr x) => And.intro (nl3 (CX.out x hx).1.1) (And.intro (nl3 (CX.out x hx).1.2.1) (And.intro (nl3 (CX.out x hx).1.2.2.1) (And.intro (nl3 (CX.out x hx).1.2.2.2) (CX.out x hx).2)))) x hx; go_simp; exact hK)); simp only [Act.put, List.getElem_toArray, List.getElem_cons_succ, List.getElem_cons_zero, List.setIfInBounds_toArray, List.set_cons_zero, List.set_cons_succ]) | (apply Text.idle; (focus (intro x hx K hK; go_simp; exact hK)); simp only [Act.put, List.getElem_toArray, List.getElem_cons_succ, List.getElem_cons_zero, List.setIfInBounds_toArray, List.set_cons_zero, List.set_cons_succ]))
      intro x hy
      have hc := CX.out x hy
      go_wp2
      go_roundw
      case rel => exact ⟨hx.old hy, .inr (.inr (.inl rfl))⟩
      case measure => simp [intOf]
    · clear CG CE CC CB
      go_wp2_with fail
      (refine wp_region_text (Old wr) 33 (by kernel_rfl) (by kernel_rfl) (Below.refl _ wr).drew ?_; simp only [List.take_succ_cons, List.take_zero, List.drop_succ_cons, List.drop_zero])
      repeat (first | (apply Text.sees (hw := by kernel_rfl); (focus (intro x hx K hK; have hc := (fun (x : World) (hx : Old wr x) => And.intro (nl3 (CX.out x hx).1.1) (And.intro (nl3 (CX.out x hx).1.2.1) (And.intro (nl3 (CX.out x hx).1.2.2.1) (And.intro (nl3 (CX.out x hx).1.2.2.2) (CX.out x hx).2)))) x hx; go_simp; exact hK)); simp only [Act.put, List.getElem_toArray, List.getElem_cons_succ, List.getElem_cons_zero, List.setIfInBounds_toArray, List.set_cons_zero, List.set_cons_succ]) | (apply Text.idle; (focus (intro x hx K hK; go_simp; exact hK)); simp only [Act.put, List.getElem_toArray, List.getElem_cons_succ, List.getElem_cons_zero, List.setIfInBounds_toArray, List.set_cons_zero, List.set_cons_succ]))
      intro x hy
      have hc := CX.out x hy
      go_wp2
      go_roundw
      case rel => exact ⟨hx.old hy, .inr (.inr (.inr rfl))⟩
      case measure => simp [intOf]
    · have hw : Old w1 wr := HV.out.old hx
      have CF := Lib.hid fun x (hy : Old wr x) => CE.out x (hw.old hy)
      clear CG CX CE
      go_wp2_with fail
      (refine wp_region_plan 20 [(0, true), (1, true), (2, true), (3, true), (4, true), (5, true), (6, true), (7, true), (8, true), (12, true), (13, true), (14, true), (9, false), (10, true), (11, true), (15, true), (16, true), (17, true), (18, true), (19, true)] (by kernel_rfl) (by kernel_rfl) ?_; simp only [pick, List.getElem?_cons_succ, List.getElem?_cons_zero, List.drop_succ_cons, List.drop_zero])
      repeat (first | (apply TextV.sees (hw := by kernel_rfl); (focus (intro x hx K hK; have hc := CF.out x hx; go_simp; exact hK)); simp only [Act.put, List.getElem_toArray, List.getElem_cons_succ, List.getElem_cons_zero, List.setIfInBounds_toArray, List.set_cons_zero, List.set_cons_succ]) | (apply TextV.idle; (focus (intro x hx K hK; go_simp; exact hK)); simp only [Act.put, List.getElem_toArray, List.getElem_cons_succ, List.getElem_cons_zero, List.setIfInBounds_toArray, List.set_cons_zero, List.set_cons_succ]))
      (refine TextV.call (fun x hy => (CC.out x (hw.old hy)).2.2.2.2.1) (by kernel_rfl) (fun _ => by kernel_rfl) ?_; simp only [Act.put, List.getElem_toArray, List.getElem_cons_succ, List.getElem_cons_zero, List.setIfInBounds_toArray, List.set_cons_zero, List.set_cons_succ])
      repeat (first | (apply TextV.sees (hw := by kernel_rfl); (focus (intro x hx K hK; have hc := CF.out x hx; go_simp; exact hK)); simp only [Act.put, List.getElem_toArray, List.getElem_cons_succ, List.getElem_cons_zero, List.setIfInBounds_toArray, List.set_cons_zero, List.set_cons_succ]) | (apply TextV.idle; (focus (intro x hx K hK; go_simp; exact hK)); simp only [Act.put, List.getElem_toArray, List.getElem_cons_succ, List.getElem_cons_zero, List.setIfInBounds_toArray, List.set_cons_zero, List.set_cons_succ]))
      (refine TextV.loud (V := fun u y => OwnN y w.heap.size u L) (fun x hy => (CC.out x (hw.old hy)).2.2.2.2.2.2.mono fun e y ⟨u, he, ho, hb⟩ => ⟨u, he, ho.mono (CB.out x (hw.old hy)).size, hb⟩) (by kernel_rfl) (fun _ => by kernel_rfl) (fun u2 y2 N2 hy2 => ?_); simp only [Act.put, List.getElem_toArray, List.getElem_cons_succ, List.getElem_cons_zero, List.setIfInBounds_toArray, List.set_cons_zero, List.set_cons_succ])
      obtain ⟨a6, c6, rfl, _, _, _⟩ := N2.row
      have CH := Lib.hid fun x (hy : Old y2 x) => CF.out x (hy2.old hy)
      clear N2 CF
      repeat (first | (apply TextV.sees (hw := by kernel_rfl); (focus (intro x hx K hK; have hc := CH.out x hx; go_simp; exact hK)); simp only [Act.put, List.getElem_toArray, List.getElem_cons_succ, List.getElem_cons_zero, List.setIfInBounds_toArray, List.set_cons_zero, List.set_cons_succ]) | (apply TextV.idle; (focus (intro x hx K hK; go_simp; exact hK)); simp only [Act.put, List.getElem_toArray, List.getElem_cons_succ, List.getElem_cons_zero, List.setIfInBounds_toArray, List.set_cons_zero, List.set_cons_succ]))
      (refine TextV.call (fun x hy => (CC.out x (hw.old (hy2.old hy))).2.2.2.2.2.1) (by kernel_rfl) (fun _ => by kernel_rfl) ?_; simp only [Act.put, List.getElem_toArray, List.getElem_cons_succ, List.getElem_cons_zero, List.setIfInBounds_toArray, List.set_cons_zero, List.set_cons_succ])
      repeat (first | (apply TextV.sees (hw := by kernel_rfl); (focus (intro x hx K hK; have hc := CH.out x hx; go_simp; exact hK)); simp only [Act.put, List.getElem_toArray, List.getElem_cons_succ, List.getElem_cons_zero, List.setIfInBounds_toArray, List.set_cons_zero, List.set_cons_succ]) | (apply TextV.idle; (focus (intro x hx K hK; go_simp; exact hK)); simp only [Act.put, List.getElem_toArray, List.getElem_cons_succ, List.getElem_cons_zero, List.setIfInBounds_toArray, List.set_cons_zero, List.set_cons_succ]))
      (refine TextV.call (fun x _ => cw.out x) (by kernel_rfl) (fun _ => by kernel_rfl) ?_; simp only [Act.put, List.getElem_toArray, List.getElem_cons_succ, List.getElem_cons_zero, List.setIfInBounds_toArray, List.set_cons_zero, List.set_cons_succ])
      repeat (first | (apply TextV.sees (hw := by kernel_rfl); (focus (intro x hx K hK; have hc := CH.out x hx; go_simp; exact hK)); simp only [Act.put, List.getElem_toArray, List.getElem_cons_succ, List.getElem_cons_zero, List.setIfInBounds_toArray, List.set_cons_zero, List.set_cons_succ]) | (apply TextV.idle; (focus (intro x hx K hK; go_simp; exact hK)); simp only [Act.put, List.getElem_toArray, List.getElem_cons_succ, List.getElem_cons_zero, List.setIfInBounds_toArray, List.set_cons_zero, List.set_cons_succ]))
      apply TextV.done
      intro x hz
      have hb := CB.out x (hw.old (hy2.old hz))
      clear CC CB CH
      go_wp2
      go_ret
      exact ⟨rfl, hb⟩
theorem anchorGrows_walk (a : Option Addr) (len cap : Nat) (af : Option Addr) (lf cf : Nat) (p : Int) (hp : (Lit.int .i64 p).wf = true) (q : Int) (hq : (Lit.int .i64 q).wf = true) (w : World) (h : IsFlat Try.prog [3, 38, 3, 38, 3, 38, 3] w a len cap) (hf : IsFlat Try.prog [3, 38, 3] w af lf cf) :
    Calls Try.prog 4 #[.slice a len cap, .slice af lf cf, .agg #[.int .i64 p, .int .i64 q]] w fun e w' => e = .returned (.bool true) ∧ Below w.heap.size w w' := by
  obtain ⟨L, rfl, h1, h2, h4, h3⟩ := h.itemsA
  obtain ⟨F, rfl, f1, f2, f3⟩ := hf.urow
  by_cases hg : 200 < L.length ∨ q < p
  · exact anchorGrows_out a _ cap af _ cf p q w hg (Nat.le_trans (Nat.le_trans h1 h2) (by decide))
  · exact anchorGrows_in a cap L af cf F p q w (by omega) (by omega) h3 h4 (Nat.le_trans (Nat.le_trans f1 f2) (by decide)) f3
end Go.Proofs.Ytniipfpfilenmaa
