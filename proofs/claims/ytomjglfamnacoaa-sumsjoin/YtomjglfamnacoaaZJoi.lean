/- The walk of SumsJoin. -/
import Derived.Test.YtomjglfamnacoaaZAw
import Derived.Test.YtomjglfamnacoaaDetX
namespace Go.Proofs.Ytomjglfamnacoaa
open Go.RowKit
set_option maxRecDepth 20000
set_option linter.unusedVariables false
set_option linter.unusedSimpArgs false

theorem natU_next (g : List T6) (k : Nat) : natU g (k + 1) = natU g k + (g.getD k zeroT).n := rfl
theorem mk_res9 {ops : Array Oper} (i d : Nat) (o : Oper) (ho : ops[i]? = some o) (hop : o.op = .alloc 44) (hd : o.dst = some d) (hg : o.guard = none) : Makes Try.prog ops i (.cells #[.int .i64 0, .int .i64 0, .int .i64 0, .int .i64 0, .int .i64 0, .int .i64 0, .bool false] 44) :=
  ⟨o, d, ho, hd, fun y => by simp [Region.wanted, hg], fun a w => by
    unfold execOp
    simp only [hop]
    simp [go_sem, newVar]⟩
theorem sumsJoin_out (a : Option Addr) (len cap : Nat) (x0 x1 x2 : Int) (w : World) (hg : 200 < len ∨ x1 < x0 ∨ x2 < x1) (hc : len ≤ 9223372036854775807) :
    Calls Try.prog 4 #[.slice a len cap, .agg #[.int .i64 x0, .int .i64 x1, .int .i64 x2]] w fun e w' => e = .returned (.bool true) ∧ Below w.heap.size w w' := by
  have c := awake19
  by_cases h0 : 200 < len
  · go_enter Try.func4, Try.ntmps4
    go_wp2_with fail
    refine (c _).mono ?_
    rintro e w1 ⟨rfl, b1⟩
    go_wp2
    go_ret
    exact ⟨rfl, tstep (tbel1 w _) b1 (tbel1 w _).size⟩
  · by_cases h1 : x1 < x0
    · go_enter Try.func4, Try.ntmps4
      go_wp2_with fail
      refine (c _).mono ?_
      rintro e w1 ⟨rfl, b1⟩
      go_wp2
      go_ret
      exact ⟨rfl, tstep (tbel1 w _) b1 (tbel1 w _).size⟩
    · have h2 : x2 < x1 := by omega
      go_enter Try.func4, Try.ntmps4
      go_wp2_with fail
      refine (c _).mono ?_
      rintro e w1 ⟨rfl, b1⟩
      go_wp2
      go_ret
      exact ⟨rfl, tstep (tbel1 w _) b1 (tbel1 w _).size⟩
theorem sumsJoin_unfair (a : Option Addr) (cap : Nat) (l : List I7) (x0 x1 x2 : Int) (w : World) (hn : l.length ≤ 200) (h1 : x0 ≤ x1) (h2 : x1 ≤ x2) (hr : Els 7 encI w a l.length fun k => l.getD k zeroI) (hM : fairM l = false) :
    Calls Try.prog 4 #[.slice a l.length cap, .agg #[.int .i64 x0, .int .i64 x1, .int .i64 x2]] w fun e w' => e = .returned (.bool true) ∧ Below w.heap.size w w' := by
  have c1 := fun x (hx : Below w.heap.size w x) => snew_any a cap l x (by omega) (hr.carry hx)
  rw [hM] at c1
  have cw := Lib.hid awake19
  clear hr
  go_enter Try.func4, Try.ntmps4
  go_wp2_with fail
  refine (c1 _ (tbel1 w _)).mono ?_
  rintro e w1 ⟨v, rfl, _, hv, b1⟩
  obtain rfl := hv trivial
  replace b1 := tstep (tbel1 w _) b1 (tbel1 w _).size
  clear c1
  go_wp2_with fail
  refine (cw.out _).mono ?_
  rintro e w3 ⟨rfl, b3⟩
  replace b3 := tstep b1 b3 b1.size
  go_wp2
  go_ret
  exact ⟨rfl, b3⟩
set_option maxHeartbeats 4000000 in
theorem sumsJoin_in (a : Option Addr) (cap : Nat) (l : List I7) (x0 x1 x2 : Int) (w : World) (hn : l.length ≤ 200) (h1 : x0 ≤ x1) (h2 : x1 ≤ x2) (hr : Els 7 encI w a l.length fun k => l.getD k zeroI) (hM : fairM l = true) :
    Calls Try.prog 4 #[.slice a l.length cap, .agg #[.int .i64 x0, .int .i64 x1, .int .i64 x2]] w fun e w' => e = .returned (.bool true) ∧ Below w.heap.size w w' := by
  have c1 := fun x (hx : Below w.heap.size w x) => snew_any a cap l x (by omega) (hr.carry hx)
  have hf : fairTo l l.length = true := by
    unfold fairM at hM
    exact (Bool.and_eq_true_iff.1 hM).1
  rw [hM] at c1
  have cw := Lib.hid awake19
  -- what the calls tell
  have HC := Lib.hid fun (v : Value) (x : World) (h : SumV x v l) => And.intro (sof_any v l x0 x1 x h (by omega) hf) (And.intro (sof_any v l x1 x2 x h (by omega) hf) (And.intro (sof_any v l x0 x2 x h (by omega) hf) (And.intro (sboxes_any v l x0 x1 x h (by omega) hf) (And.intro (sboxes_any v l x1 x2 x h (by omega) hf) (And.intro (sboxes_any v l x0 x2 x h (by omega) hf) (sglues_any v l x0 x2 x h (by omega)))))))
  have jT := rngM_join l h1 h2
  have jB := rngS_join (boxK l) l.length h1 h2
  have jN := box_glue_rng l x0 x2
  have bT := rngM_bd (l := l) (a := x0) (b := x2) hf
  have t0 := (rngM_bd (l := l) (a := x0) (b := x1) hf).inT (by omega)
  have t1 := (rngM_bd (l := l) (a := x1) (b := x2) hf).inT (by omega)
  have t2 := bT.inT (by omega)
  have cA := fun x => rAdd7_any (rngM l x0 x1) (rngM l x1 x2) x t0 t1
  rw [add_fits (by rw [jT]; exact t2), jT] at cA
  have hgl := gluR_len l x0 x2
  have hgb : ∀ k, k < (gluR l x0 x2).length → 0 ≤ ((gluR l x0 x2).getD k zeroT).n ∧ ((gluR l x0 x2).getD k zeroT).n ≤ 4294967296 := fun k hk => by
    obtain ⟨i, hi, e⟩ := gluR_in (l := l) (a := x0) (b := x2) (t := (gluR l x0 x2).getD k zeroT) (by rw [List.getD_eq_getElem?_getD, List.getElem?_eq_getElem hk]; exact List.getElem_mem hk)
    rw [e]
    exact (fairT_facts (fairTo_all.1 hf i hi)).1
  have bB : 0 ≤ rngS (boxK l) x0 x2 l.length ∧ rngS (boxK l) x0 x2 l.length ≤ 858993459200 := by
    have := selS_bd (f := boxK l) (M := 4294967296) (a := x0) (b := x2) (k := l.length) (by omega) fun i hi => boxK_bd (fairTo_all.1 hf i hi)
    rw [selS_rng] at this
    omega
  have bB1 : 0 ≤ rngS (boxK l) x0 x1 l.length ∧ rngS (boxK l) x0 x1 l.length ≤ 858993459200 := by
    have := selS_bd (f := boxK l) (M := 4294967296) (a := x0) (b := x1) (k := l.length) (by omega) fun i hi => boxK_bd (fairTo_all.1 hf i hi)
    rw [selS_rng] at this
    omega
  clear hr hf t0 t1 t2 bT jT hM
  have HG := Lib.hid hgb
  clear hgb
  generalize rngM l x0 x1 = u at *
  generalize rngM l x1 x2 = v at *
  generalize rngM l x0 x2 = r at *
  generalize rngS (boxK l) x0 x1 l.length = s1 at *
  generalize rngS (boxK l) x1 x2 l.length = s2 at *
  generalize rngS (boxK l) x0 x2 l.length = s at *
  generalize gluR l x0 x2 = g at *
  obtain ⟨r0, r1, r2, r3, r4, r5⟩ := r
  dsimp only at jN
  unfold tot at HC
  unfold tot res at cA
  dsimp only at HC cA
  have u1 : IntKind.i64.wrap (s1 + s2) = s := by rw [IntKind.wrap_i64]; omega
  have HN := Lib.hid jN
  have HB := Lib.hid jB
  clear jN jB
  go_enter Try.func4, Try.ntmps4
  go_wp2_with fail
  refine (c1 _ (tbel1 w _)).mono ?_
  rintro e w1 ⟨pv, rfl, hv, _, b1⟩
  have B3 := (blk_new w #[.int .i64 x0, .int .i64 x1, .int .i64 x2] 42).old b1
  have V1 := hv trivial
  obtain ⟨pp, _, _, _, rfl, _⟩ := V1
  have V1 : SumV w1 (.pointer (some ⟨pp, 0, none⟩)) l := .inr (hv trivial)
  replace b1 := tstep (tbel1 w _) b1 (tbel1 w _).size
  clear c1 hv
  go_wp2_with fail
  have CE := Lib.hid fun x (hx : Old w1 x) => And.intro ((B3.old hx).cell 0) (And.intro ((B3.old hx).cell 1) ((B3.old hx).cell 2))
  (refine wp_region_textW (fun _ => .cells #[.int .i64 0, .int .i64 0, .int .i64 0, .int .i64 0, .int .i64 0, .int .i64 0, .bool false] 44) 13 14 (by kernel_rfl) (by kernel_rfl) (by kernel_rfl) (by kernel_rfl) (fun i h1 h2 => by obtain rfl : i = 13 := (by omega); exact mk_res9 13 7 _ rfl rfl rfl rfl) ?_; simp only [List.take_succ_cons, List.take_zero, List.drop_succ_cons, List.drop_zero])
  repeat (apply TextW.sees (hw := by kernel_rfl) (hk := by decide); (focus (intro x hx K hK; have hc := CE.out x hx; go_simp; exact hK)); simp only [Act.put, List.getElem_toArray, List.getElem_cons_succ, List.getElem_cons_zero, List.setIfInBounds_toArray, List.set_cons_zero, List.set_cons_succ])
  (refine TextW.call (fun x hx => (HC.out _ x (V1.carry hx)).1) (by kernel_rfl) (fun _ => by kernel_rfl) (by decide) ?_; simp only [Act.put, List.getElem_toArray, List.getElem_cons_succ, List.getElem_cons_zero, List.setIfInBounds_toArray, List.set_cons_zero, List.set_cons_succ])
  repeat (apply TextW.sees (hw := by kernel_rfl) (hk := by decide); (focus (intro x hx K hK; have hc := CE.out x hx; go_simp; exact hK)); simp only [Act.put, List.getElem_toArray, List.getElem_cons_succ, List.getElem_cons_zero, List.setIfInBounds_toArray, List.set_cons_zero, List.set_cons_succ])
  (refine TextW.call (fun x hx => (HC.out _ x (V1.carry hx)).2.1) (by kernel_rfl) (fun _ => by kernel_rfl) (by decide) ?_; simp only [Act.put, List.getElem_toArray, List.getElem_cons_succ, List.getElem_cons_zero, List.setIfInBounds_toArray, List.set_cons_zero, List.set_cons_succ])
  repeat (apply TextW.sees (hw := by kernel_rfl) (hk := by decide); (focus (intro x hx K hK; have hc := CE.out x hx; go_simp; exact hK)); simp only [Act.put, List.getElem_toArray, List.getElem_cons_succ, List.getElem_cons_zero, List.setIfInBounds_toArray, List.set_cons_zero, List.set_cons_succ])
  (refine TextW.call (fun x _ => cA x) (by kernel_rfl) (fun _ => by kernel_rfl) (by decide) ?_; simp only [Act.put, List.getElem_toArray, List.getElem_cons_succ, List.getElem_cons_zero, List.setIfInBounds_toArray, List.set_cons_zero, List.set_cons_succ])
  (refine TextW.make (by decide) fun g7 => ?_; simp only [Act.put, List.getElem_toArray, List.getElem_cons_succ, List.getElem_cons_zero, List.setIfInBounds_toArray, List.set_cons_zero, List.set_cons_succ])
  intro y hy listed hl hMd
  have M7 := hMd.one (i := 13) (g := g7) (by decide) (hl 13 (by decide)) rfl rfl rfl
  clear hMd hl CE
  obtain ⟨L7, H7⟩ := M7
  have K7 : Blk y g7 #[.int .i64 0, .int .i64 0, .int .i64 0, .int .i64 0, .int .i64 0, .int .i64 0, .bool false] 44 := H7
  have N7 := K7.set7j (.int .i64 r0) (.int .i64 r1) (.int .i64 r2) (.int .i64 r3) (.int .i64 r4) (.int .i64 r5) (.bool true)
  have k7 := K7.seven
  have f7 := K7.seven_free
  have y1 := below_set7 (Below.trans b1 (hy.mono b1.size)) (show w.heap.size ≤ g7 by have := b1.size; omega) (.int .i64 r0) (.int .i64 r1) (.int .i64 r2) (.int .i64 r3) (.int .i64 r4) (.int .i64 r5) (.bool true)
  have y2 := below_set7 hy L7 (.int .i64 r0) (.int .i64 r1) (.int .i64 r2) (.int .i64 r3) (.int .i64 r4) (.int .i64 r5) (.bool true)
  have B3' := B3.old y2
  have V2 := V1.carry y2
  clear H7 K7 cA hy b1 B3 V1 y2
  unfold ptr
  go_upto_region 7 with (fail)
  clear k7 f7
  generalize (((((World.setCell y _ _).setCell _ _).setCell _ _).setCell _ _).setCell _ _).setCell _ _ = V0 at *
  generalize V0.setCell _ _ = V at *
  obtain ⟨q0, q1, q2⟩ : V.cell? ⟨w.heap.size, 0, none⟩ = some (.int .i64 x0) ∧ V.cell? ⟨w.heap.size, 1, none⟩ = some (.int .i64 x1) ∧ V.cell? ⟨w.heap.size, 2, none⟩ = some (.int .i64 x2) := ⟨B3'.cell 0, B3'.cell 1, B3'.cell 2⟩
  go_wp2_with fail
  refine (HC.out _ _ V2).2.2.2.2.2.1.mono ?_
  rintro e w2 ⟨rfl, b2⟩
  have V3 := V2.carry b2
  have B4 := B3'.old b2
  have N8 := N7.old b2
  replace b2 := tstep y1 b2 y1.size
  clear V2 B3' N7 y1 q0 q1 q2
  obtain ⟨q0, q1, q2⟩ : w2.cell? ⟨w.heap.size, 0, none⟩ = some (.int .i64 x0) ∧ w2.cell? ⟨w.heap.size, 1, none⟩ = some (.int .i64 x1) ∧ w2.cell? ⟨w.heap.size, 2, none⟩ = some (.int .i64 x2) := ⟨B4.cell 0, B4.cell 1, B4.cell 2⟩
  go_wp2_with fail
  refine (HC.out _ _ V3).2.2.2.2.2.2.mono ?_
  rintro e w3 ⟨gv, rfl, ⟨ga, gc, rfl, _, _, hE⟩, b3⟩
  have V4 := Lib.hid (V3.carry b3)
  have B5 := Lib.hid (B4.old b3)
  have N9 := Lib.hid (N8.old b3)
  replace b3 := tstep b2 b3 b2.size
  clear V3 B4 N8 b2 q0 q1 q2
  have HE := Lib.hid hE
  clear hE
  have hsum := Lib.hid (natU_all g)
  have hbd := Lib.hid fun k (hk : k ≤ g.length) => preS_bd (f := fun i => (g.getD i zeroT).n) (M := 4294967296) (k := k) fun i hi => HG.out i (by omega)
  go_wp2_with fail
  go_loopw [8, 10] (fun n i wr => ∃ k : Nat, k ≤ g.length ∧ i = .int .i64 k ∧ n = .int .i64 (s + natU g k) ∧ wr = w3) (fun _ i _ => g.length - (intOf i).toNat)
  case atStart => exact ⟨0, Nat.zero_le _, rfl, by simp [natU, preS], rfl⟩
  case round =>
    obtain ⟨k, hk, rfl, rfl, hwr⟩ := hrel
    subst hwr
    by_cases hlt : k < g.length
    · obtain ⟨b, off, rfl, hB, d0, _⟩ := HE.out.tot6 hlt
      have hn0 := hbd.out k hk
      have hn1 := HG.out k hlt
      change 0 ≤ natU g k ∧ natU g k ≤ _ at hn0
      obtain ⟨c, hc⟩ : ∃ c, c = (g.getD k zeroT).n := ⟨_, rfl⟩
      obtain ⟨m, hm⟩ : ∃ m, m = natU g k := ⟨_, rfl⟩
      have HE1 : Hid (natU g (k + 1) = m + c) := Lib.hid (by rw [hm, hc]; exact natU_next g k)
      rw [← hc] at hn1 d0
      rw [← hm] at hn0 ⊢
      clear hc hm
      go_wp2
      go_roundw
      case rel => exact ⟨k + 1, by omega, by go_num, by rw [HE1.out, Int.add_assoc], trivial⟩
      case measure => simp [intOf]; omega
    · obtain rfl : k = g.length := by omega
      rw [show s + natU g g.length = r0 by rw [hsum.out]; exact HN.out]
      have CE := Lib.hid fun x (hx : Old wr x) => And.intro u1 <| And.intro (And.intro ((B5.out.old hx).cell 0) (And.intro ((B5.out.old hx).cell 1) ((B5.out.old hx).cell 2))) (N9.out.old hx).seven
      clear hsum hbd HG HE HN HB
      go_wp2_with fail
      (refine wp_region_text (Old wr) 45 (by kernel_rfl) (by kernel_rfl) (Below.refl _ wr).drew ?_; simp only [List.take_succ_cons, List.take_zero, List.drop_succ_cons, List.drop_zero])
      iterate 10 (first | (apply Text.sees (hw := by kernel_rfl); (focus (intro x hx K hK; have hc := CE.out x hx; go_simp; exact hK)); simp only [Act.put, List.getElem_toArray, List.getElem_cons_succ, List.getElem_cons_zero, List.setIfInBounds_toArray, List.set_cons_zero, List.set_cons_succ]) | (apply Text.idle; (focus (intro x hx K hK; go_simp; exact hK)); simp only [Act.put, List.getElem_toArray, List.getElem_cons_succ, List.getElem_cons_zero, List.setIfInBounds_toArray, List.set_cons_zero, List.set_cons_succ]))
      (refine Text.call (Old.call fun x hx => (HC.out _ x (V4.out.carry hx)).2.2.1) (by kernel_rfl) (fun _ => by kernel_rfl) ?_; simp only [Act.put, List.getElem_toArray, List.getElem_cons_succ, List.getElem_cons_zero, List.setIfInBounds_toArray, List.set_cons_zero, List.set_cons_succ])
      (refine Text.val (fun x hx => eql_tot (.tmp 79) (.tmp 85) rfl rfl rfl x) (by kernel_rfl) ?_; simp only [Act.put, List.getElem_toArray, List.getElem_cons_succ, List.getElem_cons_zero, List.setIfInBounds_toArray, List.set_cons_zero, List.set_cons_succ])
      iterate 14 (first | (apply Text.sees (hw := by kernel_rfl); (focus (intro x hx K hK; have hc := CE.out x hx; go_simp; exact hK)); simp only [Act.put, List.getElem_toArray, List.getElem_cons_succ, List.getElem_cons_zero, List.setIfInBounds_toArray, List.set_cons_zero, List.set_cons_succ]) | (apply Text.idle; (focus (intro x hx K hK; go_simp; exact hK)); simp only [Act.put, List.getElem_toArray, List.getElem_cons_succ, List.getElem_cons_zero, List.setIfInBounds_toArray, List.set_cons_zero, List.set_cons_succ]))
      (refine Text.call (Old.call fun x hx => (HC.out _ x (V4.out.carry hx)).2.2.2.1) (by kernel_rfl) (fun _ => by kernel_rfl) ?_; simp only [Act.put, List.getElem_toArray, List.getElem_cons_succ, List.getElem_cons_zero, List.setIfInBounds_toArray, List.set_cons_zero, List.set_cons_succ])
      iterate 5 (first | (apply Text.sees (hw := by kernel_rfl); (focus (intro x hx K hK; have hc := CE.out x hx; go_simp; exact hK)); simp only [Act.put, List.getElem_toArray, List.getElem_cons_succ, List.getElem_cons_zero, List.setIfInBounds_toArray, List.set_cons_zero, List.set_cons_succ]) | (apply Text.idle; (focus (intro x hx K hK; go_simp; exact hK)); simp only [Act.put, List.getElem_toArray, List.getElem_cons_succ, List.getElem_cons_zero, List.setIfInBounds_toArray, List.set_cons_zero, List.set_cons_succ]))
      (refine Text.call (Old.call fun x hx => (HC.out _ x (V4.out.carry hx)).2.2.2.2.1) (by kernel_rfl) (fun _ => by kernel_rfl) ?_; simp only [Act.put, List.getElem_toArray, List.getElem_cons_succ, List.getElem_cons_zero, List.setIfInBounds_toArray, List.set_cons_zero, List.set_cons_succ])
      iterate 6 (first | (apply Text.sees (hw := by kernel_rfl); (focus (intro x hx K hK; have hc := CE.out x hx; go_simp; exact hK)); simp only [Act.put, List.getElem_toArray, List.getElem_cons_succ, List.getElem_cons_zero, List.setIfInBounds_toArray, List.set_cons_zero, List.set_cons_succ]) | (apply Text.idle; (focus (intro x hx K hK; go_simp; exact hK)); simp only [Act.put, List.getElem_toArray, List.getElem_cons_succ, List.getElem_cons_zero, List.setIfInBounds_toArray, List.set_cons_zero, List.set_cons_succ]))
      (refine Text.call (Old.call fun x hx => (HC.out _ x (V4.out.carry hx)).2.2.2.2.2.1) (by kernel_rfl) (fun _ => by kernel_rfl) ?_; simp only [Act.put, List.getElem_toArray, List.getElem_cons_succ, List.getElem_cons_zero, List.setIfInBounds_toArray, List.set_cons_zero, List.set_cons_succ])
      iterate 3 (first | (apply Text.sees (hw := by kernel_rfl); (focus (intro x hx K hK; have hc := CE.out x hx; go_simp; exact hK)); simp only [Act.put, List.getElem_toArray, List.getElem_cons_succ, List.getElem_cons_zero, List.setIfInBounds_toArray, List.set_cons_zero, List.set_cons_succ]) | (apply Text.idle; (focus (intro x hx K hK; go_simp; exact hK)); simp only [Act.put, List.getElem_toArray, List.getElem_cons_succ, List.getElem_cons_zero, List.setIfInBounds_toArray, List.set_cons_zero, List.set_cons_succ]))
      (refine Text.call (Old.call fun x hx => cw.out x) (by kernel_rfl) (fun _ => by kernel_rfl) ?_; simp only [Act.put, List.getElem_toArray, List.getElem_cons_succ, List.getElem_cons_zero, List.setIfInBounds_toArray, List.set_cons_zero, List.set_cons_succ])
      iterate 1 (first | (apply Text.sees (hw := by kernel_rfl); (focus (intro x hx K hK; have hc := CE.out x hx; go_simp; exact hK)); simp only [Act.put, List.getElem_toArray, List.getElem_cons_succ, List.getElem_cons_zero, List.setIfInBounds_toArray, List.set_cons_zero, List.set_cons_succ]) | (apply Text.idle; (focus (intro x hx K hK; go_simp; exact hK)); simp only [Act.put, List.getElem_toArray, List.getElem_cons_succ, List.getElem_cons_zero, List.setIfInBounds_toArray, List.set_cons_zero, List.set_cons_succ]))
      intro x hx
      have bz := tstep b3 hx b3.size
      clear CE HC V4 B5 N9 cw u1 hx
      go_wp2
      go_ret
      exact ⟨rfl, bz⟩
theorem sumsJoin_walk (a : Option Addr) (len cap : Nat) (x0 : Int) (h0 : (Lit.int .i64 x0).wf = true) (x1 : Int) (h1 : (Lit.int .i64 x1).wf = true) (x2 : Int) (h2 : (Lit.int .i64 x2).wf = true) (w : World) (h : IsFlat Try.prog [3, 28, 3, 28, 3, 28, 3] w a len cap) :
    Calls Try.prog 4 #[.slice a len cap, .agg #[.int .i64 x0, .int .i64 x1, .int .i64 x2]] w fun e w' => e = .returned (.bool true) ∧ Below w.heap.size w w' := by
  obtain ⟨L, rfl, g1, g2, _, g3⟩ := h.itemsA
  by_cases hg : 200 < L.length ∨ x1 < x0 ∨ x2 < x1
  · exact sumsJoin_out a _ cap x0 x1 x2 w hg (Nat.le_trans (Nat.le_trans g1 g2) (by decide))
  · cases hM : fairM L with
    | false => exact sumsJoin_unfair a cap L x0 x1 x2 w (by omega) (by omega) (by omega) g3 hM
    | true => exact sumsJoin_in a cap L x0 x1 x2 w (by omega) (by omega) (by omega) g3 hM
end Go.Proofs.Ytomjglfamnacoaa
