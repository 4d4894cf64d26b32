/- The walk of ParaPlain. -/
import Derived.Test.YtopifminodlpbaaPAw
import Derived.Test.YtopifminodlpbaaPRef
import Derived.Test.YtopifminodlpbaaIFlt
import Derived.LoopN
namespace Go.Proofs.Ytopifminodlpbaa
open Go.RowKit
set_option maxRecDepth 20000
set_option linter.unusedVariables false
set_option linter.unusedSimpArgs false

/-- Where no box has an F: a penalty that is not too great costs itself. -/
theorem plain_pen {c d : Int} {l : List I7} {b : Int} (h1 : clubV l b = false) (h2 : widowV l b = false) (hb : hasV l b = true) (hm : mayV l b = true) (hk : (atV l b).k = 3) : ofV c d l b = max (atV l b).n 0 := by
  unfold ofV inV
  rw [h1, h2, hb, hm]
  unfold penV
  rw [if_pos hk]
  by_cases hf : forcesI (atV l b) = true
  · rw [hf]
    unfold forcesI at hf
    simp only [Bool.and_eq_true, decide_eq_true_eq] at hf
    rw [if_neg (by decide)]
    omega
  · have : forcesI (atV l b) = false := by simpa using hf
    rw [this, if_pos (by decide), if_neg (by decide), if_neg (by decide)]
    omega
/-- All else costs nothing. -/
theorem plain_else {c d : Int} {l : List I7} {b : Int} (h1 : clubV l b = false) (h2 : widowV l b = false) (h : ¬ (hasV l b = true ∧ mayV l b = true ∧ (atV l b).k = 3)) : ofV c d l b = 0 := by
  unfold ofV
  by_cases hn : inV l b = true
  · rw [if_pos hn, h1, h2]
    unfold inV at hn
    simp only [Bool.and_eq_true] at hn
    unfold penV
    rw [if_neg fun e => h ⟨hn.1.1, hn.1.2, e⟩, if_neg (by decide), if_neg (by decide)]
    rfl
  · rw [if_neg hn]
theorem paraPlain_long (g : G19) (a : Option Addr) (len cap : Nat) (b : Int) (w : World) (h : 200 < len) (hm : len ≤ 9223372036854775807) :
    Calls Try.prog 4 #[.agg (geoC g), .slice a len cap, .int .i64 b] w fun e w' => e = .returned (.bool true) ∧ Below w.heap.size w w' := by
  have b0 := tbel1 w (.cells (geoC g) 24)
  go_enter Try.func4, Try.ntmps4
  go_upto_region 1 with (fail)
  generalize w.alloc _ = U at *
  go_wp2_with (go_at_call 6; refine (awake20 _).mono ?_; rintro e w1 ⟨rfl, b1⟩)
  go_ret
  exact ⟨rfl, tstep b0 b1 b0.size⟩
set_option maxHeartbeats 4000000 in
theorem paraPlain_in (g : G19) (a : Option Addr) (cap : Nat) (L : List I7) (b : Int) (w : World) (hl : L.length ≤ 200) (hr : Els 7 encI w a L.length fun k => L.getD k zeroI) :
    Calls Try.prog 4 #[.agg (geoC g), .slice a L.length cap, .int .i64 b] w fun e w' => e = .returned (.bool true) ∧ Below w.heap.size w w' := by
  have b0 := tbel1 w (.cells (geoC g) 24)
  have D := geo_new w g
  have E := hr.carry b0
  clear hr
  go_enter Try.func4, Try.ntmps4
  go_upto_region 1 with (fail)
  generalize w.alloc _ = U at *
  have HR := Lib.hid fun k (hk : k < L.length) => E.item hk
  have HA := Lib.hid awake20
  have CN := vnew_any a cap L U (by omega) E
  have HP := Lib.hid fun (h : ∀ m : Nat, m < L.length → (L.getD m zeroI).k = 1 → (L.getD m zeroI).f = 0) => plain_no h b
  have CW := Lib.hid fun (h1 : clubV L b = false) (h2 : widowV L b = false) (v : Value) (W : World) (V : VAt W v L) (o : Old U W) =>
    And.intro (pof_any g v L b W V (by omega) (fun h => by rw [h1] at h; cases h) (fun h => by rw [h2] at h; cases h)) (rmay18_any a cap L b W (by omega) (E.carry o))
  have HI := Lib.hid fun (W : World) (o : Old U W) k (hk : k < L.length) => (E.carry o).item hk
  have HQ := Lib.hid fun (h1 : clubV L b = false) (h2 : widowV L b = false) => And.intro (plain_pen (c := g.club) (d := g.widow) h1 h2) (plain_else (c := g.club) (d := g.widow) h1 h2)
  have HV := Lib.hid (hasV_iff' (l := L) (n := b))
  have HT := Lib.hid fun k (hk : k < L.length) => atV_in hk
  have HD := Lib.hid D
  have HB0 := Lib.hid b0
  clear E D b0
  unfold geo at CW
  generalize ofV g.club g.widow L b = r at *
  generalize clubV L b = cl at *
  generalize widowV L b = wi at *
  generalize hN : L.length = N at *
  have HN := Lib.hid hN
  clear hN
  go_wp2_with fail
  go_loopw [7] (fun i wr => ∃ k : Nat, i = .int .i64 k ∧ k ≤ N ∧ Hid (∀ m : Nat, m < k → (L.getD m zeroI).k = 1 → (L.getD m zeroI).f = 0) ∧ wr = U) (fun i _ => N - (intOf i).toNat)
  case atStart => exact ⟨0, rfl, by omega, Lib.hid fun m hm => absurd hm (Nat.not_lt_zero m), rfl⟩
  case round =>
    obtain ⟨k, rfl, hk, hp, rfl⟩ := hrel
    by_cases hlt : k < N
    · clear CN CW HD HP HI HQ HV HT
      obtain ⟨B', off, rfl, hB', d0, d1, d2, d3, d4, d5, d6⟩ := HR.out k hlt
      have HK : Hid (((L.getD k zeroI).k = 1 → (L.getD k zeroI).f = 0) → ∀ m : Nat, m < k + 1 → (L.getD m zeroI).k = 1 → (L.getD m zeroI).f = 0) := Lib.hid fun h m hm => by
        rcases Nat.eq_or_lt_of_le (Nat.le_of_lt_succ hm) with rfl | h2
        · exact h
        · exact hp.out m h2
      clear HR hp
      generalize L.getD k zeroI = x at *
      obtain ⟨x0, x1, x2, x3, x4, x5, x6⟩ := x
      dsimp only at d0 d1 d2 d3 d4 d5 d6
      clear d1 d3 d4 d5 d6
      by_cases h1 : x0 = 1
      · subst h1
        by_cases h2 : x2 = 0
        · subst h2
          replace HK := Lib.hid (HK.out fun _ => rfl)
          go_wp2
          go_roundw
          case rel => exact ⟨k + 1, by go_num, by omega, HK, by trivial⟩
          case measure => simp [intOf]; omega
        · have f2 : (x2 == 0) = false := by simpa using h2
          clear HK
          go_wp2_with fail
          refine (HA.out _).mono ?_
          rintro e w1 ⟨rfl, b1⟩
          go_wp2
          go_ret
          exact ⟨rfl, tstep HB0.out b1 HB0.out.size⟩
      · have f1 : (x0 == 1) = false := by simpa using h1
        replace HK := Lib.hid (HK.out fun h => absurd h h1)
        go_wp2
        go_roundw
        case rel => exact ⟨k + 1, by go_num, by omega, HK, by trivial⟩
        case measure => simp [intOf]; omega
    · have hkN : k = N := by omega
      subst hkN
      obtain ⟨hcl, hwi⟩ := HP.out hp.out
      subst hcl hwi
      replace CW := Lib.hid (CW.out rfl rfl)
      replace HQ := Lib.hid (HQ.out rfl rfl)
      clear HR HP hp hlt hk
      go_wp2_with fail
      refine CN.mono ?_
      rintro e W ⟨v, rfl, V, b1⟩
      have CX := Lib.hid fun y (hy : Old W y) => CW.out v y (V.carry hy) (tstep b1 hy b1.size)
      have CG := Lib.hid fun y (hy : Old W y) => GeoAt.old HD.out (tstep b1 hy b1.size)
      have CI := Lib.hid fun y (hy : Old W y) => HI.out y (tstep b1 hy b1.size)
      have b2 := Lib.hid (tstep HB0.out b1 HB0.out.size)
      clear CN CW HD HB0 b1 V HI
      by_cases h0 : 0 ≤ b
      · by_cases h1 : b < k
        · obtain ⟨j, rfl⟩ : ∃ j : Nat, b = j := ⟨b.toNat, by omega⟩
          have hj : j < k := by omega
          have hh := HV.out.2 ⟨h0, h1⟩
          replace CI := Lib.hid fun y (hy : Old W y) => CI.out y hy j hj
          have ht := HT.out j hj
          rw [ht] at HQ
          clear HV HT ht
          generalize L.getD j zeroI = x at *
          generalize hasV L j = hs at *
          subst hh
          generalize mayV L j = m at *
          obtain ⟨x0, x1, x2, x3, x4, x5, x6⟩ := x
          obtain ⟨B, off, rfl, _⟩ := CI.out W (Below.refl _ W)
          replace CI : Hid (∀ y, Old W y → B < y.heap.size ∧ y.cell? ⟨B, off + j * 7, none⟩ = some (.int .i64 x0) ∧ y.cell? ⟨B, off + j * 7 + 6, none⟩ = some (.int .i64 x6)) := Lib.hid fun y hy => by
            obtain ⟨B', off', e', q, d0, d1, d2, d3, d4, d5, d6⟩ := CI.out y hy
            cases e'
            exact ⟨q, d0, d6⟩
          by_cases k3 : x0 = 3
          · subst k3
            cases m
            · have hr0 : r = 0 := HQ.out.2 (fun h => by cases h.2.1)
              subst hr0
              clear HQ
              go_upto_region 9 with (fail)
              (refine wp_region_plain (Old W) 4 (Below.refl _ W) ?_; simp only [List.take_succ_cons, List.take_zero, List.drop_succ_cons, List.drop_zero])
              (refine Text.val (fun y hy => load_geo (.tmp 3) rfl rfl (CG.out y hy)) (by kernel_rfl) ?_; simp only [Act.put, List.getElem_toArray, List.getElem_cons_succ, List.getElem_cons_zero, List.setIfInBounds_toArray, List.set_cons_zero, List.set_cons_succ])
              iterate 2 (first | (apply Text.sees (hw := by kernel_rfl); (focus (intro x hx K hK; have hc := (fun (x : World) (hx : Old W x) => True.intro) x hx; go_simp; exact hK)); simp only [Act.put, List.getElem_toArray, List.getElem_cons_succ, List.getElem_cons_zero, List.setIfInBounds_toArray, List.set_cons_zero, List.set_cons_succ]) | (apply Text.idle; (focus (intro x hx K hK; go_simp; exact hK)); simp only [Act.put, List.getElem_toArray, List.getElem_cons_succ, List.getElem_cons_zero, List.setIfInBounds_toArray, List.set_cons_zero, List.set_cons_succ]))
              (refine Text.call (Old.call fun y hy => (CX.out y hy).1) (by kernel_rfl) (fun _ => by kernel_rfl) ?_; simp only [Act.put, List.getElem_toArray, List.getElem_cons_succ, List.getElem_cons_zero, List.setIfInBounds_toArray, List.set_cons_zero, List.set_cons_succ])
              intro y hy
              have cy := (CX.out y hy).2
              obtain ⟨hB', d0, d6⟩ := CI.out y hy
              go_wp2_with fail
              refine cy.mono ?_
              rintro e z ⟨rfl, bz⟩
              clear cy d0 d6 hB'
              have hz := tstep hy bz hy.size
              have cz := HA.out z
              go_wp2_with fail
              refine cz.mono ?_
              rintro e z1 ⟨rfl, b1⟩
              go_wp2
              go_ret
              exact ⟨rfl, tstep b2.out (tstep hz b1 hz.size) b2.out.size⟩
            · have hr0 : r = max x6 0 := HQ.out.1 rfl rfl rfl
              have er : (if 0 < x6 then x6 else 0) = r := by rw [hr0]; split <;> omega
              clear HQ hr0
              go_upto_region 9 with (fail)
              (refine wp_region_plain (Old W) 4 (Below.refl _ W) ?_; simp only [List.take_succ_cons, List.take_zero, List.drop_succ_cons, List.drop_zero])
              (refine Text.val (fun y hy => load_geo (.tmp 3) rfl rfl (CG.out y hy)) (by kernel_rfl) ?_; simp only [Act.put, List.getElem_toArray, List.getElem_cons_succ, List.getElem_cons_zero, List.setIfInBounds_toArray, List.set_cons_zero, List.set_cons_succ])
              iterate 2 (first | (apply Text.sees (hw := by kernel_rfl); (focus (intro x hx K hK; have hc := (fun (x : World) (hx : Old W x) => True.intro) x hx; go_simp; exact hK)); simp only [Act.put, List.getElem_toArray, List.getElem_cons_succ, List.getElem_cons_zero, List.setIfInBounds_toArray, List.set_cons_zero, List.set_cons_succ]) | (apply Text.idle; (focus (intro x hx K hK; go_simp; exact hK)); simp only [Act.put, List.getElem_toArray, List.getElem_cons_succ, List.getElem_cons_zero, List.setIfInBounds_toArray, List.set_cons_zero, List.set_cons_succ]))
              (refine Text.call (Old.call fun y hy => (CX.out y hy).1) (by kernel_rfl) (fun _ => by kernel_rfl) ?_; simp only [Act.put, List.getElem_toArray, List.getElem_cons_succ, List.getElem_cons_zero, List.setIfInBounds_toArray, List.set_cons_zero, List.set_cons_succ])
              intro y hy
              have cy := (CX.out y hy).2
              obtain ⟨hB', d0, d6⟩ := CI.out y hy
              go_wp2_with fail
              refine cy.mono ?_
              rintro e z ⟨rfl, bz⟩
              clear cy d0 d6 hB'
              have hz := tstep hy bz hy.size
              obtain ⟨hB', d0, d6⟩ := CI.out z hz
              have cz := HA.out z
              go_wp2_with fail
              refine cz.mono ?_
              rintro e z1 ⟨rfl, b1⟩
              go_wp2
              go_ret
              exact ⟨rfl, tstep b2.out (tstep hz b1 hz.size) b2.out.size⟩
          · have hr0 : r = 0 := HQ.out.2 (fun h => k3 h.2.2)
            subst hr0
            have f3 : (x0 == 3) = false := by simpa using k3
            clear HQ
            go_upto_region 9 with (fail)
            (refine wp_region_plain (Old W) 4 (Below.refl _ W) ?_; simp only [List.take_succ_cons, List.take_zero, List.drop_succ_cons, List.drop_zero])
            (refine Text.val (fun y hy => load_geo (.tmp 3) rfl rfl (CG.out y hy)) (by kernel_rfl) ?_; simp only [Act.put, List.getElem_toArray, List.getElem_cons_succ, List.getElem_cons_zero, List.setIfInBounds_toArray, List.set_cons_zero, List.set_cons_succ])
            iterate 2 (first | (apply Text.sees (hw := by kernel_rfl); (focus (intro x hx K hK; have hc := (fun (x : World) (hx : Old W x) => True.intro) x hx; go_simp; exact hK)); simp only [Act.put, List.getElem_toArray, List.getElem_cons_succ, List.getElem_cons_zero, List.setIfInBounds_toArray, List.set_cons_zero, List.set_cons_succ]) | (apply Text.idle; (focus (intro x hx K hK; go_simp; exact hK)); simp only [Act.put, List.getElem_toArray, List.getElem_cons_succ, List.getElem_cons_zero, List.setIfInBounds_toArray, List.set_cons_zero, List.set_cons_succ]))
            (refine Text.call (Old.call fun y hy => (CX.out y hy).1) (by kernel_rfl) (fun _ => by kernel_rfl) ?_; simp only [Act.put, List.getElem_toArray, List.getElem_cons_succ, List.getElem_cons_zero, List.setIfInBounds_toArray, List.set_cons_zero, List.set_cons_succ])
            intro y hy
            have hz := hy
            obtain ⟨hB', d0, d6⟩ := CI.out y hy
            have cz := HA.out y
            go_wp2_with fail
            refine cz.mono ?_
            rintro e z1 ⟨rfl, b1⟩
            go_wp2
            go_ret
            exact ⟨rfl, tstep b2.out (tstep hz b1 hz.size) b2.out.size⟩
        · have hr0 : r = 0 := HQ.out.2 (fun h => by have := HV.out.1 h.1; omega)
          subst hr0
          clear HQ HV HT CI
          go_upto_region 9 with (fail)
          (refine wp_region_plain (Old W) 4 (Below.refl _ W) ?_; simp only [List.take_succ_cons, List.take_zero, List.drop_succ_cons, List.drop_zero])
          (refine Text.val (fun y hy => load_geo (.tmp 3) rfl rfl (CG.out y hy)) (by kernel_rfl) ?_; simp only [Act.put, List.getElem_toArray, List.getElem_cons_succ, List.getElem_cons_zero, List.setIfInBounds_toArray, List.set_cons_zero, List.set_cons_succ])
          iterate 2 (first | (apply Text.sees (hw := by kernel_rfl); (focus (intro x hx K hK; have hc := (fun (x : World) (hx : Old W x) => True.intro) x hx; go_simp; exact hK)); simp only [Act.put, List.getElem_toArray, List.getElem_cons_succ, List.getElem_cons_zero, List.setIfInBounds_toArray, List.set_cons_zero, List.set_cons_succ]) | (apply Text.idle; (focus (intro x hx K hK; go_simp; exact hK)); simp only [Act.put, List.getElem_toArray, List.getElem_cons_succ, List.getElem_cons_zero, List.setIfInBounds_toArray, List.set_cons_zero, List.set_cons_succ]))
          (refine Text.call (Old.call fun y hy => (CX.out y hy).1) (by kernel_rfl) (fun _ => by kernel_rfl) ?_; simp only [Act.put, List.getElem_toArray, List.getElem_cons_succ, List.getElem_cons_zero, List.setIfInBounds_toArray, List.set_cons_zero, List.set_cons_succ])
          intro y hy
          have hz := hy
          have cz := HA.out y
          go_wp2_with fail
          refine cz.mono ?_
          rintro e z1 ⟨rfl, b1⟩
          go_wp2
          go_ret
          exact ⟨rfl, tstep b2.out (tstep hz b1 hz.size) b2.out.size⟩
      · have hr0 : r = 0 := HQ.out.2 (fun h => by have := HV.out.1 h.1; omega)
        subst hr0
        clear HQ HV HT CI
        go_upto_region 9 with (fail)
        (refine wp_region_plain (Old W) 4 (Below.refl _ W) ?_; simp only [List.take_succ_cons, List.take_zero, List.drop_succ_cons, List.drop_zero])
        (refine Text.val (fun y hy => load_geo (.tmp 3) rfl rfl (CG.out y hy)) (by kernel_rfl) ?_; simp only [Act.put, List.getElem_toArray, List.getElem_cons_succ, List.getElem_cons_zero, List.setIfInBounds_toArray, List.set_cons_zero, List.set_cons_succ])
        iterate 2 (first | (apply Text.sees (hw := by kernel_rfl); (focus (intro x hx K hK; have hc := (fun (x : World) (hx : Old W x) => True.intro) x hx; go_simp; exact hK)); simp only [Act.put, List.getElem_toArray, List.getElem_cons_succ, List.getElem_cons_zero, List.setIfInBounds_toArray, List.set_cons_zero, List.set_cons_succ]) | (apply Text.idle; (focus (intro x hx K hK; go_simp; exact hK)); simp only [Act.put, List.getElem_toArray, List.getElem_cons_succ, List.getElem_cons_zero, List.setIfInBounds_toArray, List.set_cons_zero, List.set_cons_succ]))
        (refine Text.call (Old.call fun y hy => (CX.out y hy).1) (by kernel_rfl) (fun _ => by kernel_rfl) ?_; simp only [Act.put, List.getElem_toArray, List.getElem_cons_succ, List.getElem_cons_zero, List.setIfInBounds_toArray, List.set_cons_zero, List.set_cons_succ])
        intro y hy
        have hz := hy
        have cz := HA.out y
        go_wp2_with fail
        refine cz.mono ?_
        rintro e z1 ⟨rfl, b1⟩
        go_wp2
        go_ret
        exact ⟨rfl, tstep b2.out (tstep hz b1 hz.size) b2.out.size⟩
theorem paraPlain_walk (a0 : Int) (h0 : (Lit.int .i64 a0).wf = true) (a1 : Int) (h1 : (Lit.int .i64 a1).wf = true) (a2 : Int) (h2 : (Lit.int .i64 a2).wf = true) (a3 : Int) (h3 : (Lit.int .i64 a3).wf = true) (a4 : Int) (h4 : (Lit.int .i64 a4).wf = true) (a5 : Int) (h5 : (Lit.int .i64 a5).wf = true) (a6 : Int) (h6 : (Lit.int .i64 a6).wf = true) (a7 : Int) (h7 : (Lit.int .i64 a7).wf = true) (a8 : Int) (h8 : (Lit.int .i64 a8).wf = true) (a9 : Int) (h9 : (Lit.int .i64 a9).wf = true) (a10 : Int) (h10 : (Lit.int .i64 a10).wf = true) (a11 : Int) (h11 : (Lit.int .i64 a11).wf = true) (a12 : Int) (h12 : (Lit.int .i64 a12).wf = true) (a13 : Int) (h13 : (Lit.int .i64 a13).wf = true) (a14 : Int) (h14 : (Lit.int .i64 a14).wf = true) (a15 : Int) (h15 : (Lit.int .i64 a15).wf = true) (a16 : Int) (h16 : (Lit.int .i64 a16).wf = true) (a17 : Int) (h17 : (Lit.int .i64 a17).wf = true) (a18 : Bool)
    (a : Option Addr) (len cap : Nat) (b : Int) (hb : (Lit.int .i64 b).wf = true) (w : World) (h : IsFlat Try.prog [3, 22, 3, 22, 3, 22, 3] w a len cap) :
    Calls Try.prog 4 #[.agg #[.int .i64 a0, .int .i64 a1, .int .i64 a2, .int .i64 a3, .int .i64 a4, .int .i64 a5, .int .i64 a6, .int .i64 a7, .int .i64 a8, .int .i64 a9, .int .i64 a10, .int .i64 a11, .int .i64 a12, .int .i64 a13, .int .i64 a14, .int .i64 a15, .int .i64 a16, .int .i64 a17, .bool a18], .slice a len cap, .int .i64 b] w fun e w' => e = .returned (.bool true) ∧ Below w.heap.size w w' := by
  obtain ⟨L, rfl, k1, k2, _, k3⟩ := h.itemsA
  by_cases hl : 200 < L.length
  · exact paraPlain_long ⟨a0, a1, a2, a3, a4, a5, a6, a7, a8, a9, a10, a11, a12, a13, a14, a15, a16, a17, a18⟩ a _ cap b w hl (Nat.le_trans (Nat.le_trans k1 k2) (by decide))
  · exact paraPlain_in ⟨a0, a1, a2, a3, a4, a5, a6, a7, a8, a9, a10, a11, a12, a13, a14, a15, a16, a17, a18⟩ a cap L b w (by omega) k3
end Go.Proofs.Ytopifminodlpbaa
