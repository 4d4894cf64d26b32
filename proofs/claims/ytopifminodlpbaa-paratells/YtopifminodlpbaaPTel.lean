/- The walk of ParaTells. -/
import Derived.Test.YtopifminodlpbaaPAw
import Derived.Test.YtopifminodlpbaaPRof
import Derived.Test.YtopifminodlpbaaIFlt
import Derived.LoopN
namespace Go.Proofs.Ytopifminodlpbaa
open Go.RowKit
set_option maxRecDepth 20000
set_option linter.unusedVariables false
set_option linter.unusedSimpArgs false

theorem paraTells_long (g : G19) (a : Option Addr) (len cap : Nat) (b : Int) (w : World) (h : 200 < len) (hm : len ≤ 9223372036854775807) :
    Calls Try.prog 3 #[.agg (geoC g), .slice a len cap, .int .i64 b] w fun e w' => e = .returned (.bool true) ∧ Below w.heap.size w w' := by
  have b0 := tbel1 w (.cells (geoC g) 24)
  go_enter Try.func3, Try.ntmps3
  go_upto_region 1 with (fail)
  generalize w.alloc _ = U at *
  go_wp2_with (go_at_call 6; refine (awake20 _).mono ?_; rintro e w1 ⟨rfl, b1⟩)
  go_ret
  exact ⟨rfl, tstep b0 b1 b0.size⟩
set_option maxHeartbeats 4000000 in
theorem paraTells_in (g : G19) (a : Option Addr) (cap : Nat) (L : List I7) (b : Int) (w : World) (hl : L.length ≤ 200) (hr : Els 7 encI w a L.length fun k => L.getD k zeroI) :
    Calls Try.prog 3 #[.agg (geoC g), .slice a L.length cap, .int .i64 b] w fun e w' => e = .returned (.bool true) ∧ Below w.heap.size w w' := by
  have b0 := tbel1 w (.cells (geoC g) 24)
  have D := geo_new w g
  have E := hr.carry b0
  clear hr
  go_enter Try.func3, Try.ntmps3
  go_upto_region 1 with (fail)
  generalize w.alloc _ = U at *
  have HR := Lib.hid fun k (hk : k < L.length) => E.item hk
  have HA := Lib.hid awake20
  have q13 := Blk.cell D 13
  have q14 := Blk.cell D 14
  have hB := Blk.lt D
  have e13 : (geoC g)[13]? = some (.int .i64 g.club) := rfl
  have e14 : (geoC g)[14]? = some (.int .i64 g.widow) := rfl
  rw [e13] at q13
  rw [e14] at q14
  have CN := vnew_any a cap L U (by omega) E
  have CW := Lib.hid fun (hc : g.club ≤ 1099511627776) (hd : g.widow ≤ 1099511627776) (v : Value) (W : World) (V : VAt W v L) (o : Old U W) =>
    And.intro (pof_any g v L b W V (by omega) (fun _ => hc) (fun _ => hd)) (And.intro (rof_any g a cap L b W (by omega) (E.carry o) (fun _ => hc) (fun _ => hd))
    (And.intro (pahead_any v L b W V (by omega)) (And.intro (rahead_any a cap L b W (by omega) (E.carry o))
    (And.intro (pbehind_any v L b W V (by omega)) (And.intro (rbehind_any a cap L b W (by omega) (E.carry o))
    (And.intro (pclub_any v L b W V (by omega)) (And.intro (rclub_any a cap L b W (by omega) (E.carry o))
    (And.intro (pwidow_any v L b W V (by omega)) (rwidow_any a cap L b W (by omega) (E.carry o))))))))))
  have HD := Lib.hid D
  have HB0 := Lib.hid b0
  clear E D e13 e14 b0
  unfold geo at CW
  generalize ofV g.club g.widow L b = r1 at *
  generalize aheadV L b = r2 at *
  generalize behindV L b = r3 at *
  generalize clubV L b = r4 at *
  generalize widowV L b = r5 at *
  generalize hN : L.length = N at *
  have HN := Lib.hid hN
  clear hN
  generalize hGC : g.club = gc at *
  generalize hGD : g.widow = gd at *
  have HG := Lib.hid (And.intro hGC hGD)
  clear hGC hGD
  go_wp2_with fail
  go_loopw [7] (fun i wr => ∃ k : Nat, i = .int .i64 k ∧ k ≤ N ∧ wr = U) (fun i _ => N - (intOf i).toNat)
  case atStart => exact ⟨0, rfl, by omega, rfl⟩
  case round =>
    obtain ⟨k, rfl, hk, rfl⟩ := hrel
    by_cases hlt : k < N
    · clear CN CW q13 q14 hB HD HG
      obtain ⟨B', off, rfl, hB', d0, d1, d2, d3, d4, d5, d6⟩ := HR.out k hlt
      clear HR
      generalize L.getD k zeroI = x at *
      obtain ⟨x0, x1, x2, x3, x4, x5, x6⟩ := x
      dsimp only at *
      clear d0 d1 d2 d3 d4 d5
      by_cases h6 : 1099511627776 < x6
      · go_wp2_with fail
        refine (HA.out _).mono ?_
        rintro e w1 ⟨rfl, b1⟩
        go_wp2
        go_ret
        exact ⟨rfl, tstep HB0.out b1 HB0.out.size⟩
      · go_wp2
        go_roundw
        case rel => exact ⟨k + 1, by go_num, by omega, by trivial⟩
        case measure => simp [intOf]; omega
    · clear HR
      by_cases hc : 1099511627776 < gc
      · clear CN CW HD HG
        go_wp2_with fail
        refine (HA.out _).mono ?_
        rintro e w1 ⟨rfl, b1⟩
        go_wp2
        go_ret
        exact ⟨rfl, tstep HB0.out b1 HB0.out.size⟩
      · by_cases hd : 1099511627776 < gd
        · clear CN CW HD HG
          go_wp2_with fail
          refine (HA.out _).mono ?_
          rintro e w1 ⟨rfl, b1⟩
          go_wp2
          go_ret
          exact ⟨rfl, tstep HB0.out b1 HB0.out.size⟩
        · replace CW := Lib.hid (CW.out (by omega) (by omega))
          go_wp2_with fail
          refine CN.mono ?_
          rintro e W ⟨v, rfl, V, b1⟩
          have CX := Lib.hid fun y (hy : Old W y) => CW.out v y (V.carry hy) (tstep b1 hy b1.size)
          have CG := Lib.hid fun y (hy : Old W y) => GeoAt.old HD.out (tstep b1 hy b1.size)
          have CA := Lib.hid fun y (hy : Old W y) => HA.out y
          have b2 := Lib.hid (tstep HB0.out b1 HB0.out.size)
          clear CN CW HD HG HB0 b1 V q13 q14 hB HA hk hlt hc hd HN
          go_upto_region 11 with (fail)
          (refine wp_region_text (Old W) 48 (by kernel_rfl) (by kernel_rfl) (Below.refl _ W).drew ?_; simp only [List.take_succ_cons, List.take_zero, List.drop_succ_cons, List.drop_zero])
          (refine Text.val (fun y hy => load_geo (.tmp 3) rfl rfl (CG.out y hy)) (by kernel_rfl) ?_; simp only [Act.put, List.getElem_toArray, List.getElem_cons_succ, List.getElem_cons_zero, List.setIfInBounds_toArray, List.set_cons_zero, List.set_cons_succ])
          iterate 2 (first | (apply Text.sees (hw := by kernel_rfl); (focus (intro x hx K hK; have hc := (fun (x : World) (hx : Old W x) => True.intro) x hx; go_simp; exact hK)); simp only [Act.put, List.getElem_toArray, List.getElem_cons_succ, List.getElem_cons_zero, List.setIfInBounds_toArray, List.set_cons_zero, List.set_cons_succ]) | (apply Text.idle; (focus (intro x hx K hK; go_simp; exact hK)); simp only [Act.put, List.getElem_toArray, List.getElem_cons_succ, List.getElem_cons_zero, List.setIfInBounds_toArray, List.set_cons_zero, List.set_cons_succ]))
          (refine Text.call (Old.call fun y hy => (CX.out y hy).1) (by kernel_rfl) (fun _ => by kernel_rfl) ?_; simp only [Act.put, List.getElem_toArray, List.getElem_cons_succ, List.getElem_cons_zero, List.setIfInBounds_toArray, List.set_cons_zero, List.set_cons_succ])
          (refine Text.val (fun y hy => load_geo (.tmp 3) rfl rfl (CG.out y hy)) (by kernel_rfl) ?_; simp only [Act.put, List.getElem_toArray, List.getElem_cons_succ, List.getElem_cons_zero, List.setIfInBounds_toArray, List.set_cons_zero, List.set_cons_succ])
          iterate 2 (first | (apply Text.sees (hw := by kernel_rfl); (focus (intro x hx K hK; have hc := (fun (x : World) (hx : Old W x) => True.intro) x hx; go_simp; exact hK)); simp only [Act.put, List.getElem_toArray, List.getElem_cons_succ, List.getElem_cons_zero, List.setIfInBounds_toArray, List.set_cons_zero, List.set_cons_succ]) | (apply Text.idle; (focus (intro x hx K hK; go_simp; exact hK)); simp only [Act.put, List.getElem_toArray, List.getElem_cons_succ, List.getElem_cons_zero, List.setIfInBounds_toArray, List.set_cons_zero, List.set_cons_succ]))
          (refine Text.call (Old.call fun y hy => (CX.out y hy).2.1) (by kernel_rfl) (fun _ => by kernel_rfl) ?_; simp only [Act.put, List.getElem_toArray, List.getElem_cons_succ, List.getElem_cons_zero, List.setIfInBounds_toArray, List.set_cons_zero, List.set_cons_succ])
          iterate 4 (first | (apply Text.sees (hw := by kernel_rfl); (focus (intro x hx K hK; have hc := (fun (x : World) (hx : Old W x) => True.intro) x hx; go_simp; exact hK)); simp only [Act.put, List.getElem_toArray, List.getElem_cons_succ, List.getElem_cons_zero, List.setIfInBounds_toArray, List.set_cons_zero, List.set_cons_succ]) | (apply Text.idle; (focus (intro x hx K hK; go_simp; exact hK)); simp only [Act.put, List.getElem_toArray, List.getElem_cons_succ, List.getElem_cons_zero, List.setIfInBounds_toArray, List.set_cons_zero, List.set_cons_succ]))
          (refine Text.call (Old.call fun y hy => (CX.out y hy).2.2.1) (by kernel_rfl) (fun _ => by kernel_rfl) ?_; simp only [Act.put, List.getElem_toArray, List.getElem_cons_succ, List.getElem_cons_zero, List.setIfInBounds_toArray, List.set_cons_zero, List.set_cons_succ])
          iterate 2 (first | (apply Text.sees (hw := by kernel_rfl); (focus (intro x hx K hK; have hc := (fun (x : World) (hx : Old W x) => True.intro) x hx; go_simp; exact hK)); simp only [Act.put, List.getElem_toArray, List.getElem_cons_succ, List.getElem_cons_zero, List.setIfInBounds_toArray, List.set_cons_zero, List.set_cons_succ]) | (apply Text.idle; (focus (intro x hx K hK; go_simp; exact hK)); simp only [Act.put, List.getElem_toArray, List.getElem_cons_succ, List.getElem_cons_zero, List.setIfInBounds_toArray, List.set_cons_zero, List.set_cons_succ]))
          (refine Text.call (Old.call fun y hy => (CX.out y hy).2.2.2.1) (by kernel_rfl) (fun _ => by kernel_rfl) ?_; simp only [Act.put, List.getElem_toArray, List.getElem_cons_succ, List.getElem_cons_zero, List.setIfInBounds_toArray, List.set_cons_zero, List.set_cons_succ])
          iterate 5 (first | (apply Text.sees (hw := by kernel_rfl); (focus (intro x hx K hK; have hc := (fun (x : World) (hx : Old W x) => True.intro) x hx; go_simp; exact hK)); simp only [Act.put, List.getElem_toArray, List.getElem_cons_succ, List.getElem_cons_zero, List.setIfInBounds_toArray, List.set_cons_zero, List.set_cons_succ]) | (apply Text.idle; (focus (intro x hx K hK; go_simp; exact hK)); simp only [Act.put, List.getElem_toArray, List.getElem_cons_succ, List.getElem_cons_zero, List.setIfInBounds_toArray, List.set_cons_zero, List.set_cons_succ]))
          (refine Text.call (Old.call fun y hy => (CX.out y hy).2.2.2.2.1) (by kernel_rfl) (fun _ => by kernel_rfl) ?_; simp only [Act.put, List.getElem_toArray, List.getElem_cons_succ, List.getElem_cons_zero, List.setIfInBounds_toArray, List.set_cons_zero, List.set_cons_succ])
          iterate 2 (first | (apply Text.sees (hw := by kernel_rfl); (focus (intro x hx K hK; have hc := (fun (x : World) (hx : Old W x) => True.intro) x hx; go_simp; exact hK)); simp only [Act.put, List.getElem_toArray, List.getElem_cons_succ, List.getElem_cons_zero, List.setIfInBounds_toArray, List.set_cons_zero, List.set_cons_succ]) | (apply Text.idle; (focus (intro x hx K hK; go_simp; exact hK)); simp only [Act.put, List.getElem_toArray, List.getElem_cons_succ, List.getElem_cons_zero, List.setIfInBounds_toArray, List.set_cons_zero, List.set_cons_succ]))
          (refine Text.call (Old.call fun y hy => (CX.out y hy).2.2.2.2.2.1) (by kernel_rfl) (fun _ => by kernel_rfl) ?_; simp only [Act.put, List.getElem_toArray, List.getElem_cons_succ, List.getElem_cons_zero, List.setIfInBounds_toArray, List.set_cons_zero, List.set_cons_succ])
          iterate 5 (first | (apply Text.sees (hw := by kernel_rfl); (focus (intro x hx K hK; have hc := (fun (x : World) (hx : Old W x) => True.intro) x hx; go_simp; exact hK)); simp only [Act.put, List.getElem_toArray, List.getElem_cons_succ, List.getElem_cons_zero, List.setIfInBounds_toArray, List.set_cons_zero, List.set_cons_succ]) | (apply Text.idle; (focus (intro x hx K hK; go_simp; exact hK)); simp only [Act.put, List.getElem_toArray, List.getElem_cons_succ, List.getElem_cons_zero, List.setIfInBounds_toArray, List.set_cons_zero, List.set_cons_succ]))
          (refine Text.call (Old.call fun y hy => (CX.out y hy).2.2.2.2.2.2.1) (by kernel_rfl) (fun _ => by kernel_rfl) ?_; simp only [Act.put, List.getElem_toArray, List.getElem_cons_succ, List.getElem_cons_zero, List.setIfInBounds_toArray, List.set_cons_zero, List.set_cons_succ])
          iterate 2 (first | (apply Text.sees (hw := by kernel_rfl); (focus (intro x hx K hK; have hc := (fun (x : World) (hx : Old W x) => True.intro) x hx; go_simp; exact hK)); simp only [Act.put, List.getElem_toArray, List.getElem_cons_succ, List.getElem_cons_zero, List.setIfInBounds_toArray, List.set_cons_zero, List.set_cons_succ]) | (apply Text.idle; (focus (intro x hx K hK; go_simp; exact hK)); simp only [Act.put, List.getElem_toArray, List.getElem_cons_succ, List.getElem_cons_zero, List.setIfInBounds_toArray, List.set_cons_zero, List.set_cons_succ]))
          (refine Text.call (Old.call fun y hy => (CX.out y hy).2.2.2.2.2.2.2.1) (by kernel_rfl) (fun _ => by kernel_rfl) ?_; simp only [Act.put, List.getElem_toArray, List.getElem_cons_succ, List.getElem_cons_zero, List.setIfInBounds_toArray, List.set_cons_zero, List.set_cons_succ])
          iterate 5 (first | (apply Text.sees (hw := by kernel_rfl); (focus (intro x hx K hK; have hc := (fun (x : World) (hx : Old W x) => True.intro) x hx; go_simp; exact hK)); simp only [Act.put, List.getElem_toArray, List.getElem_cons_succ, List.getElem_cons_zero, List.setIfInBounds_toArray, List.set_cons_zero, List.set_cons_succ]) | (apply Text.idle; (focus (intro x hx K hK; go_simp; exact hK)); simp only [Act.put, List.getElem_toArray, List.getElem_cons_succ, List.getElem_cons_zero, List.setIfInBounds_toArray, List.set_cons_zero, List.set_cons_succ]))
          (refine Text.call (Old.call fun y hy => (CX.out y hy).2.2.2.2.2.2.2.2.1) (by kernel_rfl) (fun _ => by kernel_rfl) ?_; simp only [Act.put, List.getElem_toArray, List.getElem_cons_succ, List.getElem_cons_zero, List.setIfInBounds_toArray, List.set_cons_zero, List.set_cons_succ])
          iterate 2 (first | (apply Text.sees (hw := by kernel_rfl); (focus (intro x hx K hK; have hc := (fun (x : World) (hx : Old W x) => True.intro) x hx; go_simp; exact hK)); simp only [Act.put, List.getElem_toArray, List.getElem_cons_succ, List.getElem_cons_zero, List.setIfInBounds_toArray, List.set_cons_zero, List.set_cons_succ]) | (apply Text.idle; (focus (intro x hx K hK; go_simp; exact hK)); simp only [Act.put, List.getElem_toArray, List.getElem_cons_succ, List.getElem_cons_zero, List.setIfInBounds_toArray, List.set_cons_zero, List.set_cons_succ]))
          (refine Text.call (Old.call fun y hy => (CX.out y hy).2.2.2.2.2.2.2.2.2) (by kernel_rfl) (fun _ => by kernel_rfl) ?_; simp only [Act.put, List.getElem_toArray, List.getElem_cons_succ, List.getElem_cons_zero, List.setIfInBounds_toArray, List.set_cons_zero, List.set_cons_succ])
          iterate 3 (first | (apply Text.sees (hw := by kernel_rfl); (focus (intro x hx K hK; have hc := (fun (x : World) (hx : Old W x) => True.intro) x hx; go_simp; exact hK)); simp only [Act.put, List.getElem_toArray, List.getElem_cons_succ, List.getElem_cons_zero, List.setIfInBounds_toArray, List.set_cons_zero, List.set_cons_succ]) | (apply Text.idle; (focus (intro x hx K hK; go_simp; exact hK)); simp only [Act.put, List.getElem_toArray, List.getElem_cons_succ, List.getElem_cons_zero, List.setIfInBounds_toArray, List.set_cons_zero, List.set_cons_succ]))
          (refine Text.call (Old.call fun y hy => CA.out y hy) (by kernel_rfl) (fun _ => by kernel_rfl) ?_; simp only [Act.put, List.getElem_toArray, List.getElem_cons_succ, List.getElem_cons_zero, List.setIfInBounds_toArray, List.set_cons_zero, List.set_cons_succ])
          iterate 1 (first | (apply Text.sees (hw := by kernel_rfl); (focus (intro x hx K hK; have hc := (fun (x : World) (hx : Old W x) => True.intro) x hx; go_simp; exact hK)); simp only [Act.put, List.getElem_toArray, List.getElem_cons_succ, List.getElem_cons_zero, List.setIfInBounds_toArray, List.set_cons_zero, List.set_cons_succ]) | (apply Text.idle; (focus (intro x hx K hK; go_simp; exact hK)); simp only [Act.put, List.getElem_toArray, List.getElem_cons_succ, List.getElem_cons_zero, List.setIfInBounds_toArray, List.set_cons_zero, List.set_cons_succ]))
          intro x1 hx1
          go_wp2
          go_ret
          exact ⟨rfl, tstep b2.out hx1 b2.out.size⟩
theorem paraTells_walk (a0 : Int) (h0 : (Lit.int .i64 a0).wf = true) (a1 : Int) (h1 : (Lit.int .i64 a1).wf = true) (a2 : Int) (h2 : (Lit.int .i64 a2).wf = true) (a3 : Int) (h3 : (Lit.int .i64 a3).wf = true) (a4 : Int) (h4 : (Lit.int .i64 a4).wf = true) (a5 : Int) (h5 : (Lit.int .i64 a5).wf = true) (a6 : Int) (h6 : (Lit.int .i64 a6).wf = true) (a7 : Int) (h7 : (Lit.int .i64 a7).wf = true) (a8 : Int) (h8 : (Lit.int .i64 a8).wf = true) (a9 : Int) (h9 : (Lit.int .i64 a9).wf = true) (a10 : Int) (h10 : (Lit.int .i64 a10).wf = true) (a11 : Int) (h11 : (Lit.int .i64 a11).wf = true) (a12 : Int) (h12 : (Lit.int .i64 a12).wf = true) (a13 : Int) (h13 : (Lit.int .i64 a13).wf = true) (a14 : Int) (h14 : (Lit.int .i64 a14).wf = true) (a15 : Int) (h15 : (Lit.int .i64 a15).wf = true) (a16 : Int) (h16 : (Lit.int .i64 a16).wf = true) (a17 : Int) (h17 : (Lit.int .i64 a17).wf = true) (a18 : Bool)
    (a : Option Addr) (len cap : Nat) (b : Int) (hb : (Lit.int .i64 b).wf = true) (w : World) (h : IsFlat Try.prog [3, 22, 3, 22, 3, 22, 3] w a len cap) :
    Calls Try.prog 3 #[.agg #[.int .i64 a0, .int .i64 a1, .int .i64 a2, .int .i64 a3, .int .i64 a4, .int .i64 a5, .int .i64 a6, .int .i64 a7, .int .i64 a8, .int .i64 a9, .int .i64 a10, .int .i64 a11, .int .i64 a12, .int .i64 a13, .int .i64 a14, .int .i64 a15, .int .i64 a16, .int .i64 a17, .bool a18], .slice a len cap, .int .i64 b] w fun e w' => e = .returned (.bool true) ∧ Below w.heap.size w w' := by
  obtain ⟨L, rfl, k1, k2, _, k3⟩ := h.itemsA
  by_cases hl : 200 < L.length
  · exact paraTells_long ⟨a0, a1, a2, a3, a4, a5, a6, a7, a8, a9, a10, a11, a12, a13, a14, a15, a16, a17, a18⟩ a _ cap b w hl (Nat.le_trans (Nat.le_trans k1 k2) (by decide))
  · exact paraTells_in ⟨a0, a1, a2, a3, a4, a5, a6, a7, a8, a9, a10, a11, a12, a13, a14, a15, a16, a17, a18⟩ a cap L b w (by omega) k3
end Go.Proofs.Ytopifminodlpbaa
