/- The walk of AnchorTells. -/
import Derived.Test.YtniipfpfilenmaaHAw
import Derived.Test.YtniipfpfilenmaaUFlat
namespace Go.Proofs.Ytniipfpfilenmaa
open Go.RowKit
set_option maxRecDepth 20000
set_option linter.unusedVariables false
set_option linter.unusedSimpArgs false

/-- How a law stands: two numbers in a block, a map, and nothing older has changed. -/
structure TelS (w : World) (l : List I7) (fl : List F3) (p q : Int) (v : Value) (x : World) : Prop where
  bx : Blk x w.heap.size #[.int .i64 p, .int .i64 q] 24
  mv : MapV x v l fl
  bel : Below w.heap.size w x
theorem TelS.step {w : World} {l : List I7} {fl : List F3} {p q : Int} {v : Value} {x y : World} (h : TelS w l fl p q v x) (hb : Below x.heap.size x y) : TelS w l fl p q v y :=
  ⟨h.bx.old hb, h.mv.carry hb, tstep h.bel hb h.bel.size⟩
theorem anchorTells_out (a : Option Addr) (len cap : Nat) (af : Option Addr) (lf cf : Nat) (p q : Int) (w : World) (hn : 200 < len) (hc : len ≤ 9223372036854775807) :
    Calls Try.prog 3 #[.slice a len cap, .slice af lf cf, .agg #[.int .i64 p, .int .i64 q]] w fun e w' => e = .returned (.bool true) ∧ Below w.heap.size w w' := by
  have c := awake21
  have b0 := tbel1 w (.cells #[.int .i64 p, .int .i64 q] 24)
  go_enter Try.func3, Try.ntmps3
  go_wp2_with fail
  refine (c _).mono ?_
  rintro e w1 ⟨rfl, b1⟩
  go_wp2
  go_ret
  exact ⟨rfl, tstep b0 b1 b0.size⟩
set_option maxHeartbeats 4000000 in
theorem anchorTells_in (a : Option Addr) (cap : Nat) (l : List I7) (af : Option Addr) (cf : Nat) (fl : List F3) (p q : Int) (w : World) (hn : l.length ≤ 200) (hr : Els 7 encI w a l.length fun k => l.getD k zeroI) (hi : ∀ k, inI (l.getD k zeroI)) (hf : fl.length ≤ 9223372036854775807) (hrf : URow w af fl) :
    Calls Try.prog 3 #[.slice a l.length cap, .slice af fl.length cf, .agg #[.int .i64 p, .int .i64 q]] w fun e w' => e = .returned (.bool true) ∧ Below w.heap.size w w' := by
  have b0 := tbel1 w (.cells #[.int .i64 p, .int .i64 q] 24)
  have B0 := blk_new w #[.int .i64 p, .int .i64 q] 24
  have c1 := hnew_any a cap l af cf fl _ (by omega) (hr.carry b0) hi hf (hrf.carry b0)
  have cw := Lib.hid awake21
  have HC := Lib.hid fun (v : Value) (x : World) (h : MapV x v l fl) => And.intro (hnotes_any v l fl p q x h (by omega) hi) (And.intro (hfloats_any v l fl p q x h (by omega) hi) (And.intro (hbegun_any v l fl p x h (by omega)) (And.intro (hahead_any v l fl p x h (by omega)) (hdue_any v l fl p x h (by omega)))))
  have HD := Lib.hid fun (x : World) (hx : Below w.heap.size w x) => And.intro (fun kd A B => rnums_any a cap l kd A B x (by omega) (hr.carry hx) hi) (And.intro (rahead_any a cap l af cf fl p x (by omega) (hr.carry hx) hi hf (hrf.carry hx)) (rdue_any a cap l af cf fl p x (by omega) (hr.carry hx) hi hf (hrf.carry hx)))
  have HS : Hid (∀ (L : List Int) (x : World) (u v : Value), L.length ≤ 1000 → OwnN x w.heap.size u L → OwnN x w.heap.size v L → Calls Try.prog 8 #[u, v] x fun e w' => e = .returned (.bool true) ∧ Below x.heap.size x w') := Lib.hid fun L x u v hl hu hv => by
    obtain ⟨a1, c1, rfl, _, _, h1⟩ := hu.row
    obtain ⟨a2, c2, rfl, _, _, h2⟩ := hv.row
    have := nints_any a1 a2 c1 c2 L L x (by omega) (by omega) h1 h2
    rwa [decide_eq_true rfl] at this
  have HB := Lib.hid (cntB_entN l 5 p l.length)
  rw [HB.out] at HC
  clear hr hi hrf
  have l5 := numsA_len l 5 p q l.length
  have l6 := numsA_len l 6 p q l.length
  obtain ⟨L5, h5⟩ : ∃ L, numsA l 5 p q l.length = L := ⟨_, rfl⟩
  obtain ⟨L6, h6⟩ : ∃ L, numsA l 6 p q l.length = L := ⟨_, rfl⟩
  obtain ⟨L0, h0⟩ : ∃ L, numsA l 5 0 p l.length = L := ⟨_, rfl⟩
  rw [h5, h6, h0] at HC
  rw [h5] at l5
  rw [h6] at l6
  have H5 := Lib.hid h5
  have H6 := Lib.hid h6
  have H0 := Lib.hid h0
  have H5L := Lib.hid l5
  have H6L := Lib.hid l6
  clear h5 h6 h0 l5 l6 HB
  generalize aheadA l fl (clN p l.length) = A at *
  generalize dueA l fl (clN p l.length) = D at *
  obtain ⟨A0, A1, A2⟩ := A
  obtain ⟨D0, D1, D2⟩ := D
  unfold ar3 at HC HD
  dsimp only at HC HD
  go_enter Try.func3, Try.ntmps3
  go_wp2_with fail
  refine c1.mono ?_
  rintro e w1 ⟨v, rfl, hv, b1⟩
  have S := TelS.mk (w := w) (p := p) (q := q) (B0.old b1) hv (tstep b0 b1 b0.size)
  have CE := Lib.hid fun x (hx : Old w1 x) => (S.step hx).bx.two
  have CC := Lib.hid fun x (hx : Old w1 x) => HC.out v x (S.step hx).mv
  have CD := Lib.hid fun x (hx : Old w1 x) => HD.out x (S.step hx).bel
  have CB := Lib.hid fun x (hx : Old w1 x) => (S.step hx).bel
  clear c1 hv b1 b0 B0 S HC HD
  go_wp2_with fail
  (refine wp_region_plan 67 [(0, true), (1, true), (2, true), (3, true), (4, true), (6, true), (7, true), (8, true), (9, true), (10, true), (5, false), (11, false), (12, true), (13, true), (14, true), (15, true), (16, true), (17, true), (18, true), (20, true), (21, true), (22, true), (23, true), (24, true), (19, false), (25, false), (26, true), (27, true), (28, true), (29, true), (30, true), (31, true), (32, true), (33, true), (34, true), (35, true), (36, false), (37, true), (38, true), (39, true), (40, true), (41, true), (42, true), (43, true), (44, true), (45, true), (46, true), (47, true), (48, true), (49, true), (50, true), (51, true), (52, true), (53, true), (54, true), (55, true), (56, true), (57, true), (58, true), (59, true), (60, true), (61, true), (62, true), (63, true), (64, true), (65, true), (66, true)] (by kernel_rfl) (by kernel_rfl) ?_; simp only [pick, List.getElem?_cons_succ, List.getElem?_cons_zero, List.drop_succ_cons, List.drop_zero])
  repeat (first | (apply TextV.sees (hw := by kernel_rfl); (focus (intro x hx K hK; have hc := CE.out x hx; go_simp; exact hK)); simp only [Act.put, List.getElem_toArray, List.getElem_cons_succ, List.getElem_cons_zero, List.setIfInBounds_toArray, List.set_cons_zero, List.set_cons_succ]) | (apply TextV.idle; (focus (intro x hx K hK; go_simp; exact hK)); simp only [Act.put, List.getElem_toArray, List.getElem_cons_succ, List.getElem_cons_zero, List.setIfInBounds_toArray, List.set_cons_zero, List.set_cons_succ]))
  (refine TextV.loud (V := fun u y => OwnN y w.heap.size u L5) (fun x hx => (CC.out x hx).1.mono fun e y ⟨u, he, ho, hb⟩ => ⟨u, he, ho.mono (CB.out x hx).size, hb⟩) (by kernel_rfl) (fun _ => by kernel_rfl) (fun u2 y2 N2 hy2 => ?_); simp only [Act.put, List.getElem_toArray, List.getElem_cons_succ, List.getElem_cons_zero, List.setIfInBounds_toArray, List.set_cons_zero, List.set_cons_succ])
  (refine TextV.loud (V := fun u y => OwnN y w.heap.size u L5) (fun x hx => ((CD.out x (hy2.old hx)).1 5 p q).mono fun e y ⟨u, he, ho, hb⟩ => ⟨u, by simpa using he, by rw [← H5.out]; exact ho.mono (CB.out x (hy2.old hx)).size, hb⟩) (by kernel_rfl) (fun _ => by kernel_rfl) (fun u3 y3 N3 hy3 => ?_); simp only [Act.put, List.getElem_toArray, List.getElem_cons_succ, List.getElem_cons_zero, List.setIfInBounds_toArray, List.set_cons_zero, List.set_cons_succ])
  replace N2 := N2.carry hy3
  replace hy3 := hy2.old hy3
  (refine TextV.call (fun x hx => HS.out L5 x u2 u3 (by have := H5L.out; omega) (N2.carry hx) (N3.carry hx)) (by kernel_rfl) (fun _ => by kernel_rfl) ?_; simp only [Act.put, List.getElem_toArray, List.getElem_cons_succ, List.getElem_cons_zero, List.setIfInBounds_toArray, List.set_cons_zero, List.set_cons_succ])
  have CE3 := Lib.hid fun x (hx : Old y3 x) => CE.out x (hy3.old hx)
  repeat (first | (apply TextV.sees (hw := by kernel_rfl); (focus (intro x hx K hK; have hc := CE3.out x hx; go_simp; exact hK)); simp only [Act.put, List.getElem_toArray, List.getElem_cons_succ, List.getElem_cons_zero, List.setIfInBounds_toArray, List.set_cons_zero, List.set_cons_succ]) | (apply TextV.idle; (focus (intro x hx K hK; go_simp; exact hK)); simp only [Act.put, List.getElem_toArray, List.getElem_cons_succ, List.getElem_cons_zero, List.setIfInBounds_toArray, List.set_cons_zero, List.set_cons_succ]))
  clear N2 N3 CE3 hy2
  (refine TextV.loud (V := fun u y => OwnN y w.heap.size u L6) (fun x hx => (CC.out x (hy3.old hx)).2.1.mono fun e y ⟨u, he, ho, hb⟩ => ⟨u, he, ho.mono (CB.out x (hy3.old hx)).size, hb⟩) (by kernel_rfl) (fun _ => by kernel_rfl) (fun u4 y4 N4 hy4 => ?_); simp only [Act.put, List.getElem_toArray, List.getElem_cons_succ, List.getElem_cons_zero, List.setIfInBounds_toArray, List.set_cons_zero, List.set_cons_succ])
  replace hy4 := hy3.old hy4
  (refine TextV.loud (V := fun u y => OwnN y w.heap.size u L6) (fun x hx => ((CD.out x (hy4.old hx)).1 6 p q).mono fun e y ⟨u, he, ho, hb⟩ => ⟨u, he, by rw [← H6.out]; exact ho.mono (CB.out x (hy4.old hx)).size, hb⟩) (by kernel_rfl) (fun _ => by kernel_rfl) (fun u5 y5 N5 hy5 => ?_); simp only [Act.put, List.getElem_toArray, List.getElem_cons_succ, List.getElem_cons_zero, List.setIfInBounds_toArray, List.set_cons_zero, List.set_cons_succ])
  replace N4 := N4.carry hy5
  replace hy5 := hy4.old hy5
  (refine TextV.call (fun x hx => HS.out L6 x u4 u5 (by have := H6L.out; omega) (N4.carry hx) (N5.carry hx)) (by kernel_rfl) (fun _ => by kernel_rfl) ?_; simp only [Act.put, List.getElem_toArray, List.getElem_cons_succ, List.getElem_cons_zero, List.setIfInBounds_toArray, List.set_cons_zero, List.set_cons_succ])
  have CE5 := Lib.hid fun x (hx : Old y5 x) => CE.out x (hy5.old hx)
  repeat (first | (apply TextV.sees (hw := by kernel_rfl); (focus (intro x hx K hK; have hc := CE5.out x hx; go_simp; exact hK)); simp only [Act.put, List.getElem_toArray, List.getElem_cons_succ, List.getElem_cons_zero, List.setIfInBounds_toArray, List.set_cons_zero, List.set_cons_succ]) | (apply TextV.idle; (focus (intro x hx K hK; go_simp; exact hK)); simp only [Act.put, List.getElem_toArray, List.getElem_cons_succ, List.getElem_cons_zero, List.setIfInBounds_toArray, List.set_cons_zero, List.set_cons_succ]))
  clear N4 N5 hy3 hy4
  (refine TextV.call (fun x hx => (CC.out x (hy5.old hx)).2.2.1) (by kernel_rfl) (fun _ => by kernel_rfl) ?_; simp only [Act.put, List.getElem_toArray, List.getElem_cons_succ, List.getElem_cons_zero, List.setIfInBounds_toArray, List.set_cons_zero, List.set_cons_succ])
  repeat (first | (apply TextV.sees (hw := by kernel_rfl); (focus (intro x hx K hK; have hc := CE5.out x hx; go_simp; exact hK)); simp only [Act.put, List.getElem_toArray, List.getElem_cons_succ, List.getElem_cons_zero, List.setIfInBounds_toArray, List.set_cons_zero, List.set_cons_succ]) | (apply TextV.idle; (focus (intro x hx K hK; go_simp; exact hK)); simp only [Act.put, List.getElem_toArray, List.getElem_cons_succ, List.getElem_cons_zero, List.setIfInBounds_toArray, List.set_cons_zero, List.set_cons_succ]))
  clear CE5
  (refine TextV.loud (V := fun u y => OwnN y w.heap.size u L0) (fun x hx => ((CD.out x (hy5.old hx)).1 5 0 p).mono fun e y ⟨u, he, ho, hb⟩ => ⟨u, he, by rw [← H0.out]; exact ho.mono (CB.out x (hy5.old hx)).size, hb⟩) (by kernel_rfl) (fun _ => by kernel_rfl) (fun u6 y6 N6 hy6 => ?_); simp only [Act.put, List.getElem_toArray, List.getElem_cons_succ, List.getElem_cons_zero, List.setIfInBounds_toArray, List.set_cons_zero, List.set_cons_succ])
  replace hy6 := hy5.old hy6
  obtain ⟨a6, c6, rfl, _, _, _⟩ := N6.row
  have CE6 := Lib.hid fun x (hx : Old y6 x) => CE.out x (hy6.old hx)
  clear N6 hy5
  repeat (first | (apply TextV.sees (hw := by kernel_rfl); (focus (intro x hx K hK; have hc := CE6.out x hx; go_simp; exact hK)); simp only [Act.put, List.getElem_toArray, List.getElem_cons_succ, List.getElem_cons_zero, List.setIfInBounds_toArray, List.set_cons_zero, List.set_cons_succ]) | (apply TextV.idle; (focus (intro x hx K hK; go_simp; exact hK)); simp only [Act.put, List.getElem_toArray, List.getElem_cons_succ, List.getElem_cons_zero, List.setIfInBounds_toArray, List.set_cons_zero, List.set_cons_succ]))
  (refine TextV.call (fun x hx => (CC.out x (hy6.old hx)).2.2.2.1) (by kernel_rfl) (fun _ => by kernel_rfl) ?_; simp only [Act.put, List.getElem_toArray, List.getElem_cons_succ, List.getElem_cons_zero, List.setIfInBounds_toArray, List.set_cons_zero, List.set_cons_succ])
  repeat (first | (apply TextV.sees (hw := by kernel_rfl); (focus (intro x hx K hK; have hc := CE6.out x hx; go_simp; exact hK)); simp only [Act.put, List.getElem_toArray, List.getElem_cons_succ, List.getElem_cons_zero, List.setIfInBounds_toArray, List.set_cons_zero, List.set_cons_succ]) | (apply TextV.idle; (focus (intro x hx K hK; go_simp; exact hK)); simp only [Act.put, List.getElem_toArray, List.getElem_cons_succ, List.getElem_cons_zero, List.setIfInBounds_toArray, List.set_cons_zero, List.set_cons_succ]))
  (refine TextV.call (fun x hx => (CD.out x (hy6.old hx)).2.1) (by kernel_rfl) (fun _ => by kernel_rfl) ?_; simp only [Act.put, List.getElem_toArray, List.getElem_cons_succ, List.getElem_cons_zero, List.setIfInBounds_toArray, List.set_cons_zero, List.set_cons_succ])
  repeat (first | (apply TextV.sees (hw := by kernel_rfl); (focus (intro x hx K hK; have hc := CE6.out x hx; go_simp; exact hK)); simp only [Act.put, List.getElem_toArray, List.getElem_cons_succ, List.getElem_cons_zero, List.setIfInBounds_toArray, List.set_cons_zero, List.set_cons_succ]) | (apply TextV.idle; (focus (intro x hx K hK; go_simp; exact hK)); simp only [Act.put, List.getElem_toArray, List.getElem_cons_succ, List.getElem_cons_zero, List.setIfInBounds_toArray, List.set_cons_zero, List.set_cons_succ]))
  (refine TextV.call (fun x hx => (CC.out x (hy6.old hx)).2.2.2.2) (by kernel_rfl) (fun _ => by kernel_rfl) ?_; simp only [Act.put, List.getElem_toArray, List.getElem_cons_succ, List.getElem_cons_zero, List.setIfInBounds_toArray, List.set_cons_zero, List.set_cons_succ])
  repeat (first | (apply TextV.sees (hw := by kernel_rfl); (focus (intro x hx K hK; have hc := CE6.out x hx; go_simp; exact hK)); simp only [Act.put, List.getElem_toArray, List.getElem_cons_succ, List.getElem_cons_zero, List.setIfInBounds_toArray, List.set_cons_zero, List.set_cons_succ]) | (apply TextV.idle; (focus (intro x hx K hK; go_simp; exact hK)); simp only [Act.put, List.getElem_toArray, List.getElem_cons_succ, List.getElem_cons_zero, List.setIfInBounds_toArray, List.set_cons_zero, List.set_cons_succ]))
  (refine TextV.call (fun x hx => (CD.out x (hy6.old hx)).2.2) (by kernel_rfl) (fun _ => by kernel_rfl) ?_; simp only [Act.put, List.getElem_toArray, List.getElem_cons_succ, List.getElem_cons_zero, List.setIfInBounds_toArray, List.set_cons_zero, List.set_cons_succ])
  repeat (first | (apply TextV.sees (hw := by kernel_rfl); (focus (intro x hx K hK; have hc := CE6.out x hx; go_simp; exact hK)); simp only [Act.put, List.getElem_toArray, List.getElem_cons_succ, List.getElem_cons_zero, List.setIfInBounds_toArray, List.set_cons_zero, List.set_cons_succ]) | (apply TextV.idle; (focus (intro x hx K hK; go_simp; exact hK)); simp only [Act.put, List.getElem_toArray, List.getElem_cons_succ, List.getElem_cons_zero, List.setIfInBounds_toArray, List.set_cons_zero, List.set_cons_succ]))
  (refine TextV.call (fun x _ => cw.out x) (by kernel_rfl) (fun _ => by kernel_rfl) ?_; simp only [Act.put, List.getElem_toArray, List.getElem_cons_succ, List.getElem_cons_zero, List.setIfInBounds_toArray, List.set_cons_zero, List.set_cons_succ])
  repeat (first | (apply TextV.sees (hw := by kernel_rfl); (focus (intro x hx K hK; have hc := CE6.out x hx; go_simp; exact hK)); simp only [Act.put, List.getElem_toArray, List.getElem_cons_succ, List.getElem_cons_zero, List.setIfInBounds_toArray, List.set_cons_zero, List.set_cons_succ]) | (apply TextV.idle; (focus (intro x hx K hK; go_simp; exact hK)); simp only [Act.put, List.getElem_toArray, List.getElem_cons_succ, List.getElem_cons_zero, List.setIfInBounds_toArray, List.set_cons_zero, List.set_cons_succ]))
  apply TextV.done
  intro x hx
  have hb := CB.out x (hy6.old hx)
  clear CE CC CD CB CE6 hy6 hx HS
  go_wp2
  go_ret
  exact ⟨rfl, hb⟩
theorem anchorTells_walk (a : Option Addr) (len cap : Nat) (af : Option Addr) (lf cf : Nat) (p : Int) (hp : (Lit.int .i64 p).wf = true) (q : Int) (hq : (Lit.int .i64 q).wf = true) (w : World) (h : IsFlat Try.prog [3, 38, 3, 38, 3, 38, 3] w a len cap) (hf : IsFlat Try.prog [3, 38, 3] w af lf cf) :
    Calls Try.prog 3 #[.slice a len cap, .slice af lf cf, .agg #[.int .i64 p, .int .i64 q]] w fun e w' => e = .returned (.bool true) ∧ Below w.heap.size w w' := by
  obtain ⟨L, rfl, h1, h2, h4, h3⟩ := h.itemsA
  obtain ⟨F, rfl, f1, f2, f3⟩ := hf.urow
  by_cases hg : 200 < L.length
  · exact anchorTells_out a _ cap af _ cf p q w hg (Nat.le_trans (Nat.le_trans h1 h2) (by decide))
  · exact anchorTells_in a cap L af cf F p q w (by omega) h3 h4 (Nat.le_trans (Nat.le_trans f1 f2) (by decide)) f3
end Go.Proofs.Ytniipfpfilenmaa
