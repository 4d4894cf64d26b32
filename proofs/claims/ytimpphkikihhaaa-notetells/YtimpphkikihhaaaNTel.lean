/- The walk of NoteTells. -/
import Derived.Test.YtimpphkikihhaaaNAw
import Derived.Test.YtimpphkikihhaaaNRck
import Derived.Test.YtimpphkikihhaaaNSm
import Derived.Test.YtimpphkikihhaaaSIs
import Derived.Test.YtimpphkikihhaaaDetV
namespace Go.Proofs.Ytimpphkikihhaaa
open Go.RowKit
set_option maxRecDepth 20000
set_option linter.unusedVariables false
set_option linter.unusedSimpArgs false

theorem ntells_long (la : Option Addr) (ll lc : Nat) (pa : Option Addr) (pl pc : Nat) (a : Int) (w : World) (h : 100 < ll ∨ 100 < pl) (hl : ll ≤ 9223372036854775807) (hp : pl ≤ 9223372036854775807) :
    Calls Try.prog 3 #[nte la ll lc pa pl pc, .int .i64 a] w fun e w' => e = .returned (.bool true) ∧ Below w.heap.size w w' := by
  unfold nte
  by_cases h1 : 100 < ll
  · go_enter Try.func3, Try.ntmps3
    go_wp2_with (go_at_call 6; refine (awake11 _).mono ?_; rintro e w1 ⟨rfl, b1⟩)
    go_ret
    exact ⟨rfl, tstep (tbel1 w _) b1 (tbel1 w _).size⟩
  · have h2 : 100 < pl := by omega
    go_enter Try.func3, Try.ntmps3
    go_wp2_with (go_at_call 6; refine (awake11 _).mono ?_; rintro e w1 ⟨rfl, b1⟩)
    go_ret
    exact ⟨rfl, tstep (tbel1 w _) b1 (tbel1 w _).size⟩
/-- A slice that holds the numbers S. -/
def RowV (S : List Int) (v : Value) (y : World) : Prop := ∃ a c, v = .slice a S.length c ∧ IRow y.heap.size y a S
theorem OwnN.rowV {w : World} {base : Nat} {v : Value} {l : List Int} (h : OwnN w base v l) : RowV l v w := by
  obtain ⟨a, c, h1, _, _, h2⟩ := h.row
  exact ⟨a, c, h1, h2⟩
set_option maxHeartbeats 2000000 in
theorem ntells_walk (ll lc pl pc : Nat) (la pa : Option Addr) (a : Int) (S : List Int) (k m : Bool) (p r : Int) (w : World) (hl : ll ≤ 100) (hp : pl ≤ 100) (hS : S.length ≤ 1000)
    (c1 : ∀ x, Below w.heap.size w x → Calls Try.prog 7 #[.agg #[.slice la ll lc, .slice pa pl pc]] x fun e y => e = .returned (.int .i64 (errN k)) ∧ Below x.heap.size x y)
    (c2 : ∀ x, Below w.heap.size w x → Calls Try.prog 8 #[.agg #[.slice la ll lc, .slice pa pl pc]] x fun e y => e = .returned (.bool k) ∧ Below x.heap.size x y)
    (c3 : ∀ x, Below w.heap.size w x → Calls Try.prog 9 #[.agg #[.slice la ll lc, .slice pa pl pc], .int .i64 a] x fun e y => e = .returned (.bool m) ∧ Below x.heap.size x y)
    (c4 : ∀ x, Below w.heap.size w x → Calls Try.prog 10 #[.agg #[.slice la ll lc, .slice pa pl pc], .int .i64 a] x fun e y => e = .returned (.bool m) ∧ Below x.heap.size x y)
    (c5 : ∀ x, Below w.heap.size w x → Calls Try.prog 11 #[.agg #[.slice la ll lc, .slice pa pl pc], .int .i64 a] x fun e y => e = .returned (.int .i64 p) ∧ Below x.heap.size x y)
    (c6 : ∀ x, Below w.heap.size w x → Calls Try.prog 12 #[.agg #[.slice la ll lc, .slice pa pl pc], .int .i64 a] x fun e y => e = .returned (.int .i64 p) ∧ Below x.heap.size x y)
    (c7 : ∀ x, Below w.heap.size w x → Calls Try.prog 14 #[.agg #[.slice la ll lc, .slice pa pl pc], .int .i64 a] x fun e y => ∃ v, e = .returned v ∧ RowV S v y ∧ Below x.heap.size x y)
    (c8 : ∀ x, Below w.heap.size w x → Calls Try.prog 15 #[.agg #[.slice la ll lc, .slice pa pl pc], .int .i64 a] x fun e y => ∃ v, e = .returned v ∧ RowV S v y ∧ Below x.heap.size x y)
    (c9 : ∀ x, Below w.heap.size w x → Calls Try.prog 16 #[.agg #[.slice la ll lc, .slice pa pl pc], .int .i64 a] x fun e y => e = .returned (.int .i64 r) ∧ Below x.heap.size x y)
    (c10 : ∀ x, Below w.heap.size w x → Calls Try.prog 17 #[.agg #[.slice la ll lc, .slice pa pl pc], .int .i64 a] x fun e y => e = .returned (.int .i64 r) ∧ Below x.heap.size x y) :
    Calls Try.prog 3 #[.agg #[.slice la ll lc, .slice pa pl pc], .int .i64 a] w fun e w' => e = .returned (.bool true) ∧ Below w.heap.size w w' := by
  have C1 := Lib.hid c1
  have C2 := Lib.hid c2
  have C3 := Lib.hid c3
  have C4 := Lib.hid c4
  have C5 := Lib.hid c5
  have C6 := Lib.hid c6
  have C7 := Lib.hid c7
  have C8 := Lib.hid c8
  have C9 := Lib.hid c9
  have C10 := Lib.hid c10
  have C11 : Hid (∀ a5 a6 k5 k6 x, IRow x.heap.size x a5 S → IRow x.heap.size x a6 S → Calls Try.prog 13 #[.slice a5 S.length k5, .slice a6 S.length k6] x fun e y => e = .returned (.bool true) ∧ Below x.heap.size x y) := Lib.hid fun a5 a6 k5 k6 x h5 h6 => by
    have c := nints_any a5 a6 k5 k6 S S x (by omega) (by omega) h5 h6
    rw [decide_eq_true rfl] at c
    exact c
  clear c1 c2 c3 c4 c5 c6 c7 c8 c9 c10
  have B := blk_new w #[.slice la ll lc, .slice pa pl pc] 25
  have b0 := tbel1 w (.cells #[.slice la ll lc, .slice pa pl pc] 25)
  cases k
  all_goals
    go_enter Try.func3, Try.ntmps3
    go_wp2_with fail
    refine (C1.out _ b0).mono ?_
    rintro e w1 ⟨rfl, b1⟩
    have B1 := B.old b1
    replace b1 := tstep b0 b1 b0.size
    obtain ⟨q0, q1⟩ := B1.two
    clear C1 B b0
    simp only [errN, cond_true, cond_false]
    go_wp2_with fail
    refine (C2.out _ b1).mono ?_
    rintro e w2 ⟨rfl, b2⟩
    have B2 := B1.old b2
    replace b2 := tstep b1 b2 b1.size
    clear C2 B1 b1 q0 q1
    go_wp2_with fail
    have CE := Lib.hid fun x (hx : Old w2 x) => (B2.old hx).two
    (refine wp_region_plan 37 [(0, true), (1, true), (2, true), (3, true), (4, true), (5, true), (6, true), (7, true), (8, true), (9, true), (10, true), (11, true), (12, true), (13, true), (14, true), (15, true), (16, true), (17, true), (18, true), (20, true), (21, true), (19, false), (22, false), (23, true), (24, true), (25, true), (26, true), (27, true), (28, true), (29, true), (30, true), (31, true), (32, true), (33, true), (34, true), (35, true), (36, true)] (by kernel_rfl) (by kernel_rfl) ?_; simp only [pick, List.getElem?_cons_succ, List.getElem?_cons_zero, List.drop_succ_cons, List.drop_zero])
    repeat (first | (apply TextV.sees (hw := by kernel_rfl); (focus (intro x hx K hK; have hc := CE.out x hx; go_simp; exact hK)); simp only [Act.put, List.getElem_toArray, List.getElem_cons_succ, List.getElem_cons_zero, List.setIfInBounds_toArray, List.set_cons_zero, List.set_cons_succ]) | (apply TextV.idle; (focus (intro x hx K hK; go_simp; exact hK)); simp only [Act.put, List.getElem_toArray, List.getElem_cons_succ, List.getElem_cons_zero, List.setIfInBounds_toArray, List.set_cons_zero, List.set_cons_succ]))
    (refine TextV.call (fun x hx => C3.out x (tstep b2 hx b2.size)) (by kernel_rfl) (fun _ => by kernel_rfl) ?_; simp only [Act.put, List.getElem_toArray, List.getElem_cons_succ, List.getElem_cons_zero, List.setIfInBounds_toArray, List.set_cons_zero, List.set_cons_succ])
    repeat (first | (apply TextV.sees (hw := by kernel_rfl); (focus (intro x hx K hK; have hc := CE.out x hx; go_simp; exact hK)); simp only [Act.put, List.getElem_toArray, List.getElem_cons_succ, List.getElem_cons_zero, List.setIfInBounds_toArray, List.set_cons_zero, List.set_cons_succ]) | (apply TextV.idle; (focus (intro x hx K hK; go_simp; exact hK)); simp only [Act.put, List.getElem_toArray, List.getElem_cons_succ, List.getElem_cons_zero, List.setIfInBounds_toArray, List.set_cons_zero, List.set_cons_succ]))
    (refine TextV.call (fun x hx => C4.out x (tstep b2 hx b2.size)) (by kernel_rfl) (fun _ => by kernel_rfl) ?_; simp only [Act.put, List.getElem_toArray, List.getElem_cons_succ, List.getElem_cons_zero, List.setIfInBounds_toArray, List.set_cons_zero, List.set_cons_succ])
    repeat (first | (apply TextV.sees (hw := by kernel_rfl); (focus (intro x hx K hK; have hc := CE.out x hx; go_simp; exact hK)); simp only [Act.put, List.getElem_toArray, List.getElem_cons_succ, List.getElem_cons_zero, List.setIfInBounds_toArray, List.set_cons_zero, List.set_cons_succ]) | (apply TextV.idle; (focus (intro x hx K hK; go_simp; exact hK)); simp only [Act.put, List.getElem_toArray, List.getElem_cons_succ, List.getElem_cons_zero, List.setIfInBounds_toArray, List.set_cons_zero, List.set_cons_succ]))
    (refine TextV.call (fun x hx => C5.out x (tstep b2 hx b2.size)) (by kernel_rfl) (fun _ => by kernel_rfl) ?_; simp only [Act.put, List.getElem_toArray, List.getElem_cons_succ, List.getElem_cons_zero, List.setIfInBounds_toArray, List.set_cons_zero, List.set_cons_succ])
    repeat (first | (apply TextV.sees (hw := by kernel_rfl); (focus (intro x hx K hK; have hc := CE.out x hx; go_simp; exact hK)); simp only [Act.put, List.getElem_toArray, List.getElem_cons_succ, List.getElem_cons_zero, List.setIfInBounds_toArray, List.set_cons_zero, List.set_cons_succ]) | (apply TextV.idle; (focus (intro x hx K hK; go_simp; exact hK)); simp only [Act.put, List.getElem_toArray, List.getElem_cons_succ, List.getElem_cons_zero, List.setIfInBounds_toArray, List.set_cons_zero, List.set_cons_succ]))
    (refine TextV.call (fun x hx => C6.out x (tstep b2 hx b2.size)) (by kernel_rfl) (fun _ => by kernel_rfl) ?_; simp only [Act.put, List.getElem_toArray, List.getElem_cons_succ, List.getElem_cons_zero, List.setIfInBounds_toArray, List.set_cons_zero, List.set_cons_succ])
    repeat (first | (apply TextV.sees (hw := by kernel_rfl); (focus (intro x hx K hK; have hc := CE.out x hx; go_simp; exact hK)); simp only [Act.put, List.getElem_toArray, List.getElem_cons_succ, List.getElem_cons_zero, List.setIfInBounds_toArray, List.set_cons_zero, List.set_cons_succ]) | (apply TextV.idle; (focus (intro x hx K hK; go_simp; exact hK)); simp only [Act.put, List.getElem_toArray, List.getElem_cons_succ, List.getElem_cons_zero, List.setIfInBounds_toArray, List.set_cons_zero, List.set_cons_succ]))
    (refine TextV.loud (V := RowV S) (fun x hx => C7.out x (tstep b2 hx b2.size)) (by kernel_rfl) (fun _ => by kernel_rfl) (fun v5 y5 hv5 hy5 => ?_); simp only [Act.put, List.getElem_toArray, List.getElem_cons_succ, List.getElem_cons_zero, List.setIfInBounds_toArray, List.set_cons_zero, List.set_cons_succ])
    (refine TextV.loud (V := RowV S) (fun x hx => C8.out x (tstep b2 (hy5.old hx) b2.size)) (by kernel_rfl) (fun _ => by kernel_rfl) (fun v6 y6 hv6 hy6 => ?_); simp only [Act.put, List.getElem_toArray, List.getElem_cons_succ, List.getElem_cons_zero, List.setIfInBounds_toArray, List.set_cons_zero, List.set_cons_succ])
    obtain ⟨a5, k5, rfl, r5⟩ := hv5
    obtain ⟨a6, k6, rfl, r6⟩ := hv6
    have b6 := tstep b2 (hy5.old hy6) b2.size
    have B6 := B2.old (hy5.old hy6)
    replace r5 := (r5.carry hy6 (Nat.le_refl _)).mono hy6.size
    clear CE hy5 hy6 B2 b2
    have CE := Lib.hid fun x (hx : Old y6 x) => (B6.old hx).two
    (refine TextV.call (fun x hx => C11.out a5 a6 k5 k6 x ((r5.carry hx (Nat.le_refl _)).mono hx.size) ((r6.carry hx (Nat.le_refl _)).mono hx.size)) (by kernel_rfl) (fun _ => by kernel_rfl) ?_; simp only [Act.put, List.getElem_toArray, List.getElem_cons_succ, List.getElem_cons_zero, List.setIfInBounds_toArray, List.set_cons_zero, List.set_cons_succ])
    repeat (first | (apply TextV.sees (hw := by kernel_rfl); (focus (intro x hx K hK; have hc := CE.out x hx; go_simp; exact hK)); simp only [Act.put, List.getElem_toArray, List.getElem_cons_succ, List.getElem_cons_zero, List.setIfInBounds_toArray, List.set_cons_zero, List.set_cons_succ]) | (apply TextV.idle; (focus (intro x hx K hK; go_simp; exact hK)); simp only [Act.put, List.getElem_toArray, List.getElem_cons_succ, List.getElem_cons_zero, List.setIfInBounds_toArray, List.set_cons_zero, List.set_cons_succ]))
    (refine TextV.call (fun x hx => C9.out x (tstep b6 hx b6.size)) (by kernel_rfl) (fun _ => by kernel_rfl) ?_; simp only [Act.put, List.getElem_toArray, List.getElem_cons_succ, List.getElem_cons_zero, List.setIfInBounds_toArray, List.set_cons_zero, List.set_cons_succ])
    repeat (first | (apply TextV.sees (hw := by kernel_rfl); (focus (intro x hx K hK; have hc := CE.out x hx; go_simp; exact hK)); simp only [Act.put, List.getElem_toArray, List.getElem_cons_succ, List.getElem_cons_zero, List.setIfInBounds_toArray, List.set_cons_zero, List.set_cons_succ]) | (apply TextV.idle; (focus (intro x hx K hK; go_simp; exact hK)); simp only [Act.put, List.getElem_toArray, List.getElem_cons_succ, List.getElem_cons_zero, List.setIfInBounds_toArray, List.set_cons_zero, List.set_cons_succ]))
    (refine TextV.call (fun x hx => C10.out x (tstep b6 hx b6.size)) (by kernel_rfl) (fun _ => by kernel_rfl) ?_; simp only [Act.put, List.getElem_toArray, List.getElem_cons_succ, List.getElem_cons_zero, List.setIfInBounds_toArray, List.set_cons_zero, List.set_cons_succ])
    repeat (first | (apply TextV.sees (hw := by kernel_rfl); (focus (intro x hx K hK; have hc := CE.out x hx; go_simp; exact hK)); simp only [Act.put, List.getElem_toArray, List.getElem_cons_succ, List.getElem_cons_zero, List.setIfInBounds_toArray, List.set_cons_zero, List.set_cons_succ]) | (apply TextV.idle; (focus (intro x hx K hK; go_simp; exact hK)); simp only [Act.put, List.getElem_toArray, List.getElem_cons_succ, List.getElem_cons_zero, List.setIfInBounds_toArray, List.set_cons_zero, List.set_cons_succ]))
    (refine TextV.call (fun x hx => awake11 x) (by kernel_rfl) (fun _ => by kernel_rfl) ?_; simp only [Act.put, List.getElem_toArray, List.getElem_cons_succ, List.getElem_cons_zero, List.setIfInBounds_toArray, List.set_cons_zero, List.set_cons_succ])
    repeat (first | (apply TextV.sees (hw := by kernel_rfl); (focus (intro x hx K hK; have hc := CE.out x hx; go_simp; exact hK)); simp only [Act.put, List.getElem_toArray, List.getElem_cons_succ, List.getElem_cons_zero, List.setIfInBounds_toArray, List.set_cons_zero, List.set_cons_succ]) | (apply TextV.idle; (focus (intro x hx K hK; go_simp; exact hK)); simp only [Act.put, List.getElem_toArray, List.getElem_cons_succ, List.getElem_cons_zero, List.setIfInBounds_toArray, List.set_cons_zero, List.set_cons_succ]))
    intro x hx
    replace hx := tstep b6 hx b6.size
    clear CE C3 C4 C5 C6 C7 C8 C9 C10 C11
    go_wp2
    go_ret
    exact ⟨rfl, hx⟩
theorem noteTells_walk (la : Option Addr) (ll lc : Nat) (lz : List Int) (pa : Option Addr) (pl pc : Nat) (pz : List Int) (a : Int) (ha : (Lit.int .i64 a).wf = true) (w : World)
    (h : IsRow .i64 w la ll lc lz) (h' : IsRow .i64 w pa pl pc pz) :
    Calls Try.prog 3 #[.agg #[.slice la ll lc, .slice pa pl pc], .int .i64 a] w fun e w' => e = .returned (.bool true) ∧ Below w.heap.size w w' := by
  obtain ⟨L, rfl, hL, h1, h2⟩ := h.irow
  obtain ⟨P, rfl, hP, h3, h4⟩ := h'.irow
  have hm : maxLen ≤ 9223372036854775807 := by decide
  have hi := swfR ha
  by_cases hc : 100 < L.length ∨ 100 < P.length
  · exact ntells_long la L.length lc pa P.length pc a w hc (by omega) (by omega)
  · have rL := fun x (hx : Below w.heap.size w x) => (hL.carry hx (Nat.le_refl _)).mono hx.size
    have rP := fun x (hx : Below w.heap.size w x) => (hP.carry hx (Nat.le_refl _)).mono hx.size
    refine ntells_walk L.length lc P.length pc la pa a (stopsN L P a) (checkN L P) (mayN L P a) (penN L P a) (firstN L P a) w (by omega) (by omega) (Nat.le_trans (stopsUp_len L P a _) (by omega)) ?_ ?_ ?_ ?_ ?_ ?_ ?_ ?_ ?_ ?_
    · exact fun x hx => ncheck_any la lc L pa pc P x (by omega) (by omega) (rL x hx) (rP x hx)
    · exact fun x hx => rncheck_any la lc L pa pc P x (by omega) (by omega) (rL x hx) (rP x hx)
    · exact fun x hx => nmay_any la lc L pa pc P a x (by omega) (by omega) (rP x hx)
    · exact fun x hx => rnmay_any la lc L pa pc P a x (by omega) (by omega) (rP x hx)
    · exact fun x hx => npen_any la lc L pa pc P a x (by omega) (by omega) (rP x hx)
    · exact fun x hx => rnpen_any la lc L pa pc P a x (by omega) (by omega) (rP x hx)
    · exact fun x hx => (nstops_any la lc L pa pc P a x (by omega) (by omega) hi (rP x hx)).mono fun e y ⟨v, he, ho, hb⟩ => ⟨v, he, ho.rowV, hb⟩
    · exact fun x hx => (rnstops_any la lc L pa pc P a x (by omega) (by omega) (rP x hx)).mono fun e y ⟨v, he, ho, hb⟩ => ⟨v, he, ho.rowV, hb⟩
    · exact fun x hx => nfirst_any la lc L pa pc P a x (by omega) (by omega) hi (rP x hx)
    · exact fun x hx => rnfirst_any la lc L pa pc P a x (by omega) (by omega) (rP x hx)
end Go.Proofs.Ytimpphkikihhaaa
