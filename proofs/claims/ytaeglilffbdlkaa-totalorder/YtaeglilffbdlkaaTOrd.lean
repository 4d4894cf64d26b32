/- TotalOrder's walk: the plain side, and all of it. -/
import Derived.Test.YtaeglilffbdlkaaTOrdN
import Derived.Test.YtaeglilffbdlkaaTOrdY
namespace Go.Proofs.Ytaeglilffbdlkaa
open Go.RowKit
set_option linter.unusedVariables false

theorem fit_ok {x : Int} (h : (fit x).2 = true) : inR x ∧ (fit x).1 = x := by
  unfold fit at *
  split at h
  · rename_i hx
    exact ⟨hx, by rw [if_pos hx]⟩
  · cases h
/-- Field by field. -/
def plusT (a b : T6) : T6 := ⟨a.n + b.n, a.s0 + b.s0, a.s1 + b.s1, a.s2 + b.s2, a.s3 + b.s3, a.h + b.h⟩
theorem addT_plus (a b : T6) (h : inT (plusT a b)) : addT a b = (plusT a b, true) := by
  obtain ⟨h0, h1, h2, h3, h4, h5⟩ := h
  simp only [plusT] at h0 h1 h2 h3 h4 h5
  unfold addT pairT
  have e : allT addR a b = true := by
    unfold allT addR
    rw [fit_pos h0, fit_pos h1, fit_pos h2, fit_pos h3, fit_pos h4, fit_pos h5]
    rfl
  rw [e]
  show (eachT addR a b, true) = _
  unfold eachT addR
  rw [fit_pos h0, fit_pos h1, fit_pos h2, fit_pos h3, fit_pos h4, fit_pos h5]
  rfl
theorem sub_back (a b s : T6) (ha : inT a) (h : addT a b = (s, true)) : subT s b = (a, true) := by
  obtain ⟨a0, a1, a2, a3, a4, a5⟩ := ha
  unfold addT pairT at h
  cases e : allT addR a b
  · rw [e] at h; cases h
  · rw [e] at h
    simp only [cond_true, Prod.mk.injEq, and_true] at h
    subst h
    unfold allT at e
    simp only [Bool.and_eq_true] at e
    obtain ⟨⟨⟨⟨⟨e0, e1⟩, e2⟩, e3⟩, e4⟩, e5⟩ := e
    unfold addR at e0 e1 e2 e3 e4 e5
    have k : ∀ x y, inR x → (fit (x + y)).2 = true → subR (fit (x + y)).1 y = (x, true) := fun x y hx he => by
      rw [(fit_ok he).2]
      unfold subR
      rw [show x + y - y = x by omega]
      exact fit_pos hx
    unfold subT pairT allT eachT addR
    simp only
    rw [k _ _ a0 e0, k _ _ a1 e1, k _ _ a2 e2, k _ _ a3 e3, k _ _ a4 e4, k _ _ a5 e5]
    rfl
theorem sum3 (a b c : T6) (ha : smallT a) (hb : smallT b) (hc : smallT c) : sumT [a, b, c] = (plusT (plusT a b) c, true) := by
  have e0 : addT zeroT a = (a, true) := by
    have := addT_plus zeroT a (by
      obtain ⟨h0, h1, h2, h3, h4, h5⟩ := ha
      unfold is50 at *
      unfold inT inR plusT zeroT
      simp only
      omega)
    rw [this]
    unfold plusT zeroT
    simp
  have e1 : addT a b = (plusT a b, true) := addT_plus a b (by
    obtain ⟨h0, h1, h2, h3, h4, h5⟩ := ha
    obtain ⟨g0, g1, g2, g3, g4, g5⟩ := hb
    unfold is50 at *
    unfold inT inR plusT
    simp only
    omega)
  have e2 : addT (plusT a b) c = (plusT (plusT a b) c, true) := addT_plus _ c (by
    obtain ⟨h0, h1, h2, h3, h4, h5⟩ := ha
    obtain ⟨g0, g1, g2, g3, g4, g5⟩ := hb
    obtain ⟨k0, k1, k2, k3, k4, k5⟩ := hc
    unfold is50 at *
    unfold inT inR plusT
    simp only
    omega)
  unfold sumT
  simp only [List.foldl_cons, List.foldl_nil, stepT, cond_true]
  rw [e0]
  simp only [cond_true]
  rw [e1]
  simp only [cond_true]
  exact e2
theorem plus_turn (a b c : T6) : plusT (plusT c a) b = plusT (plusT a b) c := by
  unfold plusT
  simp only [T6.mk.injEq]
  omega
theorem ord_spec (t : T6) (h3 : 0 ≤ t.s3) (h2 : 0 ≤ t.s2) (h1 : 0 ≤ t.s1) : 0 ≤ ordT t ∧ ordT t ≤ 3 ∧ (3 ≤ ordT t ↔ 0 < t.s3) ∧ (2 ≤ ordT t ↔ 0 < t.s3 + t.s2) ∧ (1 ≤ ordT t ↔ 0 < t.s3 + t.s2 + t.s1) := by
  unfold ordT
  split
  · omega
  · split
    · omega
    · split <;> omega
theorem ord3 (a b c : T6) (ha : smallT a) (hb : smallT b) (hc : smallT c) : max (max (ordT a) (ordT b)) (ordT c) = ordT (plusT (plusT a b) c) := by
  obtain ⟨h0, h1, h2, h3, h4, h5⟩ := ha
  obtain ⟨g0, g1, g2, g3, g4, g5⟩ := hb
  obtain ⟨k0, k1, k2, k3, k4, k5⟩ := hc
  unfold is50 at *
  have pa := ord_spec a (by omega) (by omega) (by omega)
  have pb := ord_spec b (by omega) (by omega) (by omega)
  have pc := ord_spec c (by omega) (by omega) (by omega)
  have px := ord_spec (plusT (plusT a b) c) (by simp only [plusT]; omega) (by simp only [plusT]; omega) (by simp only [plusT]; omega)
  generalize ordT (plusT (plusT a b) c) = ox at px ⊢
  simp only [plusT] at px
  generalize ordT a = oa at pa ⊢
  generalize ordT b = ob at pb ⊢
  generalize ordT c = oc at pc ⊢
  omega
theorem trow3 {w : World} {g T : Nat} (a b c : T6) (ha : inT a) (hb : inT b) (hc : inT c) (h : Blk w g #[.int .i64 a.n, .int .i64 a.s0, .int .i64 a.s1, .int .i64 a.s2, .int .i64 a.s3, .int .i64 a.h, .int .i64 b.n, .int .i64 b.s0, .int .i64 b.s1, .int .i64 b.s2, .int .i64 b.s3, .int .i64 b.h, .int .i64 c.n, .int .i64 c.s0, .int .i64 c.s1, .int .i64 c.s2, .int .i64 c.s3, .int .i64 c.h] T) : TRow w (some ⟨g, 0, none⟩) [a, b, c] := by
  have e : ∀ j, w.cell? ⟨g, j, none⟩ = _ := fun j => h.cell j
  intro k hk
  match k, hk with
  | 0, _ => exact ⟨ha, g, 0, rfl, h.lt, e 0, e 1, e 2, e 3, e 4, e 5⟩
  | 1, _ => exact ⟨hb, g, 0, rfl, h.lt, e 6, e 7, e 8, e 9, e 10, e 11⟩
  | 2, _ => exact ⟨hc, g, 0, rfl, h.lt, e 12, e 13, e 14, e 15, e 16, e 17⟩
theorem order7_any (a b c : T6) (w : World) (ha : inT a) (hb : inT b) (hc : inT c) : Calls Try.prog 5 #[tot a, tot b, tot c] w fun e w' => e = .returned (.bool true) ∧ Below w.heap.size w w' := by
  by_cases h : smallT a ∧ smallT b ∧ smallT c
  · obtain ⟨sa, sb, sc⟩ := h
    have e1 : addT a b = (plusT a b, true) := addT_plus a b (by
      obtain ⟨h0, h1, h2, h3, h4, h5⟩ := sa
      obtain ⟨g0, g1, g2, g3, g4, g5⟩ := sb
      unfold is50 at *
      unfold inT inR plusT
      simp only
      omega)
    have hs : inT (plusT a b) := by
      have := addT_in a b
      rw [e1] at this
      exact this
    have e2 := sub_back a b _ ha e1
    have c6 : ∀ w, Calls Try.prog 6 #[tot a, tot b] w fun e w' => e = .returned (twoT (plusT a b, true)) ∧ Below w.heap.size w w' := fun w => by
      have := TAdd_any a b w ha hb
      rwa [e1] at this
    have c7 : ∀ w, Calls Try.prog 7 #[tot (plusT a b), tot b] w fun e w' => e = .returned (twoT (a, true)) ∧ Below w.heap.size w w' := fun w => by
      have := TSub_any (plusT a b) b w hs hb
      rwa [e2] at this
    have sm : ∀ t, smallT t → ∀ w, Calls Try.prog 21 #[tot t] w fun e w' => e = .returned (.bool true) ∧ Below w.heap.size w w' := fun t ht w => by
      have := small_any t w
      rwa [decide_eq_true ht] at this
    refine order7_yes a.n a.s0 a.s1 a.s2 a.s3 a.h b.n b.s0 b.s1 b.s2 b.s3 b.h c.n c.s0 c.s1 c.s2 c.s3 c.h _ _ _ _ _ _ (plusT (plusT a b) c).n (plusT (plusT a b) c).s0 (plusT (plusT a b) c).s1 (plusT (plusT a b) c).s2 (plusT (plusT a b) c).s3 (plusT (plusT a b) c).h _ _ _ _ w (ord3 a b c sa sb sc) c6 c7 (sm a sa) (sm b sb) (sm c sc) (fun w => order_any a w) (fun w => order_any b w) (fun w => order_any c w) (fun w => order_any (plusT (plusT a b) c) w) ?_ ?_
    · intro w g T hg
      have := sum_walk (some ⟨g, 0, none⟩) 3 [a, b, c] w (by simp) (trow3 a b c ha hb hc hg)
      rwa [sum3 a b c sa sb sc] at this
    · intro w g T hg
      have := sum_walk (some ⟨g, 0, none⟩) 3 [c, a, b] w (by simp) (trow3 c a b hc ha hb hg)
      rwa [sum3 c a b sc sa sb, plus_turn] at this
  · refine order7_no a.n a.s0 a.s1 a.s2 a.s3 a.h b.n b.s0 b.s1 b.s2 b.s3 b.h c.n c.s0 c.s1 c.s2 c.s3 c.h (addT a b).1.n (addT a b).1.s0 (addT a b).1.s1 (addT a b).1.s2 (addT a b).1.s3 (addT a b).1.h (subT (addT a b).1 b).1.n (subT (addT a b).1 b).1.s0 (subT (addT a b).1 b).1.s1 (subT (addT a b).1 b).1.s2 (subT (addT a b).1 b).1.s3 (subT (addT a b).1 b).1.h (addT a b).2 (subT (addT a b).1 b).2 _ _ _ w ?_ ?_ (fun w => TAdd_any a b w ha hb) (fun w => TSub_any _ b w (addT_in a b) hb) (fun w => small_any a w) (fun w => small_any b w) (fun w => small_any c w)
    · intro hf
      rw [sub_back a b (addT a b).1 ha (Prod.ext rfl hf)]
      exact ⟨rfl, rfl, rfl, rfl, rfl, rfl, rfl⟩
    · by_cases sa : smallT a
      · by_cases sb : smallT b
        · have sc : ¬ smallT c := fun sc => h ⟨sa, sb, sc⟩
          simp [sc]
        · simp [sb]
      · simp [sa]
theorem totalOrder_walk (a0 : Int) (ha0 : (Lit.int .i64 a0).wf = true) (a1 : Int) (ha1 : (Lit.int .i64 a1).wf = true) (a2 : Int) (ha2 : (Lit.int .i64 a2).wf = true) (a3 : Int) (ha3 : (Lit.int .i64 a3).wf = true) (a4 : Int) (ha4 : (Lit.int .i64 a4).wf = true) (a5 : Int) (ha5 : (Lit.int .i64 a5).wf = true) (b0 : Int) (hb0 : (Lit.int .i64 b0).wf = true) (b1 : Int) (hb1 : (Lit.int .i64 b1).wf = true) (b2 : Int) (hb2 : (Lit.int .i64 b2).wf = true) (b3 : Int) (hb3 : (Lit.int .i64 b3).wf = true) (b4 : Int) (hb4 : (Lit.int .i64 b4).wf = true) (b5 : Int) (hb5 : (Lit.int .i64 b5).wf = true) (c0 : Int) (hc0 : (Lit.int .i64 c0).wf = true) (c1 : Int) (hc1 : (Lit.int .i64 c1).wf = true) (c2 : Int) (hc2 : (Lit.int .i64 c2).wf = true) (c3 : Int) (hc3 : (Lit.int .i64 c3).wf = true) (c4 : Int) (hc4 : (Lit.int .i64 c4).wf = true) (c5 : Int) (hc5 : (Lit.int .i64 c5).wf = true) (w : World) :
    Calls Try.prog 5 #[.agg #[.int .i64 a0, .int .i64 a1, .int .i64 a2, .int .i64 a3, .int .i64 a4, .int .i64 a5], .agg #[.int .i64 b0, .int .i64 b1, .int .i64 b2, .int .i64 b3, .int .i64 b4, .int .i64 b5], .agg #[.int .i64 c0, .int .i64 c1, .int .i64 c2, .int .i64 c3, .int .i64 c4, .int .i64 c5]] w fun e w' => e = .returned (.bool true) ∧ Below w.heap.size w w' :=
  order7_any ⟨a0, a1, a2, a3, a4, a5⟩ ⟨b0, b1, b2, b3, b4, b5⟩ ⟨c0, c1, c2, c3, c4, c5⟩ w ⟨wfR' ha0, wfR' ha1, wfR' ha2, wfR' ha3, wfR' ha4, wfR' ha5⟩ ⟨wfR' hb0, wfR' hb1, wfR' hb2, wfR' hb3, wfR' hb4, wfR' hb5⟩ ⟨wfR' hc0, wfR' hc1, wfR' hc2, wfR' hc3, wfR' hc4, wfR' hc5⟩
end Go.Proofs.Ytaeglilffbdlkaa
