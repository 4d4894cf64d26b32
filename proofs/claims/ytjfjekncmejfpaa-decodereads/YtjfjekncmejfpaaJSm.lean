/- '==' and '!=' of items, floats and geometries. The same lists: items, notes, floats, of package slices and the document's. -/
import Derived.Test.YtjfjekncmejfpaaJSnp
import Derived.Test.YtjfjekncmejfpaaNSame
namespace Go.Proofs.Ytjfjekncmejfpaa
open Go.RowKit
set_option maxRecDepth 20000
set_option linter.unusedVariables false
set_option linter.unusedSimpArgs false

theorem run_neq_F (x y : F3) (w : World) : Sem.run Try.prog (binOp .neq 90 (.agg #[.int .i64 x.c, .int .i64 x.h, .int .i64 x.p]) (.agg #[.int .i64 y.c, .int .i64 y.h, .int .i64 y.p])) w = .ok (.bool (!isB (x = y))) w := by
  obtain ⟨a0, a1, a2⟩ := x
  obtain ⟨b0, b1, b2⟩ := y
  by_cases h : (⟨a0, a1, a2⟩ : F3) = ⟨b0, b1, b2⟩
  · rw [isB_yes h]
    injection h with h0 h1 h2
    subst h0 h1 h2
    simp [go_sem]
  · rw [isB_no h]
    simp only [F3.mk.injEq] at h
    simp [go_sem]
    intro e0 e1 e2
    exact h ⟨e0, e1, e2⟩
set_option maxHeartbeats 1000000 in
theorem run_neq_I (x y : I7) (w : World) : Sem.run Try.prog (binOp .neq 49 (.agg #[.int .i64 x.k, .int .i64 x.h, .int .i64 x.f, .int .i64 x.s, .int .i64 x.o, .int .i64 x.r, .int .i64 x.n]) (.agg #[.int .i64 y.k, .int .i64 y.h, .int .i64 y.f, .int .i64 y.s, .int .i64 y.o, .int .i64 y.r, .int .i64 y.n])) w = .ok (.bool (!isB (x = y))) w := by
  obtain ⟨a0, a1, a2, a3, a4, a5, a6⟩ := x
  obtain ⟨b0, b1, b2, b3, b4, b5, b6⟩ := y
  by_cases h : (⟨a0, a1, a2, a3, a4, a5, a6⟩ : I7) = ⟨b0, b1, b2, b3, b4, b5, b6⟩
  · rw [isB_yes h]
    injection h with h0 h1 h2 h3 h4 h5 h6
    subst h0 h1 h2 h3 h4 h5 h6
    simp [go_sem]
  · rw [isB_no h]
    simp only [I7.mk.injEq] at h
    simp [go_sem]
    intro e0 e1 e2 e3 e4 e5 e6
    exact h ⟨e0, e1, e2, e3, e4, e5, e6⟩
set_option maxHeartbeats 4000000 in
theorem run_eql_G (x y : G19) (w : World) : Sem.run Try.prog (binOp .eql 26 (.agg (geoC x)) (.agg (geoC y))) w = .ok (.bool (isB (x = y))) w := by
  obtain ⟨a0, a1, a2, a3, a4, a5, a6, a7, a8, a9, a10, a11, a12, a13, a14, a15, a16, a17, a18⟩ := x
  obtain ⟨b0, b1, b2, b3, b4, b5, b6, b7, b8, b9, b10, b11, b12, b13, b14, b15, b16, b17, b18⟩ := y
  by_cases h : (⟨a0, a1, a2, a3, a4, a5, a6, a7, a8, a9, a10, a11, a12, a13, a14, a15, a16, a17, a18⟩ : G19) = ⟨b0, b1, b2, b3, b4, b5, b6, b7, b8, b9, b10, b11, b12, b13, b14, b15, b16, b17, b18⟩
  · rw [isB_yes h]
    injection h with h0 h1 h2 h3 h4 h5 h6 h7 h8 h9 h10 h11 h12 h13 h14 h15 h16 h17 h18
    subst h0 h1 h2 h3 h4 h5 h6 h7 h8 h9 h10 h11 h12 h13 h14 h15 h16 h17 h18
    unfold geoC
    simp [go_sem]
  · rw [isB_no h]
    simp only [G19.mk.injEq] at h
    unfold geoC
    simp [go_sem]
    intro e0 e1 e2 e3 e4 e5 e6 e7 e8 e9 e10 e11 e12 e13 e14 e15 e16 e17 e18
    exact h ⟨e0, e1, e2, e3, e4, e5, e6, e7, e8, e9, e10, e11, e12, e13, e14, e15, e16, e17, e18⟩
theorem list_ext {α : Type} {l m : List α} (d : α) (h : l.length = m.length) (hp : ∀ k, k < l.length → l.getD k d = m.getD k d) : l = m := List.ext_getElem? fun k => by
  rcases Nat.lt_or_ge k l.length with h1 | h1
  · have := hp k h1
    have h' : k < m.length := by omega
    simpa [h1, h'] using this
  · rw [List.getElem?_eq_none h1, List.getElem?_eq_none (by omega)]
theorem getD_snoc4 {α : Type} {l m : List α} {d : α} {k : Nat} (hp : ∀ j, j < k → l.getD j d = m.getD j d) (h : l.getD k d = m.getD k d) : ∀ j, j < k + 1 → l.getD j d = m.getD j d := fun j hj => by
  rcases Nat.lt_or_ge j k with h1 | h1
  · exact hp j h1
  · obtain rfl : j = k := by omega
    exact h
end Go.Proofs.Ytjfjekncmejfpaa
namespace Go.Proofs.Ytjfjekncmejfpaa
open Go.RowKit
set_option maxRecDepth 20000
set_option linter.unusedVariables false
set_option linter.unusedSimpArgs false

theorem els7 {w : World} {a : Option Addr} {n : Nat} {F : Nat → I7} (h : Els 7 encI w a n F) {k : Nat} (hk : k < n) : ∃ b off, a = some ⟨b, off, none⟩ ∧ b < w.heap.size ∧ w.cell? ⟨b, off + k * 7, none⟩ = some (.int .i64 (F k).k) ∧ w.cell? ⟨b, off + k * 7 + 1, none⟩ = some (.int .i64 (F k).h) ∧ w.cell? ⟨b, off + k * 7 + 2, none⟩ = some (.int .i64 (F k).f) ∧ w.cell? ⟨b, off + k * 7 + 3, none⟩ = some (.int .i64 (F k).s) ∧ w.cell? ⟨b, off + k * 7 + 4, none⟩ = some (.int .i64 (F k).o) ∧ w.cell? ⟨b, off + k * 7 + 5, none⟩ = some (.int .i64 (F k).r) ∧ w.cell? ⟨b, off + k * 7 + 6, none⟩ = some (.int .i64 (F k).n) := by
  obtain ⟨b, off, rfl, hb, h0⟩ := h k 0 hk (by omega)
  have each : ∀ j, j < 7 → w.cell? ⟨b, off + k * 7 + j, none⟩ = (encI (F k))[j]? := fun j hj => by
    obtain ⟨b', off', e, _, hc⟩ := h k j hk hj
    cases e
    rw [Nat.add_assoc]
    exact hc
  exact ⟨b, off, rfl, hb, each 0 (by omega), each 1 (by omega), each 2 (by omega), each 3 (by omega), each 4 (by omega), each 5 (by omega), each 6 (by omega)⟩
theorem els3 {w : World} {a : Option Addr} {n : Nat} {F : Nat → F3} (h : Els 3 encF w a n F) {k : Nat} (hk : k < n) : ∃ b off, a = some ⟨b, off, none⟩ ∧ b < w.heap.size ∧ w.cell? ⟨b, off + k * 3, none⟩ = some (.int .i64 (F k).c) ∧ w.cell? ⟨b, off + k * 3 + 1, none⟩ = some (.int .i64 (F k).h) ∧ w.cell? ⟨b, off + k * 3 + 2, none⟩ = some (.int .i64 (F k).p) := by
  obtain ⟨b, off, rfl, hb, h0⟩ := h k 0 hk (by omega)
  have each : ∀ j, j < 3 → w.cell? ⟨b, off + k * 3 + j, none⟩ = (encF (F k))[j]? := fun j hj => by
    obtain ⟨b', off', e, _, hc⟩ := h k j hk hj
    cases e
    rw [Nat.add_assoc]
    exact hc
  exact ⟨b, off, rfl, hb, each 0 (by omega), each 1 (by omega), each 2 (by omega)⟩
theorem els2 {w : World} {a : Option Addr} {n : Nat} {F : Nat → H2} (h : Els 2 encH w a n F) {k : Nat} (hk : k < n) : ∃ b off, a = some ⟨b, off, none⟩ ∧ b < w.heap.size ∧ w.cell? ⟨b, off + k * 2, none⟩ = some (.slice (F k).la (F k).ll (F k).lc) ∧ w.cell? ⟨b, off + k * 2 + 1, none⟩ = some (.slice (F k).pa (F k).pl (F k).pc) := by
  obtain ⟨b, off, rfl, hb, h0⟩ := h k 0 hk (by omega)
  have each : ∀ j, j < 2 → w.cell? ⟨b, off + k * 2 + j, none⟩ = (encH (F k))[j]? := fun j hj => by
    obtain ⟨b', off', e, _, hc⟩ := h k j hk hj
    cases e
    rw [Nat.add_assoc]
    exact hc
  exact ⟨b, off, rfl, hb, each 0 (by omega), each 1 (by omega)⟩
set_option maxHeartbeats 1000000 in
theorem rsame_F (a b : Option Addr) (ca cb : Nat) (l m : List F3) (w : World) (hl : l.length ≤ 1000000) (hm : m.length ≤ 1000000) (ha : Els 3 encF w a l.length fun k => l.getD k zeroF) (hb : Els 3 encF w b m.length fun k => m.getD k zeroF) :
    Calls Try.prog 21 #[.slice a l.length ca, .slice b m.length cb] w fun e w' => e = .returned (.bool (isB (l = m))) ∧ Below w.heap.size w w' := by
  rcases Nat.decEq l.length m.length with hne | heq
  · rw [isB_no (fun h => hne (by rw [h]))]
    clear ha hb
    go_enter Try.func21, Try.ntmps21
    go_wp2_with fail
    go_ret
    exact ⟨rfl, Below.refl _ _⟩
  · rw [← heq] at hb ⊢
    have HQ := Lib.hid heq
    have HA := Lib.hid ha
    have HB := Lib.hid hb
    clear ha hb heq
    go_enter Try.func21, Try.ntmps21
    go_wp2_with fail
    go_loopw [5] (fun i wr => ∃ k : Nat, k ≤ l.length ∧ i = .int .i64 k ∧ Below w.heap.size w wr ∧ Hid (∀ j, j < k → l.getD j zeroF = m.getD j zeroF)) (fun i _ => l.length - (intOf i).toNat)
    case atStart => exact ⟨0, Nat.zero_le _, rfl, Below.refl _ _, Lib.hid fun j hj => by omega⟩
    case round =>
      obtain ⟨k, hk, rfl, hbl, HP⟩ := hrel
      by_cases hlt : k < l.length
      · obtain ⟨b1, o1, rfl, hB1, p0, p1, p2⟩ := els3 (HA.out.carry hbl) hlt
        obtain ⟨b2, o2, rfl, hB2, q0, q1, q2⟩ := els3 (HB.out.carry hbl) hlt
        have HS := Lib.hid (getD_snoc4 HP.out)
        have HN : Hid (¬ l.getD k zeroF = m.getD k zeroF → isB (l = m) = false) := Lib.hid fun h => isB_no fun e => h (by rw [e])
        generalize l.getD k zeroF = x at *
        generalize m.getD k zeroF = y at *
        have hxy := run_neq_F x y
        by_cases he : x = y
        · rw [isB_yes he] at hxy
          replace HS := Lib.hid (HS.out he)
          clear he HN
          go_wp2_with fail
          go_quiet (fail)
          go_wp2
          go_roundw
          case rel => exact ⟨k + 1, by omega, by go_num, ndrewN hbl _, HS⟩
          case measure => simp [intOf]; omega
        · rw [isB_no he] at hxy
          replace HN := Lib.hid (HN.out he)
          clear he HS
          go_wp2_with fail
          go_quiet (fail)
          go_wp2
          go_ret
          exact ⟨by rw [HN.out]; rfl, ndrewN hbl _⟩
      · have HE : Hid (isB (l = m) = true) := Lib.hid (isB_yes (list_ext zeroF HQ.out fun j hj => HP.out j (by omega)))
        clear HP
        go_wp2
        go_ret
        exact ⟨by rw [HE.out]; rfl, hbl⟩
theorem sameN_isB (x y : N2) : sameN x.l x.p y.l y.p = isB (x = y) := by
  obtain ⟨a, b⟩ := x
  obtain ⟨c, d⟩ := y
  unfold sameN
  dsimp only
  refine (isB_bool ?_).symm
  simp only [N2.mk.injEq, Bool.and_eq_true, decide_eq_true_eq]
theorem rnote_pair {w : World} {h h' : H2} {n n' : N2} (H : NoteOk w h n) (H' : NoteOk w h' n') (hl : n.l.length ≤ 1000000) (hp : n.p.length ≤ 1000000) (hl' : n'.l.length ≤ 1000000) (hp' : n'.p.length ≤ 1000000) :
    Calls Try.prog 48 #[.agg #[.slice h.la h.ll h.lc, .slice h.pa h.pl h.pc], .agg #[.slice h'.la h'.ll h'.lc, .slice h'.pa h'.pl h'.pc]] w fun e w' => e = .returned (.bool (isB (n = n'))) ∧ Below w.heap.size w w' := by
  obtain ⟨h1, h2, _, _, h5, h6⟩ := H
  obtain ⟨g1, g2, _, _, g5, g6⟩ := H'
  have c := rnsame_any h.la h.lc n.l h.pa h.pc n.p h'.la h'.lc n'.l h'.pa h'.pc n'.p w hl hp hl' hp' h5 h6 g5 g6
  rw [sameN_isB] at c
  unfold nte at c
  rw [← h1, ← h2, ← g1, ← g2] at c
  exact c
/-- Notes of at most so many numbers. -/
def Short (l : List N2) : Prop := ∀ k, (l.getD k zeroN).l.length ≤ 1000000 ∧ (l.getD k zeroN).p.length ≤ 1000000
set_option maxHeartbeats 1000000 in
theorem rall_N (a b : Option Addr) (ca cb : Nat) (l m : List N2) (w : World) (hl : l.length ≤ 1000000) (hm : m.length ≤ 1000000) (sl : Short l) (sm : Short m) (ha : NotesAt w a l) (hb : NotesAt w b m) :
    Calls Try.prog 20 #[.slice a l.length ca, .slice b m.length cb] w fun e w' => e = .returned (.bool (isB (l = m))) ∧ Below w.heap.size w w' := by
  rcases Nat.decEq l.length m.length with hne | heq
  · rw [isB_no (fun h => hne (by rw [h]))]
    clear ha hb
    go_enter Try.func20, Try.ntmps20
    go_wp2_with fail
    go_ret
    exact ⟨rfl, Below.refl _ _⟩
  · obtain ⟨ha, hA, hNA⟩ := ha
    obtain ⟨hb, hB, hNB⟩ := hb
    rw [← heq] at hB ⊢
    have HQ := Lib.hid heq
    have HA := Lib.hid hA
    have HB := Lib.hid hB
    have HC := Lib.hid fun (k : Nat) (hk : k < l.length) x (hx : Below w.heap.size w x) => rnote_pair ((hNA k hk).carry hx) ((hNB k (by rw [← heq]; exact hk)).carry hx) (sl k).1 (sl k).2 (sm k).1 (sm k).2
    clear hA hB heq hNA hNB
    go_enter Try.func20, Try.ntmps20
    go_wp2_with fail
    go_loopw [5] (fun i wr => ∃ k : Nat, k ≤ l.length ∧ i = .int .i64 k ∧ Below w.heap.size w wr ∧ Hid (∀ j, j < k → l.getD j zeroN = m.getD j zeroN)) (fun i _ => l.length - (intOf i).toNat)
    case atStart => exact ⟨0, Nat.zero_le _, rfl, Below.refl _ _, Lib.hid fun j hj => by omega⟩
    case round =>
      obtain ⟨k, hk, rfl, hbl, HP⟩ := hrel
      by_cases hlt : k < l.length
      · obtain ⟨b1, o1, rfl, hB1, p0, p1⟩ := els2 (HA.out.carry hbl) hlt
        obtain ⟨b2, o2, rfl, hB2, q0, q1⟩ := els2 (HB.out.carry hbl) hlt
        have HS := Lib.hid (getD_snoc4 HP.out)
        have HN : Hid (¬ l.getD k zeroN = m.getD k zeroN → isB (l = m) = false) := Lib.hid fun h => isB_no fun e => h (by rw [e])
        have c := Lib.hid fun x (hx : Old wr x) => HC.out k hlt x (tstep hbl hx hbl.size)
        have CE := Lib.hid fun x (hx : Old wr x) => And.intro ((hx.cell (p := ⟨b1, o1 + k * 2, none⟩) hB1).trans p0) (And.intro ((hx.cell (p := ⟨b1, o1 + k * 2 + 1, none⟩) hB1).trans p1) (And.intro ((hx.cell (p := ⟨b2, o2 + k * 2, none⟩) hB2).trans q0) ((hx.cell (p := ⟨b2, o2 + k * 2 + 1, none⟩) hB2).trans q1)))
        generalize l.getD k zeroN = x at *
        generalize m.getD k zeroN = y at *
        go_wp2_with fail
        (refine wp_region_text (Old wr) 9 (by kernel_rfl) (by kernel_rfl) (Below.refl _ wr).drew ?_; simp only [List.take_succ_cons, List.take_zero, List.drop_succ_cons, List.drop_zero])
        repeat (first | (apply Text.sees (hw := by kernel_rfl); (focus (intro x hx K hK; have hc := CE.out x hx; go_simp; exact hK)); simp only [Act.put, List.getElem_toArray, List.getElem_cons_succ, List.getElem_cons_zero, List.setIfInBounds_toArray, List.set_cons_zero, List.set_cons_succ]) | (apply Text.idle; (focus (intro x hx K hK; go_simp; exact hK)); simp only [Act.put, List.getElem_toArray, List.getElem_cons_succ, List.getElem_cons_zero, List.setIfInBounds_toArray, List.set_cons_zero, List.set_cons_succ]))
        (refine Text.call (Old.call fun x hx => c.out x hx) (by kernel_rfl) (fun _ => by kernel_rfl) ?_; simp only [Act.put, List.getElem_toArray, List.getElem_cons_succ, List.getElem_cons_zero, List.setIfInBounds_toArray, List.set_cons_zero, List.set_cons_succ])
        intro z hz
        have hb1 := tstep hbl hz hbl.size
        clear c p0 p1 q0 q1 CE
        by_cases he : x = y
        · rw [isB_yes he]
          replace HS := Lib.hid (HS.out he)
          clear he HN
          go_wp2
          go_roundw
          case rel => exact ⟨k + 1, by omega, by go_num, hb1, HS⟩
          case measure => simp [intOf]; omega
        · rw [isB_no he]
          replace HN := Lib.hid (HN.out he)
          clear he HS
          go_wp2
          go_ret
          exact ⟨by rw [HN.out]; rfl, hb1⟩
      · have HE : Hid (isB (l = m) = true) := Lib.hid (isB_yes (list_ext zeroN HQ.out fun j hj => HP.out j (by omega)))
        clear HP
        go_wp2
        go_ret
        exact ⟨by rw [HE.out]; rfl, hbl⟩
end Go.Proofs.Ytjfjekncmejfpaa
