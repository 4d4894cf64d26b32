/- admits and Check of package item. -/
import Derived.Test.YtinkjpcilpdaaaaIFld
namespace Go.Proofs.Ytinkjpcilpdaaaa
open Go.RowKit
set_option maxRecDepth 20000
set_option linter.unusedVariables false
set_option linter.unusedSimpArgs false

theorem Blk.three {w : World} {g : Nat} {T : TypeId} {v0 v1 v2 : Value} (h : Blk w g #[v0, v1, v2] T) : w.cell? ⟨g, 0, none⟩ = some v0 ∧ w.cell? ⟨g, 1, none⟩ = some v1 ∧ w.cell? ⟨g, 2, none⟩ = some v2 := by
  unfold Blk at h
  simp [World.cell?, h]
theorem adm_yes (x : I7) (v0 : Value) (kv kf : Nat) (z : Bool) (w : World)
    (ci : ∀ w', Below w.heap.size w w' → Calls Try.prog 20 #[itm x, v0] w' fun e w2 => e = .returned (.bool true) ∧ Below w'.heap.size w' w2)
    (cf : ∀ w, Calls Try.prog kf #[itm x] w fun e w' => e = .returned (.bool z) ∧ Below w.heap.size w w')
    (hf : ∀ w, Sem.run Try.prog (callFunc kf #[itm x]) w = .ok (.enter kf #[itm x]) w) :
    Calls Try.prog 18 #[.agg #[v0, .func (.func kv) #[] #[], .func (.func kf) #[] #[]], itm x] w fun e w' => e = .returned (.bool z) ∧ Below w.heap.size w w' := by
  unfold itm at *
  obtain ⟨k, h, f, s, o, r, n⟩ := x
  dsimp only at *
  go_enter Try.func18, Try.ntmps18
  go_wp2_with fail
  refine (ci _ (tbel2 w _ _)).mono ?_
  rintro e w1 ⟨rfl, b1⟩
  have b0 := tstep (tbel2 w _ _) b1 (tbel2 w _ _).size
  have B1 := ((blk_new w _ _).alloc _).old b1
  have B2 := (blk_two w _ _ _).old b1
  obtain ⟨c0, c1, c2⟩ := B1.three
  obtain ⟨d0, d1, d2, d3, d4, d5, d6⟩ := B2.seven
  clear ci b1 B1 B2
  go_wp2_with fail
  refine (cf _).mono ?_
  rintro e w2 ⟨rfl, b2⟩
  go_wp2
  go_ret
  exact ⟨rfl, tstep b0 b2 b0.size⟩
theorem adm_no (x : I7) (v0 : Value) (kv kf : Nat) (z : Int) (w : World)
    (ci : ∀ w', Below w.heap.size w w' → Calls Try.prog 20 #[itm x, v0] w' fun e w2 => e = .returned (.bool false) ∧ Below w'.heap.size w' w2)
    (cf : ∀ w, Calls Try.prog kv #[itm x] w fun e w' => e = .returned (.int .i64 z) ∧ Below w.heap.size w w')
    (hf : ∀ w, Sem.run Try.prog (callFunc kv #[itm x]) w = .ok (.enter kv #[itm x]) w) :
    Calls Try.prog 18 #[.agg #[v0, .func (.func kv) #[] #[], .func (.func kf) #[] #[]], itm x] w fun e w' => e = .returned (.bool (z == 0)) ∧ Below w.heap.size w w' := by
  unfold itm at *
  obtain ⟨k, h, f, s, o, r, n⟩ := x
  dsimp only at *
  go_enter Try.func18, Try.ntmps18
  go_wp2_with fail
  refine (ci _ (tbel2 w _ _)).mono ?_
  rintro e w1 ⟨rfl, b1⟩
  have b0 := tstep (tbel2 w _ _) b1 (tbel2 w _ _).size
  have B1 := ((blk_new w _ _).alloc _).old b1
  have B2 := (blk_two w _ _ _).old b1
  obtain ⟨c0, c1, c2⟩ := B1.three
  obtain ⟨d0, d1, d2, d3, d4, d5, d6⟩ := B2.seven
  clear ci b1 B1 B2
  go_wp2_with fail
  refine (cf _).mono ?_
  rintro e w2 ⟨rfl, b2⟩
  go_wp2
  go_ret
  exact ⟨rfl, tstep b0 b2 b0.size⟩
/-- Does a field with these kinds, this value and this answer admit an item of kind k? -/
def admR (l : List Int) (k v : Int) (z : Bool) : Bool := bif hasK l k then z else v == 0
theorem adm_any (x : I7) (a : Option Addr) (cap : Nat) (l : List Int) (kv kf : Nat) (v : Int) (z : Bool) (w : World) (hn : l.length ≤ 1000000) (hr : IRow w.heap.size w a l)
    (cv : ∀ w, Calls Try.prog kv #[itm x] w fun e w' => e = .returned (.int .i64 v) ∧ Below w.heap.size w w')
    (cf : ∀ w, Calls Try.prog kf #[itm x] w fun e w' => e = .returned (.bool z) ∧ Below w.heap.size w w')
    (hv : ∀ w, Sem.run Try.prog (callFunc kv #[itm x]) w = .ok (.enter kv #[itm x]) w)
    (hf : ∀ w, Sem.run Try.prog (callFunc kf #[itm x]) w = .ok (.enter kf #[itm x]) w) :
    Calls Try.prog 18 #[.agg #[.slice a l.length cap, .func (.func kv) #[] #[], .func (.func kf) #[] #[]], itm x] w fun e w' => e = .returned (.bool (admR l x.k v z)) ∧ Below w.heap.size w w' := by
  have ci := fun w' (h : Below w.heap.size w w') => is_any x a cap l w' hn ((hr.carry h (Nat.le_refl _)).mono h.size)
  unfold admR
  cases hh : hasK l x.k
  · rw [hh] at ci
    exact adm_no x _ kv kf v w ci cv hv
  · rw [hh] at ci
    exact adm_yes x _ kv kf z w ci cf hf

/-- Six fields lie in block g; field k answers q k of the item x. -/
def FldAt (x : I7) (q : Nat → Bool) (w : World) (g : Nat) : Prop :=
  ∀ k, k < 6 → ∃ (a : Option Addr) (n c kv kf : Nat), w.cell? ⟨g, k * 3, none⟩ = some (.slice a n c) ∧ w.cell? ⟨g, k * 3 + 1, none⟩ = some (.func (.func kv) #[] #[]) ∧ w.cell? ⟨g, k * 3 + 2, none⟩ = some (.func (.func kf) #[] #[]) ∧
    ∀ w', Below w.heap.size w w' → Calls Try.prog 18 #[.agg #[.slice a n c, .func (.func kv) #[] #[], .func (.func kf) #[] #[]], itm x] w' fun e w2 => e = .returned (.bool (q k)) ∧ Below w'.heap.size w' w2
/-- Do the first m fields admit it? -/
def chkQ (q : Nat → Bool) : Nat → Bool
  | 0 => true
  | m + 1 => chkQ q m && q m
theorem chkQ_no {q : Nat → Bool} {j m : Nat} (h : j < m) (hq : q j = false) : chkQ q m = false := by
  induction m with
  | zero => omega
  | succ m ih =>
    unfold chkQ
    by_cases e : j = m
    · rw [← e, hq, Bool.and_false]
    · rw [ih (by omega), Bool.false_and]
theorem check_walk (x : I7) (q : Nat → Bool) (g : Nat) (w : World) (hk : 1 ≤ x.k ∧ x.k ≤ 7)
    (c : ∀ w', Below w.heap.size w w' → Calls Try.prog 17 #[] w' fun e w2 => ∃ g, g < w2.heap.size ∧ e = .returned (.slice (some ⟨g, 0, none⟩) 6 6) ∧ Below w'.heap.size w' w2 ∧ FldAt x q w2 g) :
    Calls Try.prog 6 #[itm x] w fun e w' => e = .returned (.int .i64 (bif chkQ q 6 then 0 else 8)) ∧ Below w.heap.size w w' := by
  unfold itm
  obtain ⟨k, h, f, s, o, r, n⟩ := x
  obtain ⟨hk1, hk2⟩ := hk
  dsimp only at *
  go_enter Try.func6, Try.ntmps6
  go_wp2_with fail
  refine (c _ (tbel1 w _)).mono ?_
  rintro e w1 ⟨g, hg, rfl, b1, F⟩
  have b0 := tstep (tbel1 w _) b1 (tbel1 w _).size
  have B1 := (blk_new w _ _).old b1
  clear c b1
  go_wp2_with fail
  go_loopw [15] (fun i wr => ∃ j : Nat, j ≤ 6 ∧ i = .int .i64 j ∧ Below w1.heap.size w1 wr ∧ Hid (chkQ q j = true)) (fun i _ => 6 - (intOf i).toNat)
  case atStart => exact ⟨0, Nat.zero_le _, rfl, Below.refl _ _, Lib.hid rfl⟩
  case round =>
    obtain ⟨j, hj, rfl, bw, HQ⟩ := hrel
    by_cases hlt : j < 6
    · obtain ⟨a, len, cap, kv, kf, c0, c1, c2, C⟩ := F j hlt
      replace c0 := (bw.cell (p := ⟨g, j * 3, none⟩) hg).trans c0
      replace c1 := (bw.cell (p := ⟨g, j * 3 + 1, none⟩) hg).trans c1
      replace c2 := (bw.cell (p := ⟨g, j * 3 + 2, none⟩) hg).trans c2
      replace B1 := B1.old bw
      obtain ⟨d0, d1, d2, d3, d4, d5, d6⟩ := B1.seven
      have hlt1 := B1.lt
      have HF := Lib.hid F
      clear F B1
      go_wp2_with fail
      refine (C _ (bw.trans ((tbel1 wr _).mono bw.size))).mono ?_
      rintro e w2 ⟨rfl, b2⟩
      have b3 := tstep bw (tstep (tbel1 wr _) b2 (tbel1 wr _).size) bw.size
      cases hq : q j
      · have HE := Lib.hid (chkQ_no (m := 6) hlt hq)
        clear hq C HF
        go_wp2
        go_ret
        exact ⟨by rw [HE.out]; rfl, tstep b0 b3 b0.size⟩
      · have HE : Hid (chkQ q (j + 1) = true) := Lib.hid (by unfold chkQ; rw [HQ.out, hq]; rfl)
        clear hq C HF
        go_wp2
        go_roundw
        case rel => exact ⟨j + 1, by omega, by go_num, b3, HE⟩
        case measure => simp [intOf]; omega
    · have e6 : j = 6 := by omega
      subst e6
      clear F
      go_wp2
      go_ret
      exact ⟨by rw [HQ.out]; rfl, tstep b0 bw b0.size⟩
end Go.Proofs.Ytinkjpcilpdaaaa
