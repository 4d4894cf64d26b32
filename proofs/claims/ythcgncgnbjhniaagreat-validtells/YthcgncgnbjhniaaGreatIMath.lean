/- The fields of items: functions in fields, and what they answer. admits and Check of package item. fields and Check of package item: the answers. What Check and the document's Right say, in plain numbers. -/
import Derived.Test.YthcgncgnbjhniaaGreatIIs
import Derived.LoopN
import Derived.Laws.EntriesVeiled
namespace Go.Proofs.YthcgncgnbjhniaaGreat
open Go.RowKit
set_option maxRecDepth 20000
set_option linter.unusedVariables false
set_option linter.unusedSimpArgs false

def btw (a lo hi : Int) : Bool := decide (lo ≤ a) && decide (a ≤ hi)
theorem btw_s (a lo hi : Int) (w : World) : Calls Tryz.prog 66 #[.int .i64 a, .int .i64 lo, .int .i64 hi] w fun e w' => e = .returned (.bool (btw a lo hi)) ∧ w' = w := by
  unfold btw
  by_cases h : lo ≤ a
  · go_enter Tryz.func66, Tryz.ntmps66
    go_wp2
    go_ret
    exact ⟨by simp [h], rfl⟩
  · have h' : decide (lo ≤ a) = false := decide_eq_false h
    rw [h']
    go_enter Tryz.func66, Tryz.ntmps66
    go_wp2
    go_ret
    exact ⟨rfl, rfl⟩
theorem btw_i (a lo hi : Int) (w : World) : Calls Tryz.prog 69 #[.int .i64 a, .int .i64 lo, .int .i64 hi] w fun e w' => e = .returned (.bool (btw a lo hi)) ∧ w' = w := by
  unfold btw
  by_cases h : lo ≤ a
  · go_enter Tryz.func69, Tryz.ntmps69
    go_wp2
    go_ret
    exact ⟨by simp [h], rfl⟩
  · have h' : decide (lo ≤ a) = false := decide_eq_false h
    rw [h']
    go_enter Tryz.func69, Tryz.ntmps69
    go_wp2
    go_ret
    exact ⟨rfl, rfl⟩
theorem val1 (x : I7) (w : World) : Calls Tryz.prog 64 #[itm x] w fun e w' => e = .returned (.int .i64 x.h) ∧ Below w.heap.size w w' := by
  unfold itm
  obtain ⟨k, h, f, s, o, r, n⟩ := x
  go_enter Tryz.func64, Tryz.ntmps64
  go_wp2
  go_ret
  exact ⟨rfl, tbel1 w _⟩
theorem val2 (x : I7) (w : World) : Calls Tryz.prog 67 #[itm x] w fun e w' => e = .returned (.int .i64 x.f) ∧ Below w.heap.size w w' := by
  unfold itm
  obtain ⟨k, h, f, s, o, r, n⟩ := x
  go_enter Tryz.func67, Tryz.ntmps67
  go_wp2
  go_ret
  exact ⟨rfl, tbel1 w _⟩
theorem val3 (x : I7) (w : World) : Calls Tryz.prog 70 #[itm x] w fun e w' => e = .returned (.int .i64 x.s) ∧ Below w.heap.size w w' := by
  unfold itm
  obtain ⟨k, h, f, s, o, r, n⟩ := x
  go_enter Tryz.func70, Tryz.ntmps70
  go_wp2
  go_ret
  exact ⟨rfl, tbel1 w _⟩
theorem val4 (x : I7) (w : World) : Calls Tryz.prog 72 #[itm x] w fun e w' => e = .returned (.int .i64 x.o) ∧ Below w.heap.size w w' := by
  unfold itm
  obtain ⟨k, h, f, s, o, r, n⟩ := x
  go_enter Tryz.func72, Tryz.ntmps72
  go_wp2
  go_ret
  exact ⟨rfl, tbel1 w _⟩
theorem val5 (x : I7) (w : World) : Calls Tryz.prog 74 #[itm x] w fun e w' => e = .returned (.int .i64 x.r) ∧ Below w.heap.size w w' := by
  unfold itm
  obtain ⟨k, h, f, s, o, r, n⟩ := x
  go_enter Tryz.func74, Tryz.ntmps74
  go_wp2
  go_ret
  exact ⟨rfl, tbel1 w _⟩
theorem val6 (x : I7) (w : World) : Calls Tryz.prog 76 #[itm x] w fun e w' => e = .returned (.int .i64 x.n) ∧ Below w.heap.size w w' := by
  unfold itm
  obtain ⟨k, h, f, s, o, r, n⟩ := x
  go_enter Tryz.func76, Tryz.ntmps76
  go_wp2
  go_ret
  exact ⟨rfl, tbel1 w _⟩
theorem fit1 (x : I7) (w : World) : Calls Tryz.prog 65 #[itm x] w fun e w' => e = .returned (.bool (btw x.h 0 1073741823)) ∧ Below w.heap.size w w' := by
  unfold itm
  obtain ⟨k, h, f, s, o, r, n⟩ := x
  have c := btw_s h 0 1073741823
  dsimp only
  generalize btw h 0 1073741823 = z at c ⊢
  go_enter Tryz.func65, Tryz.ntmps65
  go_wp2_with fail
  refine (c _).mono ?_
  rintro e w1 ⟨rfl, rfl⟩
  go_wp2
  go_ret
  exact ⟨rfl, tbel1 w _⟩
theorem fit2 (x : I7) (w : World) : Calls Tryz.prog 68 #[itm x] w fun e w' => e = .returned (.bool (btw x.f 0 3)) ∧ Below w.heap.size w w' := by
  unfold itm
  obtain ⟨k, h, f, s, o, r, n⟩ := x
  have c := btw_i f 0 3
  dsimp only
  generalize btw f 0 3 = z at c ⊢
  go_enter Tryz.func68, Tryz.ntmps68
  go_wp2_with fail
  refine (c _).mono ?_
  rintro e w1 ⟨rfl, rfl⟩
  go_wp2
  go_ret
  exact ⟨rfl, tbel1 w _⟩
theorem fit3 (x : I7) (w : World) : Calls Tryz.prog 71 #[itm x] w fun e w' => e = .returned (.bool (btw x.s 0 1073741823)) ∧ Below w.heap.size w w' := by
  unfold itm
  obtain ⟨k, h, f, s, o, r, n⟩ := x
  have c := btw_s s 0 1073741823
  dsimp only
  generalize btw s 0 1073741823 = z at c ⊢
  go_enter Tryz.func71, Tryz.ntmps71
  go_wp2_with fail
  refine (c _).mono ?_
  rintro e w1 ⟨rfl, rfl⟩
  go_wp2
  go_ret
  exact ⟨rfl, tbel1 w _⟩
theorem fit4 (x : I7) (w : World) : Calls Tryz.prog 73 #[itm x] w fun e w' => e = .returned (.bool (btw x.o 0 3)) ∧ Below w.heap.size w w' := by
  unfold itm
  obtain ⟨k, h, f, s, o, r, n⟩ := x
  have c := btw_i o 0 3
  dsimp only
  generalize btw o 0 3 = z at c ⊢
  go_enter Tryz.func73, Tryz.ntmps73
  go_wp2_with fail
  refine (c _).mono ?_
  rintro e w1 ⟨rfl, rfl⟩
  go_wp2
  go_ret
  exact ⟨rfl, tbel1 w _⟩
theorem fit5 (x : I7) (w : World) : Calls Tryz.prog 75 #[itm x] w fun e w' => e = .returned (.bool (btw x.r 0 (min x.h 1073741823))) ∧ Below w.heap.size w w' := by
  unfold itm
  obtain ⟨k, h, f, s, o, r, n⟩ := x
  dsimp only
  rcases Int.lt_trichotomy h 1073741823 with hm | hm | hm
  · have em : min h 1073741823 = h := by omega
    have c := btw_s r 0 h
    rw [em]
    generalize btw r 0 h = z at c ⊢
    clear em
    go_enter Tryz.func75, Tryz.ntmps75
    go_wp2_with (with_reducible refine (c _).mono ?_; rintro e w1 ⟨rfl, rfl⟩)
    go_ret
    exact ⟨rfl, tbel1 w _⟩
  · subst hm
    have c := btw_s r 0 1073741823
    rw [Int.min_self]
    generalize btw r 0 1073741823 = z at c ⊢
    go_enter Tryz.func75, Tryz.ntmps75
    go_wp2_with (with_reducible refine (c _).mono ?_; rintro e w1 ⟨rfl, rfl⟩)
    go_ret
    exact ⟨rfl, tbel1 w _⟩
  · have em : min h 1073741823 = 1073741823 := by omega
    have c := btw_s r 0 1073741823
    rw [em]
    generalize btw r 0 1073741823 = z at c ⊢
    clear em
    go_enter Tryz.func75, Tryz.ntmps75
    go_wp2_with (with_reducible refine (c _).mono ?_; rintro e w1 ⟨rfl, rfl⟩)
    go_ret
    exact ⟨rfl, tbel1 w _⟩
/-- The N that a kind may have. -/
def numI (k n : Int) : Bool := if k = 3 then decide (n = -10000) || btw n 0 10000 else if k = 4 then btw n 0 1048576 else if k = 5 then btw n 0 511 else btw n 0 255
theorem num_p1 (h f s o r : Int) (w : World) : Calls Tryz.prog 77 #[.agg #[.int .i64 3, .int .i64 h, .int .i64 f, .int .i64 s, .int .i64 o, .int .i64 r, .int .i64 (-10000)]] w fun e w' => e = .returned (.bool true) ∧ Below w.heap.size w w' := by
  go_enter Tryz.func77, Tryz.ntmps77
  go_wp2
  go_ret
  exact ⟨rfl, tbel1 w _⟩
theorem num_p2 (k h f s o r n : Int) (w : World) (hk : k = 3) (hn : n ≠ -10000) : Calls Tryz.prog 77 #[.agg #[.int .i64 k, .int .i64 h, .int .i64 f, .int .i64 s, .int .i64 o, .int .i64 r, .int .i64 n]] w fun e w' => e = .returned (.bool (btw n 0 10000)) ∧ Below w.heap.size w w' := by
  subst hk
  have hn' : (n == -10000) = false := by simpa using hn
  have c := btw_i n 0 10000
  generalize btw n 0 10000 = z at c ⊢
  go_enter Tryz.func77, Tryz.ntmps77
  go_wp2_with (with_reducible refine (c _).mono ?_; rintro e w1 ⟨rfl, rfl⟩)
  go_ret
  exact ⟨rfl, tbel1 w _⟩
theorem num_m (k h f s o r n : Int) (w : World) (hk : k = 4) : Calls Tryz.prog 77 #[.agg #[.int .i64 k, .int .i64 h, .int .i64 f, .int .i64 s, .int .i64 o, .int .i64 r, .int .i64 n]] w fun e w' => e = .returned (.bool (btw n 0 1048576)) ∧ Below w.heap.size w w' := by
  subst hk
  have c := btw_i n 0 1048576
  generalize btw n 0 1048576 = z at c ⊢
  go_enter Tryz.func77, Tryz.ntmps77
  go_wp2_with (with_reducible refine (c _).mono ?_; rintro e w1 ⟨rfl, rfl⟩)
  go_ret
  exact ⟨rfl, tbel1 w _⟩
theorem num_n (k h f s o r n : Int) (w : World) (hk : k = 5) : Calls Tryz.prog 77 #[.agg #[.int .i64 k, .int .i64 h, .int .i64 f, .int .i64 s, .int .i64 o, .int .i64 r, .int .i64 n]] w fun e w' => e = .returned (.bool (btw n 0 511)) ∧ Below w.heap.size w w' := by
  subst hk
  have c := btw_i n 0 511
  generalize btw n 0 511 = z at c ⊢
  go_enter Tryz.func77, Tryz.ntmps77
  go_wp2_with (with_reducible refine (c _).mono ?_; rintro e w1 ⟨rfl, rfl⟩)
  go_ret
  exact ⟨rfl, tbel1 w _⟩
theorem num_f (k h f s o r n : Int) (w : World) (h3 : k ≠ 3) (h4 : k ≠ 4) (h5 : k ≠ 5) : Calls Tryz.prog 77 #[.agg #[.int .i64 k, .int .i64 h, .int .i64 f, .int .i64 s, .int .i64 o, .int .i64 r, .int .i64 n]] w fun e w' => e = .returned (.bool (btw n 0 255)) ∧ Below w.heap.size w w' := by
  have c := btw_i n 0 255
  generalize btw n 0 255 = z at c ⊢
  go_enter Tryz.func77, Tryz.ntmps77
  go_wp2_with (with_reducible refine (c _).mono ?_; rintro e w1 ⟨rfl, rfl⟩)
  go_ret
  exact ⟨rfl, tbel1 w _⟩
theorem fit6 (x : I7) (w : World) : Calls Tryz.prog 77 #[itm x] w fun e w' => e = .returned (.bool (numI x.k x.n)) ∧ Below w.heap.size w w' := by
  unfold itm numI
  obtain ⟨k, h, f, s, o, r, n⟩ := x
  dsimp only
  by_cases h3 : k = 3
  · rw [if_pos h3]
    by_cases hn : n = -10000
    · rw [decide_eq_true hn, hn, h3]
      exact num_p1 h f s o r w
    · rw [decide_eq_false hn, Bool.false_or]
      exact num_p2 k h f s o r n w h3 hn
  · rw [if_neg h3]
    by_cases h4 : k = 4
    · rw [if_pos h4]
      exact num_m k h f s o r n w h4
    · rw [if_neg h4]
      by_cases h5 : k = 5
      · rw [if_pos h5]
        exact num_n k h f s o r n w h5
      · rw [if_neg h5]
        exact num_f k h f s o r n w h3 h4 h5
end Go.Proofs.YthcgncgnbjhniaaGreat
namespace Go.Proofs.YthcgncgnbjhniaaGreat
open Go.RowKit
set_option maxRecDepth 20000
set_option linter.unusedVariables false
set_option linter.unusedSimpArgs false

theorem Blk.three {w : World} {g : Nat} {T : TypeId} {v0 v1 v2 : Value} (h : Blk w g #[v0, v1, v2] T) : w.cell? ⟨g, 0, none⟩ = some v0 ∧ w.cell? ⟨g, 1, none⟩ = some v1 ∧ w.cell? ⟨g, 2, none⟩ = some v2 := by
  unfold Blk at h
  simp [World.cell?, h]
theorem adm_yes (x : I7) (v0 : Value) (kv kf : Nat) (z : Bool) (w : World)
    (ci : ∀ w', Below w.heap.size w w' → Calls Tryz.prog 78 #[itm x, v0] w' fun e w2 => e = .returned (.bool true) ∧ Below w'.heap.size w' w2)
    (cf : ∀ w, Calls Tryz.prog kf #[itm x] w fun e w' => e = .returned (.bool z) ∧ Below w.heap.size w w')
    (hf : ∀ w, Sem.run Tryz.prog (callFunc kf #[itm x]) w = .ok (.enter kf #[itm x]) w) :
    Calls Tryz.prog 45 #[.agg #[v0, .func (.func kv) #[] #[], .func (.func kf) #[] #[]], itm x] w fun e w' => e = .returned (.bool z) ∧ Below w.heap.size w w' := by
  unfold itm at *
  obtain ⟨k, h, f, s, o, r, n⟩ := x
  dsimp only at *
  go_enter Tryz.func45, Tryz.ntmps45
  go_wp2_with fail
  refine (ci _ (tbel2 w _ _)).mono ?_
  rintro e w1 ⟨rfl, b1⟩
  have b0 := tstep (tbel2 w _ _) b1 (tbel2 w _ _).size
  have B1 := ((blk_new w _ _).alloc _).old b1
  have B2 := (blk_two w _ _ _).old b1
  obtain ⟨c0, c1, c2⟩ := B1.three
  obtain ⟨d0, d1, d2, d3, d4, d5, d6⟩ := B2.seven
  clear ci b1 B1 B2
  go_wp2_with fail
  refine (cf _).mono ?_
  rintro e w2 ⟨rfl, b2⟩
  go_wp2
  go_ret
  exact ⟨rfl, tstep b0 b2 b0.size⟩
theorem adm_no (x : I7) (v0 : Value) (kv kf : Nat) (z : Int) (w : World)
    (ci : ∀ w', Below w.heap.size w w' → Calls Tryz.prog 78 #[itm x, v0] w' fun e w2 => e = .returned (.bool false) ∧ Below w'.heap.size w' w2)
    (cf : ∀ w, Calls Tryz.prog kv #[itm x] w fun e w' => e = .returned (.int .i64 z) ∧ Below w.heap.size w w')
    (hf : ∀ w, Sem.run Tryz.prog (callFunc kv #[itm x]) w = .ok (.enter kv #[itm x]) w) :
    Calls Tryz.prog 45 #[.agg #[v0, .func (.func kv) #[] #[], .func (.func kf) #[] #[]], itm x] w fun e w' => e = .returned (.bool (z == 0)) ∧ Below w.heap.size w w' := by
  unfold itm at *
  obtain ⟨k, h, f, s, o, r, n⟩ := x
  dsimp only at *
  go_enter Tryz.func45, Tryz.ntmps45
  go_wp2_with fail
  refine (ci _ (tbel2 w _ _)).mono ?_
  rintro e w1 ⟨rfl, b1⟩
  have b0 := tstep (tbel2 w _ _) b1 (tbel2 w _ _).size
  have B1 := ((blk_new w _ _).alloc _).old b1
  have B2 := (blk_two w _ _ _).old b1
  obtain ⟨c0, c1, c2⟩ := B1.three
  obtain ⟨d0, d1, d2, d3, d4, d5, d6⟩ := B2.seven
  clear ci b1 B1 B2
  go_wp2_with fail
  refine (cf _).mono ?_
  rintro e w2 ⟨rfl, b2⟩
  go_wp2
  go_ret
  exact ⟨rfl, tstep b0 b2 b0.size⟩
/-- Does a field with these kinds, this value and this answer allow an item of kind k? -/
def admR (l : List Int) (k v : Int) (z : Bool) : Bool := bif hasK l k then z else v == 0
theorem adm_any (x : I7) (a : Option Addr) (cap : Nat) (l : List Int) (kv kf : Nat) (v : Int) (z : Bool) (w : World) (hn : l.length ≤ 1000000) (hr : IRow w.heap.size w a l)
    (cv : ∀ w, Calls Tryz.prog kv #[itm x] w fun e w' => e = .returned (.int .i64 v) ∧ Below w.heap.size w w')
    (cf : ∀ w, Calls Tryz.prog kf #[itm x] w fun e w' => e = .returned (.bool z) ∧ Below w.heap.size w w')
    (hv : ∀ w, Sem.run Tryz.prog (callFunc kv #[itm x]) w = .ok (.enter kv #[itm x]) w)
    (hf : ∀ w, Sem.run Tryz.prog (callFunc kf #[itm x]) w = .ok (.enter kf #[itm x]) w) :
    Calls Tryz.prog 45 #[.agg #[.slice a l.length cap, .func (.func kv) #[] #[], .func (.func kf) #[] #[]], itm x] w fun e w' => e = .returned (.bool (admR l x.k v z)) ∧ Below w.heap.size w w' := by
  have ci := fun w' (h : Below w.heap.size w w') => is_any x a cap l w' hn ((hr.carry h (Nat.le_refl _)).mono h.size)
  unfold admR
  cases hh : hasK l x.k
  · rw [hh] at ci
    exact adm_no x _ kv kf v w ci cv hv
  · rw [hh] at ci
    exact adm_yes x _ kv kf z w ci cf hf

/-- Six fields lie in block g; field k answers q k of the item x. -/
def FldAt (x : I7) (q : Nat → Bool) (w : World) (g : Nat) : Prop :=
  ∀ k, k < 6 → ∃ (a : Option Addr) (n c kv kf : Nat), w.cell? ⟨g, k * 3, none⟩ = some (.slice a n c) ∧ w.cell? ⟨g, k * 3 + 1, none⟩ = some (.func (.func kv) #[] #[]) ∧ w.cell? ⟨g, k * 3 + 2, none⟩ = some (.func (.func kf) #[] #[]) ∧
    ∀ w', Below w.heap.size w w' → Calls Tryz.prog 45 #[.agg #[.slice a n c, .func (.func kv) #[] #[], .func (.func kf) #[] #[]], itm x] w' fun e w2 => e = .returned (.bool (q k)) ∧ Below w'.heap.size w' w2
/-- Do the first m fields allow it? -/
def chkQ (q : Nat → Bool) : Nat → Bool
  | 0 => true
  | m + 1 => chkQ q m && q m
theorem chkQ_no {q : Nat → Bool} {j m : Nat} (h : j < m) (hq : q j = false) : chkQ q m = false := by
  induction m with
  | zero => omega
  | succ m ih =>
    unfold chkQ
    by_cases e : j = m
    · rw [← e, hq, Bool.and_false]
    · rw [ih (by omega), Bool.false_and]
theorem check_walk (x : I7) (q : Nat → Bool) (g : Nat) (w : World) (hk : 1 ≤ x.k ∧ x.k ≤ 7)
    (c : ∀ w', Below w.heap.size w w' → Calls Tryz.prog 44 #[] w' fun e w2 => ∃ g, g < w2.heap.size ∧ e = .returned (.slice (some ⟨g, 0, none⟩) 6 6) ∧ Below w'.heap.size w' w2 ∧ FldAt x q w2 g) :
    Calls Tryz.prog 26 #[itm x] w fun e w' => e = .returned (.int .i64 (bif chkQ q 6 then 0 else 8)) ∧ Below w.heap.size w w' := by
  unfold itm
  obtain ⟨k, h, f, s, o, r, n⟩ := x
  obtain ⟨hk1, hk2⟩ := hk
  dsimp only at *
  go_enter Tryz.func26, Tryz.ntmps26
  go_wp2_with fail
  refine (c _ (tbel1 w _)).mono ?_
  rintro e w1 ⟨g, hg, rfl, b1, F⟩
  have b0 := tstep (tbel1 w _) b1 (tbel1 w _).size
  have B1 := (blk_new w _ _).old b1
  clear c b1
  go_wp2_with fail
  go_loopw [15] (fun i wr => ∃ j : Nat, j ≤ 6 ∧ i = .int .i64 j ∧ Below w1.heap.size w1 wr ∧ Hid (chkQ q j = true)) (fun i _ => 6 - (intOf i).toNat)
  case atStart => exact ⟨0, Nat.zero_le _, rfl, Below.refl _ _, Lib.hid rfl⟩
  case round =>
    obtain ⟨j, hj, rfl, bw, HQ⟩ := hrel
    by_cases hlt : j < 6
    · obtain ⟨a, len, cap, kv, kf, c0, c1, c2, C⟩ := F j hlt
      replace c0 := (bw.cell (p := ⟨g, j * 3, none⟩) hg).trans c0
      replace c1 := (bw.cell (p := ⟨g, j * 3 + 1, none⟩) hg).trans c1
      replace c2 := (bw.cell (p := ⟨g, j * 3 + 2, none⟩) hg).trans c2
      replace B1 := B1.old bw
      obtain ⟨d0, d1, d2, d3, d4, d5, d6⟩ := B1.seven
      have hlt1 := B1.lt
      have HF := Lib.hid F
      clear F B1
      go_wp2_with fail
      refine (C _ (bw.trans ((tbel1 wr _).mono bw.size))).mono ?_
      rintro e w2 ⟨rfl, b2⟩
      have b3 := tstep bw (tstep (tbel1 wr _) b2 (tbel1 wr _).size) bw.size
      cases hq : q j
      · have HE := Lib.hid (chkQ_no (m := 6) hlt hq)
        clear hq C HF
        go_wp2
        go_ret
        exact ⟨by rw [HE.out]; rfl, tstep b0 b3 b0.size⟩
      · have HE : Hid (chkQ q (j + 1) = true) := Lib.hid (by unfold chkQ; rw [HQ.out, hq]; rfl)
        clear hq C HF
        go_wp2
        go_roundw
        case rel => exact ⟨j + 1, by omega, by go_num, b3, HE⟩
        case measure => simp [intOf]; omega
    · have e6 : j = 6 := by omega
      subst e6
      clear F
      go_wp2
      go_ret
      exact ⟨by rw [HQ.out]; rfl, tstep b0 bw b0.size⟩
end Go.Proofs.YthcgncgnbjhniaaGreat
namespace Go.Proofs.YthcgncgnbjhniaaGreat
open Go.RowKit
set_option maxRecDepth 20000
set_option linter.unusedVariables false
set_option linter.unusedSimpArgs false

/-- What field k says of x. -/
def qI (x : I7) : Nat → Bool
  | 0 => admR [1, 2] x.k x.h (btw x.h 0 1073741823)
  | 1 => admR [1] x.k x.f (btw x.f 0 3)
  | 2 => admR [2] x.k x.s (btw x.s 0 1073741823)
  | 3 => admR [2] x.k x.o (btw x.o 0 3)
  | 4 => admR [2] x.k x.r (btw x.r 0 (min x.h 1073741823))
  | _ => admR [3, 4, 5, 6] x.k x.n (numI x.k x.n)
/-- May it be? -/
def rightI (x : I7) : Bool := decide (1 ≤ x.k) && decide (x.k ≤ 7) && chkQ (qI x) 6
def checkI (x : I7) : Int := bif rightI x then 0 else 8
theorem blk_four' (w : World) (a b c d : Obj) (cs : Array Value) (T : TypeId) : Blk (((((w.alloc a).alloc b).alloc c).alloc d).alloc (.cells cs T)) (w.heap.size + 1 + 1 + 1 + 1) cs T := by
  have := blk_four (w.alloc a) b c d cs T
  rwa [World.size_alloc] at this
theorem blk_six' (w : World) (a b c d e : Obj) (cs : Array Value) (T : TypeId) : Blk ((((((w.alloc a).alloc b).alloc c).alloc d).alloc e).alloc (.cells cs T)) (w.heap.size + 1 + 1 + 1 + 1 + 1) cs T := by
  have := blk_four' (w.alloc a) b c d e cs T
  rwa [World.size_alloc] at this
theorem blk_seven' (w : World) (a b c d e f : Obj) (cs : Array Value) (T : TypeId) : Blk (((((((w.alloc a).alloc b).alloc c).alloc d).alloc e).alloc f).alloc (.cells cs T)) (w.heap.size + 1 + 1 + 1 + 1 + 1 + 1) cs T := by
  have := blk_six' (w.alloc a) b c d e f cs T
  rwa [World.size_alloc] at this
theorem fields_blk (w : World) : Calls Tryz.prog 44 #[] w fun e w' => e = .returned (.slice (some ⟨w.heap.size + 1 + 1 + 1 + 1 + 1 + 1, 0, none⟩) 6 6) ∧ Below w.heap.size w w' ∧ Blk w' (w.heap.size) #[.int .i64 1, .int .i64 2] 3 ∧ Blk w' (w.heap.size + 1) #[.int .i64 1] 3 ∧ Blk w' (w.heap.size + 1 + 1) #[.int .i64 2] 3 ∧ Blk w' (w.heap.size + 1 + 1 + 1) #[.int .i64 2] 3 ∧ Blk w' (w.heap.size + 1 + 1 + 1 + 1) #[.int .i64 2] 3 ∧ Blk w' (w.heap.size + 1 + 1 + 1 + 1 + 1) #[.int .i64 3, .int .i64 4, .int .i64 5, .int .i64 6] 3 ∧ Blk w' (w.heap.size + 1 + 1 + 1 + 1 + 1 + 1) #[.slice (some ⟨w.heap.size, 0, none⟩) 2 2, .func (.func 64) #[] #[], .func (.func 65) #[] #[], .slice (some ⟨w.heap.size + 1, 0, none⟩) 1 1, .func (.func 67) #[] #[], .func (.func 68) #[] #[], .slice (some ⟨w.heap.size + 1 + 1, 0, none⟩) 1 1, .func (.func 70) #[] #[], .func (.func 71) #[] #[], .slice (some ⟨w.heap.size + 1 + 1 + 1, 0, none⟩) 1 1, .func (.func 72) #[] #[], .func (.func 73) #[] #[], .slice (some ⟨w.heap.size + 1 + 1 + 1 + 1, 0, none⟩) 1 1, .func (.func 74) #[] #[], .func (.func 75) #[] #[], .slice (some ⟨w.heap.size + 1 + 1 + 1 + 1 + 1, 0, none⟩) 4 4, .func (.func 76) #[] #[], .func (.func 77) #[] #[]] 84 := by
  go_enter Tryz.func44, Tryz.ntmps44
  go_wp2
  go_ret
  refine ⟨rfl, ?_, ?_⟩
  · exact (tbel3 w _ _ _).trans ((((((tbel1 _ _).mono (by simp; omega)).alloc (by simp; omega) _).alloc (by simp; omega) _).alloc (by simp; omega) _))
  · exact ⟨((((((blk_new w _ _).alloc _).alloc _).alloc _).alloc _).alloc _).alloc _, (((((blk_two w _ _ _).alloc _).alloc _).alloc _).alloc _).alloc _, ((((blk_three w _ _ _ _).alloc _).alloc _).alloc _).alloc _, (((blk_four w _ _ _ _ _).alloc _).alloc _).alloc _, ((blk_four' w _ _ _ _ _ _).alloc _).alloc _, (blk_six' w _ _ _ _ _ _ _).alloc _, blk_seven' w _ _ _ _ _ _ _ _⟩
theorem row_1 {w : World} {g B : Nat} {T : TypeId} {a : Int} (h : Blk w g #[.int .i64 a] T) (hB : g < B) (ha : inR a) : IRow B w (some ⟨g, 0, none⟩) [a] := fun k hk => by
  have : k = 0 := by simp at hk; exact hk
  subst this
  exact ⟨ha, g, 0, rfl, hB, h.cell 0⟩
theorem row_2 {w : World} {g B : Nat} {T : TypeId} {a b : Int} (h : Blk w g #[.int .i64 a, .int .i64 b] T) (hB : g < B) (ha : inR a) (hb : inR b) : IRow B w (some ⟨g, 0, none⟩) [a, b] := fun k hk => by
  have hk : k = 0 ∨ k = 1 := by simp at hk; omega
  rcases hk with rfl | rfl
  · exact ⟨ha, g, 0, rfl, hB, h.cell 0⟩
  · exact ⟨hb, g, 0, rfl, hB, h.cell 1⟩
theorem row_4 {w : World} {g B : Nat} {T : TypeId} {a b c d : Int} (h : Blk w g #[.int .i64 a, .int .i64 b, .int .i64 c, .int .i64 d] T) (hB : g < B) (ha : inR a) (hb : inR b) (hc : inR c) (hd : inR d) : IRow B w (some ⟨g, 0, none⟩) [a, b, c, d] := fun k hk => by
  have hk : k = 0 ∨ k = 1 ∨ k = 2 ∨ k = 3 := by simp at hk; omega
  rcases hk with rfl | rfl | rfl | rfl
  · exact ⟨ha, g, 0, rfl, hB, h.cell 0⟩
  · exact ⟨hb, g, 0, rfl, hB, h.cell 1⟩
  · exact ⟨hc, g, 0, rfl, hB, h.cell 2⟩
  · exact ⟨hd, g, 0, rfl, hB, h.cell 3⟩
theorem fields_any (x : I7) (w : World) : Calls Tryz.prog 44 #[] w fun e w2 => ∃ g, g < w2.heap.size ∧ e = .returned (.slice (some ⟨g, 0, none⟩) 6 6) ∧ Below w.heap.size w w2 ∧ FldAt x (qI x) w2 g := by
  refine (fields_blk w).mono ?_
  rintro e w2 ⟨rfl, hb, B0, B1, B2, B3, B4, B5, B6⟩
  refine ⟨_, B6.lt, rfl, hb, fun k hk => ?_⟩
  have hk : k = 0 ∨ k = 1 ∨ k = 2 ∨ k = 3 ∨ k = 4 ∨ k = 5 := by omega
  rcases hk with rfl | rfl | rfl | rfl | rfl | rfl
  · exact ⟨_, _, _, _, _, B6.cell 0, B6.cell 1, B6.cell 2, fun w' h => adm_any x _ 2 [1, 2] 64 65 x.h (btw x.h 0 1073741823) w' (by simp) ((row_2 (B0.old h) (Nat.lt_of_lt_of_le B0.lt h.size) (by unfold inR; omega) (by unfold inR; omega))) (val1 x) (fit1 x) (fun w => by kernel_rfl) (fun w => by kernel_rfl)⟩
  · exact ⟨_, _, _, _, _, B6.cell 3, B6.cell 4, B6.cell 5, fun w' h => adm_any x _ 1 [1] 67 68 x.f (btw x.f 0 3) w' (by simp) ((row_1 (B1.old h) (Nat.lt_of_lt_of_le B1.lt h.size) (by unfold inR; omega))) (val2 x) (fit2 x) (fun w => by kernel_rfl) (fun w => by kernel_rfl)⟩
  · exact ⟨_, _, _, _, _, B6.cell 6, B6.cell 7, B6.cell 8, fun w' h => adm_any x _ 1 [2] 70 71 x.s (btw x.s 0 1073741823) w' (by simp) ((row_1 (B2.old h) (Nat.lt_of_lt_of_le B2.lt h.size) (by unfold inR; omega))) (val3 x) (fit3 x) (fun w => by kernel_rfl) (fun w => by kernel_rfl)⟩
  · exact ⟨_, _, _, _, _, B6.cell 9, B6.cell 10, B6.cell 11, fun w' h => adm_any x _ 1 [2] 72 73 x.o (btw x.o 0 3) w' (by simp) ((row_1 (B3.old h) (Nat.lt_of_lt_of_le B3.lt h.size) (by unfold inR; omega))) (val4 x) (fit4 x) (fun w => by kernel_rfl) (fun w => by kernel_rfl)⟩
  · exact ⟨_, _, _, _, _, B6.cell 12, B6.cell 13, B6.cell 14, fun w' h => adm_any x _ 1 [2] 74 75 x.r (btw x.r 0 (min x.h 1073741823)) w' (by simp) ((row_1 (B4.old h) (Nat.lt_of_lt_of_le B4.lt h.size) (by unfold inR; omega))) (val5 x) (fit5 x) (fun w => by kernel_rfl) (fun w => by kernel_rfl)⟩
  · exact ⟨_, _, _, _, _, B6.cell 15, B6.cell 16, B6.cell 17, fun w' h => adm_any x _ 4 [3, 4, 5, 6] 76 77 x.n (numI x.k x.n) w' (by simp) ((row_4 (B5.old h) (Nat.lt_of_lt_of_le B5.lt h.size) (by unfold inR; omega) (by unfold inR; omega) (by unfold inR; omega) (by unfold inR; omega))) (val6 x) (fit6 x) (fun w => by kernel_rfl) (fun w => by kernel_rfl)⟩
theorem check_out (k h f s o r n : Int) (w : World) (hk : k < 1 ∨ 7 < k) : Calls Tryz.prog 26 #[.agg #[.int .i64 k, .int .i64 h, .int .i64 f, .int .i64 s, .int .i64 o, .int .i64 r, .int .i64 n]] w fun e w' => e = .returned (.int .i64 8) ∧ Below w.heap.size w w' := by
  by_cases h1 : k < 1
  · go_enter Tryz.func26, Tryz.ntmps26
    go_wp2
    go_ret
    exact ⟨rfl, tbel1 w _⟩
  · have h7 : 7 < k := by omega
    clear hk
    go_enter Tryz.func26, Tryz.ntmps26
    go_wp2
    go_ret
    exact ⟨rfl, tbel1 w _⟩
theorem check_any (x : I7) (w : World) : Calls Tryz.prog 26 #[itm x] w fun e w' => e = .returned (.int .i64 (checkI x)) ∧ Below w.heap.size w w' := by
  by_cases hk : 1 ≤ x.k ∧ x.k ≤ 7
  · have e : checkI x = bif chkQ (qI x) 6 then 0 else 8 := by unfold checkI rightI; rw [decide_eq_true hk.1, decide_eq_true hk.2]; rfl
    rw [e]
    exact check_walk x (qI x) 0 w hk fun w' _ => fields_any x w'
  · have e : checkI x = 8 := by
      unfold checkI rightI
      by_cases h1 : 1 ≤ x.k
      · rw [decide_eq_false (p := x.k ≤ 7) (fun h => hk ⟨h1, h⟩), Bool.and_false, Bool.false_and]; rfl
      · rw [decide_eq_false h1, Bool.false_and, Bool.false_and]; rfl
    rw [e]
    exact check_out x.k x.h x.f x.s x.o x.r x.n w (by omega)
end Go.Proofs.YthcgncgnbjhniaaGreat
namespace Go.Proofs.YthcgncgnbjhniaaGreat
open Go.RowKit
set_option linter.unusedVariables false
set_option linter.unusedSimpArgs false

theorem right_1 (h f s o r n : Int) : rightI ⟨1, h, f, s, o, r, n⟩ = decide (0 ≤ h ∧ h ≤ 1073741823 ∧ 0 ≤ f ∧ f ≤ 3 ∧ s = 0 ∧ o = 0 ∧ r = 0 ∧ n = 0) := by
  rw [Bool.eq_iff_iff]
  simp [rightI, chkQ, qI, admR, hasK, numI, btw]
  omega
theorem right_2 (h f s o r n : Int) : rightI ⟨2, h, f, s, o, r, n⟩ = decide (0 ≤ h ∧ h ≤ 1073741823 ∧ f = 0 ∧ 0 ≤ s ∧ s ≤ 1073741823 ∧ 0 ≤ o ∧ o ≤ 3 ∧ 0 ≤ r ∧ r ≤ h ∧ r ≤ 1073741823 ∧ n = 0) := by
  rw [Bool.eq_iff_iff]
  simp [rightI, chkQ, qI, admR, hasK, numI, btw]
  omega
theorem right_3 (h f s o r n : Int) : rightI ⟨3, h, f, s, o, r, n⟩ = decide (h = 0 ∧ f = 0 ∧ s = 0 ∧ o = 0 ∧ r = 0 ∧ (n = -10000 ∨ 0 ≤ n ∧ n ≤ 10000)) := by
  rw [Bool.eq_iff_iff]
  simp [rightI, chkQ, qI, admR, hasK, numI, btw]
  omega
theorem right_4 (h f s o r n : Int) : rightI ⟨4, h, f, s, o, r, n⟩ = decide (h = 0 ∧ f = 0 ∧ s = 0 ∧ o = 0 ∧ r = 0 ∧ 0 ≤ n ∧ n ≤ 1048576) := by
  rw [Bool.eq_iff_iff]
  simp [rightI, chkQ, qI, admR, hasK, numI, btw]
  omega
theorem right_5 (h f s o r n : Int) : rightI ⟨5, h, f, s, o, r, n⟩ = decide (h = 0 ∧ f = 0 ∧ s = 0 ∧ o = 0 ∧ r = 0 ∧ 0 ≤ n ∧ n ≤ 511) := by
  rw [Bool.eq_iff_iff]
  simp [rightI, chkQ, qI, admR, hasK, numI, btw]
  omega
theorem right_6 (h f s o r n : Int) : rightI ⟨6, h, f, s, o, r, n⟩ = decide (h = 0 ∧ f = 0 ∧ s = 0 ∧ o = 0 ∧ r = 0 ∧ 0 ≤ n ∧ n ≤ 255) := by
  rw [Bool.eq_iff_iff]
  simp [rightI, chkQ, qI, admR, hasK, numI, btw]
  omega
theorem right_7 (h f s o r n : Int) : rightI ⟨7, h, f, s, o, r, n⟩ = decide (h = 0 ∧ f = 0 ∧ s = 0 ∧ o = 0 ∧ r = 0 ∧ n = 0) := by
  rw [Bool.eq_iff_iff]
  simp [rightI, chkQ, qI, admR, hasK, numI, btw]
  omega
end Go.Proofs.YthcgncgnbjhniaaGreat
