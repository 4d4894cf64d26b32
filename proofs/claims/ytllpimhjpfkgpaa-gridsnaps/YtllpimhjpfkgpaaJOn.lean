/- The closures of On of package grid, and package slices over them. On of package grid. -/
import Derived.Test.YtllpimhjpfkgpaaJSm
import Derived.Test.YtllpimhjpfkgpaaJSame
namespace Go.Proofs.Ytllpimhjpfkgpaa
open Go.RowKit
set_option maxRecDepth 20000
set_option linter.unusedVariables false
set_option linter.unusedSimpArgs false

theorem any_yes {α : Type} {p : α → Bool} {l : List α} {d : α} {k : Nat} (hk : k < l.length) (h : p (l.getD k d) = true) : l.any p = true := List.any_eq_true.2 ⟨_, mem_getD hk, h⟩
theorem any_no {α : Type} {p : α → Bool} {l : List α} {d : α} (h : ∀ k, k < l.length → p (l.getD k d) = false) : l.any p = false := by
  rw [List.any_eq_false]
  intro x hx
  obtain ⟨k, hk, rfl⟩ := List.getElem_of_mem hx
  have := h k hk
  rw [List.getD_eq_getElem?_getD, List.getElem?_eq_getElem hk] at this
  simpa using this
/-- Where the step and the function that tells whether a length is off it lie. -/
def OffAt (w : World) (sb fb : Nat) (s : Int) : Prop := Blk w sb #[.int .i64 s] 22 ∧ Blk w fb #[.func (.func 25) #[] #[.pointer (some ⟨sb, 0, none⟩)]] 53
theorem OffAt.old {w x : World} {sb fb : Nat} {s : Int} (h : OffAt w sb fb s) (hx : Old w x) : OffAt x sb fb s := ⟨h.1.old hx, h.2.old hx⟩
theorem off_ways {s h : Int} (h1 : 1 ≤ s) : offZ s h = (h.tmod s != 0) := by
  unfold offZ
  have e : h % s = 0 ↔ h.tmod s = 0 := ⟨fun e => Int.tmod_eq_zero_of_dvd (Int.dvd_of_emod_eq_zero e), fun e => Int.emod_eq_zero_of_dvd (Int.dvd_of_tmod_eq_zero e)⟩
  by_cases h0 : h % s = 0
  · rw [e.1 h0]; simp [h0]
  · have : ¬ h.tmod s = 0 := fun e' => h0 (e.2 e')
    simp [h0, this]
theorem off_any (s h : Int) (sb : Nat) (w : World) (hb : Blk w sb #[.int .i64 s] 22) (h1 : 1 ≤ s) (hs : inR s) (hh : inR h) :
    Calls Try.prog 25 #[.int .i64 h, .pointer (some ⟨sb, 0, none⟩)] w fun e w' => e = .returned (.bool (offZ s h)) ∧ Below w.heap.size w w' := by
  have q := hb.cell 0
  simp only [List.getElem?_toArray, List.getElem?_cons_zero] at q
  have ho := over_bd h s h1
  unfold inR at hs hh
  by_cases h0 : 0 ≤ h
  · unfold offZ
    go_enter Try.func25, Try.ntmps25
    go_wp2
    go_ret
    refine ⟨?_, Below.refl _ _⟩
    by_cases e : h % s = 0 <;> simp [e]
  · rw [off_ways h1]
    go_enter Try.func25, Try.ntmps25
    go_wp2
    go_ret
    exact ⟨rfl, Below.refl _ _⟩
theorem els1 {w : World} {a : Option Addr} {n : Nat} {F : Nat → Int} (h : Els 1 encZ w a n F) {k : Nat} (hk : k < n) : ∃ b off, a = some ⟨b, off, none⟩ ∧ b < w.heap.size ∧ w.cell? ⟨b, off + k, none⟩ = some (.int .i64 (F k)) := by
  obtain ⟨b, off, rfl, hb, h0⟩ := h k 0 hk (by omega)
  rw [Nat.mul_one, Nat.add_zero] at h0
  exact ⟨b, off, rfl, hb, h0⟩
set_option maxHeartbeats 1000000 in
theorem indexZ (a : Option Addr) (cap : Nat) (l : List Int) (s : Int) (sb fb : Nat) (w : World) (hn : l.length ≤ 1000000) (hr : Els 1 encZ w a l.length fun k => l.getD k 0) (hO : OffAt w sb fb s) (h1 : 1 ≤ s) (hs : inR s) (hL : ∀ k, inR (l.getD k 0)) :
    Calls Try.prog 52 #[.slice a l.length cap, .func (.func 25) #[] #[.pointer (some ⟨sb, 0, none⟩)]] w fun e w' => (∃ r : Int, e = .returned (.int .i64 r) ∧ decide (0 ≤ r) = l.any (offZ s)) ∧ Below w.heap.size w w' := by
  have HR := Lib.hid hr
  have HC := Lib.hid fun (k : Nat) (hk : k < l.length) x (hx : Below w.heap.size w x) => off_any s (l.getD k 0) sb x (hO.1.old hx) h1 hs (hL k)
  clear hr
  go_enter Try.func52, Try.ntmps52
  go_wp2_with fail
  go_loopw [8] (fun i wr => ∃ k : Nat, k ≤ l.length ∧ i = .int .i64 k ∧ Below w.heap.size w wr ∧ Hid (∀ j, j < k → offZ s (l.getD j 0) = false)) (fun i _ => l.length - (intOf i).toNat)
  case atStart => exact ⟨0, Nat.zero_le _, rfl, Below.refl _ _, Lib.hid fun j hj => by omega⟩
  case round =>
    obtain ⟨k, hk, rfl, hbl, HP⟩ := hrel
    by_cases hlt : k < l.length
    · obtain ⟨b, off, rfl, hB, p0⟩ := els1 (HR.out.carry hbl) hlt
      have c := HC.out k hlt _ hbl
      have HY := Lib.hid (any_yes (p := offZ s) (d := 0) hlt)
      have HS : Hid (offZ s (l.getD k 0) = false → ∀ j, j < k + 1 → offZ s (l.getD j 0) = false) := Lib.hid fun h j hj => by
        rcases Nat.lt_or_ge j k with h1 | h1
        · exact HP.out j h1
        · obtain rfl : j = k := by omega
          exact h
      clear HP HC HR
      generalize l.getD k 0 = x at *
      generalize offZ s x = r at *
      go_wp2_with fail
      refine c.mono ?_
      rintro e w1 ⟨rfl, b1⟩
      have hb1 := tstep hbl b1 hbl.size
      clear c b1 p0
      cases r
      · replace HS := Lib.hid (HS.out rfl)
        clear HY
        go_wp2
        go_roundw
        case rel => exact ⟨k + 1, by omega, by go_num, hb1, HS⟩
        case measure => simp [intOf]; omega
      · replace HY := Lib.hid (HY.out rfl)
        clear HS
        go_wp2
        go_ret
        exact ⟨⟨_, rfl, by rw [HY.out]; simp⟩, hb1⟩
    · have HE : Hid (l.any (offZ s) = false) := Lib.hid (any_no (d := 0) fun j hj => HP.out j (by omega))
      clear HP
      go_wp2
      go_ret
      exact ⟨⟨_, rfl, by rw [HE.out]; rfl⟩, hbl⟩
theorem containsZ (a : Option Addr) (cap : Nat) (l : List Int) (s : Int) (sb fb : Nat) (w : World) (hn : l.length ≤ 1000000) (hr : Els 1 encZ w a l.length fun k => l.getD k 0) (hO : OffAt w sb fb s) (h1 : 1 ≤ s) (hs : inR s) (hL : ∀ k, inR (l.getD k 0)) :
    Calls Try.prog 26 #[.slice a l.length cap, .func (.func 25) #[] #[.pointer (some ⟨sb, 0, none⟩)]] w fun e w' => e = .returned (.bool (l.any (offZ s))) ∧ Below w.heap.size w w' := by
  have c := indexZ a cap l s sb fb w hn hr hO h1 hs hL
  generalize l.any (offZ s) = r at *
  go_enter Try.func26, Try.ntmps26
  go_wp2_with (refine c.mono ?_; rintro e w1 ⟨⟨r, rfl, hr⟩, b1⟩)
  go_ret
  rw [← hr]
  exact ⟨rfl, b1⟩
set_option maxHeartbeats 4000000 in
theorem itemOff_any (x : I7) (s : Int) (sb fb : Nat) (w : World) (hO : OffAt w sb fb s) (h1 : 1 ≤ s) (hs : inR s) (hx : inI x) :
    Calls Try.prog 29 #[.agg #[.int .i64 x.k, .int .i64 x.h, .int .i64 x.f, .int .i64 x.s, .int .i64 x.o, .int .i64 x.r, .int .i64 x.n], .func (.func 25) #[] #[.pointer (some ⟨sb, 0, none⟩)]] w fun e w' => e = .returned (.bool (offI s x)) ∧ Below w.heap.size w w' := by
  obtain ⟨k, h, f, st, o, r, n⟩ := x
  have hh : inR h := hx.2.1
  have c := fun x (hx : Old w x) => off_any s h sb x (hO.1.old hx) h1 hs hh
  have b0 := tbel1 w (.cells #[.int .i64 k, .int .i64 h, .int .i64 f, .int .i64 st, .int .i64 o, .int .i64 r, .int .i64 n] 39)
  have B := blk_new w #[.int .i64 k, .int .i64 h, .int .i64 f, .int .i64 st, .int .i64 o, .int .i64 r, .int .i64 n] 39
  unfold offI
  dsimp only
  clear hO hx hh
  have c1 := c _ b0
  clear c
  generalize offZ s h = z at *
  by_cases k1 : k = 1
  · subst k1
    simp only [if_true]
    go_enter Try.func29, Try.ntmps29
    go_wp2_with fail
    refine c1.mono ?_
    rintro e w1 ⟨rfl, b1⟩
    go_wp2
    go_ret
    exact ⟨rfl, tstep b0 b1 b0.size⟩
  by_cases k2 : k = 2
  · subst k2
    simp only [show ¬ ((2 : Int) = 1) by decide, if_false, if_true]
    cases z
    · by_cases e1 : st = 0
      · subst e1
        by_cases e2 : o = 0
        · subst e2
          by_cases e3 : r = 0
          · subst e3
            go_enter Try.func29, Try.ntmps29
            go_wp2_with fail
            refine c1.mono ?_
            rintro e w1 ⟨rfl, b1⟩
            obtain ⟨q0, q1, q2, q3, q4, q5, q6⟩ := (B.old b1).seven
            go_wp2
            go_ret
            exact ⟨rfl, tstep b0 b1 b0.size⟩
          · have g3 : (r != 0) = true := by simpa using e3
            have HE : Hid (¬ r = 0) := Lib.hid e3
            clear e3
            go_enter Try.func29, Try.ntmps29
            go_wp2_with fail
            refine c1.mono ?_
            rintro e w1 ⟨rfl, b1⟩
            obtain ⟨q0, q1, q2, q3, q4, q5, q6⟩ := (B.old b1).seven
            go_wp2
            go_ret
            exact ⟨by simp [HE.out], tstep b0 b1 b0.size⟩
        · have g3 : (o != 0) = true := by simpa using e2
          have HE : Hid (¬ o = 0) := Lib.hid e2
          clear e2
          go_enter Try.func29, Try.ntmps29
          go_wp2_with fail
          refine c1.mono ?_
          rintro e w1 ⟨rfl, b1⟩
          obtain ⟨q0, q1, q2, q3, q4, q5, q6⟩ := (B.old b1).seven
          go_wp2
          go_ret
          exact ⟨by simp [HE.out], tstep b0 b1 b0.size⟩
      · have g3 : (st != 0) = true := by simpa using e1
        have HE : Hid (¬ st = 0) := Lib.hid e1
        clear e1
        go_enter Try.func29, Try.ntmps29
        go_wp2_with fail
        refine c1.mono ?_
        rintro e w1 ⟨rfl, b1⟩
        obtain ⟨q0, q1, q2, q3, q4, q5, q6⟩ := (B.old b1).seven
        go_wp2
        go_ret
        exact ⟨by simp [HE.out], tstep b0 b1 b0.size⟩
    · go_enter Try.func29, Try.ntmps29
      go_wp2_with fail
      refine c1.mono ?_
      rintro e w1 ⟨rfl, b1⟩
      go_wp2
      go_ret
      exact ⟨by simp, tstep b0 b1 b0.size⟩
  · have e1 : (k == 1) = false := by simpa using k1
    have e2 : (k == 2) = false := by simpa using k2
    rw [if_neg k1, if_neg k2]
    go_enter Try.func29, Try.ntmps29
    go_wp2
    go_ret
    exact ⟨rfl, b0⟩
theorem on2_any (x : I7) (s : Int) (sb fb : Nat) (w : World) (hO : OffAt w sb fb s) (h1 : 1 ≤ s) (hs : inR s) (hx : inI x) :
    Calls Try.prog 28 #[.agg #[.int .i64 x.k, .int .i64 x.h, .int .i64 x.f, .int .i64 x.s, .int .i64 x.o, .int .i64 x.r, .int .i64 x.n], .pointer (some ⟨fb, 0, none⟩)] w fun e w' => e = .returned (.bool (offI s x)) ∧ Below w.heap.size w w' := by
  have b0 := tbel1 w (.cells #[.int .i64 x.k, .int .i64 x.h, .int .i64 x.f, .int .i64 x.s, .int .i64 x.o, .int .i64 x.r, .int .i64 x.n] 39)
  have c := itemOff_any x s sb fb _ (hO.old b0) h1 hs hx
  have q := hO.2.cell 0
  simp only [List.getElem?_toArray, List.getElem?_cons_zero] at q
  have hlt := hO.2.lt
  generalize offI s x = z at *
  go_enter Try.func28, Try.ntmps28
  go_wp2_with fail
  refine c.mono ?_
  rintro e w1 ⟨rfl, b1⟩
  go_wp2
  go_ret
  exact ⟨rfl, tstep b0 b1 b0.size⟩
set_option maxHeartbeats 1000000 in
theorem indexI (a : Option Addr) (cap : Nat) (l : List I7) (s : Int) (sb fb : Nat) (w : World) (hn : l.length ≤ 1000000) (hr : Els 7 encI w a l.length fun k => l.getD k zeroI) (hO : OffAt w sb fb s) (h1 : 1 ≤ s) (hs : inR s) (hL : ∀ k, inI (l.getD k zeroI)) :
    Calls Try.prog 53 #[.slice a l.length cap, .func (.func 28) #[] #[.pointer (some ⟨fb, 0, none⟩)]] w fun e w' => (∃ r : Int, e = .returned (.int .i64 r) ∧ decide (0 ≤ r) = l.any (offI s)) ∧ Below w.heap.size w w' := by
  have HR := Lib.hid hr
  have HC := Lib.hid fun (k : Nat) (hk : k < l.length) x (hx : Below w.heap.size w x) => on2_any (l.getD k zeroI) s sb fb x (hO.old hx) h1 hs (hL k)
  clear hr
  go_enter Try.func53, Try.ntmps53
  go_wp2_with fail
  go_loopw [8] (fun i wr => ∃ k : Nat, k ≤ l.length ∧ i = .int .i64 k ∧ Below w.heap.size w wr ∧ Hid (∀ j, j < k → offI s (l.getD j zeroI) = false)) (fun i _ => l.length - (intOf i).toNat)
  case atStart => exact ⟨0, Nat.zero_le _, rfl, Below.refl _ _, Lib.hid fun j hj => by omega⟩
  case round =>
    obtain ⟨k, hk, rfl, hbl, HP⟩ := hrel
    by_cases hlt : k < l.length
    · obtain ⟨b, off, rfl, hB, p0, p1, p2, p3, p4, p5, p6⟩ := els7 (HR.out.carry hbl) hlt
      have c := HC.out k hlt _ hbl
      have HY := Lib.hid (any_yes (p := offI s) (d := zeroI) hlt)
      have HS : Hid (offI s (l.getD k zeroI) = false → ∀ j, j < k + 1 → offI s (l.getD j zeroI) = false) := Lib.hid fun h j hj => by
        rcases Nat.lt_or_ge j k with h1 | h1
        · exact HP.out j h1
        · obtain rfl : j = k := by omega
          exact h
      clear HP HC HR
      generalize l.getD k zeroI = x at *
      generalize offI s x = r at *
      go_wp2_with fail
      refine c.mono ?_
      rintro e w1 ⟨rfl, b1⟩
      have hb1 := tstep hbl b1 hbl.size
      clear c b1 p0 p1 p2 p3 p4 p5 p6
      cases r
      · replace HS := Lib.hid (HS.out rfl)
        clear HY
        go_wp2
        go_roundw
        case rel => exact ⟨k + 1, by omega, by go_num, hb1, HS⟩
        case measure => simp [intOf]; omega
      · replace HY := Lib.hid (HY.out rfl)
        clear HS
        go_wp2
        go_ret
        exact ⟨⟨_, rfl, by rw [HY.out]; simp⟩, hb1⟩
    · have HE : Hid (l.any (offI s) = false) := Lib.hid (any_no (d := zeroI) fun j hj => HP.out j (by omega))
      clear HP
      go_wp2
      go_ret
      exact ⟨⟨_, rfl, by rw [HE.out]; rfl⟩, hbl⟩
theorem containsI (a : Option Addr) (cap : Nat) (l : List I7) (s : Int) (sb fb : Nat) (w : World) (hn : l.length ≤ 1000000) (hr : Els 7 encI w a l.length fun k => l.getD k zeroI) (hO : OffAt w sb fb s) (h1 : 1 ≤ s) (hs : inR s) (hL : ∀ k, inI (l.getD k zeroI)) :
    Calls Try.prog 27 #[.slice a l.length cap, .func (.func 28) #[] #[.pointer (some ⟨fb, 0, none⟩)]] w fun e w' => e = .returned (.bool (l.any (offI s))) ∧ Below w.heap.size w w' := by
  have c := indexI a cap l s sb fb w hn hr hO h1 hs hL
  generalize l.any (offI s) = r at *
  go_enter Try.func27, Try.ntmps27
  go_wp2_with (refine c.mono ?_; rintro e w1 ⟨⟨r, rfl, hr⟩, b1⟩)
  go_ret
  rw [← hr]
  exact ⟨rfl, b1⟩
theorem on4_any (x : F3) (s : Int) (sb fb : Nat) (w : World) (hO : OffAt w sb fb s) (h1 : 1 ≤ s) (hs : inR s) (hx : inF x) :
    Calls Try.prog 33 #[.agg #[.int .i64 x.c, .int .i64 x.h, .int .i64 x.p], .pointer (some ⟨fb, 0, none⟩)] w fun e w' => e = .returned (.bool (offF s x)) ∧ Below w.heap.size w w' := by
  have b0 := tbel1 w (.cells #[.int .i64 x.c, .int .i64 x.h, .int .i64 x.p] 41)
  have c := off_any s x.h sb _ (hO.1.old b0) h1 hs hx.2.1
  have q := hO.2.cell 0
  simp only [List.getElem?_toArray, List.getElem?_cons_zero] at q
  have hlt := hO.2.lt
  unfold offF
  generalize offZ s x.h = z at *
  go_enter Try.func33, Try.ntmps33
  go_wp2_with fail
  refine c.mono ?_
  rintro e w1 ⟨rfl, b1⟩
  go_wp2
  go_ret
  exact ⟨rfl, tstep b0 b1 b0.size⟩
set_option maxHeartbeats 1000000 in
theorem indexF (a : Option Addr) (cap : Nat) (l : List F3) (s : Int) (sb fb : Nat) (w : World) (hn : l.length ≤ 1000000) (hr : Els 3 encF w a l.length fun k => l.getD k zeroF) (hO : OffAt w sb fb s) (h1 : 1 ≤ s) (hs : inR s) (hL : ∀ k, inF (l.getD k zeroF)) :
    Calls Try.prog 55 #[.slice a l.length cap, .func (.func 33) #[] #[.pointer (some ⟨fb, 0, none⟩)]] w fun e w' => (∃ r : Int, e = .returned (.int .i64 r) ∧ decide (0 ≤ r) = l.any (offF s)) ∧ Below w.heap.size w w' := by
  have HR := Lib.hid hr
  have HC := Lib.hid fun (k : Nat) (hk : k < l.length) x (hx : Below w.heap.size w x) => on4_any (l.getD k zeroF) s sb fb x (hO.old hx) h1 hs (hL k)
  clear hr
  go_enter Try.func55, Try.ntmps55
  go_wp2_with fail
  go_loopw [8] (fun i wr => ∃ k : Nat, k ≤ l.length ∧ i = .int .i64 k ∧ Below w.heap.size w wr ∧ Hid (∀ j, j < k → offF s (l.getD j zeroF) = false)) (fun i _ => l.length - (intOf i).toNat)
  case atStart => exact ⟨0, Nat.zero_le _, rfl, Below.refl _ _, Lib.hid fun j hj => by omega⟩
  case round =>
    obtain ⟨k, hk, rfl, hbl, HP⟩ := hrel
    by_cases hlt : k < l.length
    · obtain ⟨b, off, rfl, hB, p0, p1, p2⟩ := els3 (HR.out.carry hbl) hlt
      have c := HC.out k hlt _ hbl
      have HY := Lib.hid (any_yes (p := offF s) (d := zeroF) hlt)
      have HS : Hid (offF s (l.getD k zeroF) = false → ∀ j, j < k + 1 → offF s (l.getD j zeroF) = false) := Lib.hid fun h j hj => by
        rcases Nat.lt_or_ge j k with h1 | h1
        · exact HP.out j h1
        · obtain rfl : j = k := by omega
          exact h
      clear HP HC HR
      generalize l.getD k zeroF = x at *
      generalize offF s x = r at *
      go_wp2_with fail
      refine c.mono ?_
      rintro e w1 ⟨rfl, b1⟩
      have hb1 := tstep hbl b1 hbl.size
      clear c b1 p0 p1 p2
      cases r
      · replace HS := Lib.hid (HS.out rfl)
        clear HY
        go_wp2
        go_roundw
        case rel => exact ⟨k + 1, by omega, by go_num, hb1, HS⟩
        case measure => simp [intOf]; omega
      · replace HY := Lib.hid (HY.out rfl)
        clear HS
        go_wp2
        go_ret
        exact ⟨⟨_, rfl, by rw [HY.out]; simp⟩, hb1⟩
    · have HE : Hid (l.any (offF s) = false) := Lib.hid (any_no (d := zeroF) fun j hj => HP.out j (by omega))
      clear HP
      go_wp2
      go_ret
      exact ⟨⟨_, rfl, by rw [HE.out]; rfl⟩, hbl⟩
theorem containsF (a : Option Addr) (cap : Nat) (l : List F3) (s : Int) (sb fb : Nat) (w : World) (hn : l.length ≤ 1000000) (hr : Els 3 encF w a l.length fun k => l.getD k zeroF) (hO : OffAt w sb fb s) (h1 : 1 ≤ s) (hs : inR s) (hL : ∀ k, inF (l.getD k zeroF)) :
    Calls Try.prog 32 #[.slice a l.length cap, .func (.func 33) #[] #[.pointer (some ⟨fb, 0, none⟩)]] w fun e w' => e = .returned (.bool (l.any (offF s))) ∧ Below w.heap.size w w' := by
  have c := indexF a cap l s sb fb w hn hr hO h1 hs hL
  generalize l.any (offF s) = r at *
  go_enter Try.func32, Try.ntmps32
  go_wp2_with (refine c.mono ?_; rintro e w1 ⟨⟨r, rfl, hr⟩, b1⟩)
  go_ret
  rw [← hr]
  exact ⟨rfl, b1⟩
end Go.Proofs.Ytllpimhjpfkgpaa
namespace Go.Proofs.Ytllpimhjpfkgpaa
open Go.RowKit
set_option maxRecDepth 20000
set_option linter.unusedVariables false
set_option linter.unusedSimpArgs false

theorem on3_any (h : H2) (N : N2) (s : Int) (sb fb : Nat) (w : World) (hO : OffAt w sb fb s) (h1 : 1 ≤ s) (hs : inR s) (hN : NoteOk w h N) (hl : N.l.length ≤ 1000000) :
    Calls Try.prog 31 #[.agg #[.slice h.la h.ll h.lc, .slice h.pa h.pl h.pc], .pointer (some ⟨fb, 0, none⟩)] w fun e w' => e = .returned (.bool (offN s N)) ∧ Below w.heap.size w w' := by
  obtain ⟨n1, n2, n3, n4, n5, n6⟩ := hN
  have b0 := tbel1 w (.cells #[.slice h.la h.ll h.lc, .slice h.pa h.pl h.pc] 37)
  have c := containsZ h.la h.lc N.l s sb fb _ hl ((n5.els (Nat.le_refl _)).carry b0) (hO.old b0) h1 hs n5.ins
  rw [← n1] at c
  have q := hO.2.cell 0
  simp only [List.getElem?_toArray, List.getElem?_cons_zero] at q
  have hlt := hO.2.lt
  clear n5 n6 n1 n2 n3 n4
  unfold offN
  generalize N.l.any (offZ s) = z at *
  go_enter Try.func31, Try.ntmps31
  go_wp2_with fail
  refine c.mono ?_
  rintro e w1 ⟨rfl, b1⟩
  go_wp2
  go_ret
  exact ⟨rfl, tstep b0 b1 b0.size⟩
set_option maxHeartbeats 1000000 in
theorem indexN (a : Option Addr) (cap : Nat) (l : List N2) (s : Int) (sb fb : Nat) (w : World) (hn : l.length ≤ 1000000) (hr : NotesAt w a l) (hO : OffAt w sb fb s) (h1 : 1 ≤ s) (hs : inR s) (hL : Short l) :
    Calls Try.prog 54 #[.slice a l.length cap, .func (.func 31) #[] #[.pointer (some ⟨fb, 0, none⟩)]] w fun e w' => (∃ r : Int, e = .returned (.int .i64 r) ∧ decide (0 ≤ r) = l.any (offN s)) ∧ Below w.heap.size w w' := by
  obtain ⟨H, hH, hN⟩ := hr
  have HR := Lib.hid hH
  have HC := Lib.hid fun (k : Nat) (hk : k < l.length) x (hx : Below w.heap.size w x) => on3_any (H k) (l.getD k zeroN) s sb fb x (hO.old hx) h1 hs ((hN k hk).carry hx) (hL k).1
  clear hH hN
  go_enter Try.func54, Try.ntmps54
  go_wp2_with fail
  go_loopw [8] (fun i wr => ∃ k : Nat, k ≤ l.length ∧ i = .int .i64 k ∧ Below w.heap.size w wr ∧ Hid (∀ j, j < k → offN s (l.getD j zeroN) = false)) (fun i _ => l.length - (intOf i).toNat)
  case atStart => exact ⟨0, Nat.zero_le _, rfl, Below.refl _ _, Lib.hid fun j hj => by omega⟩
  case round =>
    obtain ⟨k, hk, rfl, hbl, HP⟩ := hrel
    by_cases hlt : k < l.length
    · obtain ⟨b, off, rfl, hB, p0, p1⟩ := els2 (HR.out.carry hbl) hlt
      have c := HC.out k hlt _ hbl
      have HY := Lib.hid (any_yes (p := offN s) (d := zeroN) hlt)
      have HS : Hid (offN s (l.getD k zeroN) = false → ∀ j, j < k + 1 → offN s (l.getD j zeroN) = false) := Lib.hid fun h j hj => by
        rcases Nat.lt_or_ge j k with h1 | h1
        · exact HP.out j h1
        · obtain rfl : j = k := by omega
          exact h
      clear HP HC HR
      generalize l.getD k zeroN = x at *
      generalize H k = h at *
      generalize offN s x = r at *
      go_wp2_with fail
      refine c.mono ?_
      rintro e w1 ⟨rfl, b1⟩
      have hb1 := tstep hbl b1 hbl.size
      clear c b1 p0 p1
      cases r
      · replace HS := Lib.hid (HS.out rfl)
        clear HY
        go_wp2
        go_roundw
        case rel => exact ⟨k + 1, by omega, by go_num, hb1, HS⟩
        case measure => simp [intOf]; omega
      · replace HY := Lib.hid (HY.out rfl)
        clear HS
        go_wp2
        go_ret
        exact ⟨⟨_, rfl, by rw [HY.out]; simp⟩, hb1⟩
    · have HE : Hid (l.any (offN s) = false) := Lib.hid (any_no (d := zeroN) fun j hj => HP.out j (by omega))
      clear HP
      go_wp2
      go_ret
      exact ⟨⟨_, rfl, by rw [HE.out]; rfl⟩, hbl⟩
theorem containsN (a : Option Addr) (cap : Nat) (l : List N2) (s : Int) (sb fb : Nat) (w : World) (hn : l.length ≤ 1000000) (hr : NotesAt w a l) (hO : OffAt w sb fb s) (h1 : 1 ≤ s) (hs : inR s) (hL : Short l) :
    Calls Try.prog 30 #[.slice a l.length cap, .func (.func 31) #[] #[.pointer (some ⟨fb, 0, none⟩)]] w fun e w' => e = .returned (.bool (l.any (offN s))) ∧ Below w.heap.size w w' := by
  have c := indexN a cap l s sb fb w hn hr hO h1 hs hL
  generalize l.any (offN s) = r at *
  go_enter Try.func30, Try.ntmps30
  go_wp2_with (refine c.mono ?_; rintro e w1 ⟨⟨r, rfl, hr⟩, b1⟩)
  go_ret
  rw [← hr]
  exact ⟨rfl, b1⟩
theorem els_four (w : World) (a b c d : Int) : Els 1 encZ (w.alloc (.cells #[.int .i64 a, .int .i64 b, .int .i64 c, .int .i64 d] 22)) (some ⟨w.heap.size, 0, none⟩) [a, b, c, d].length fun k => [a, b, c, d].getD k 0 := fun k j hk hj => by
  obtain rfl : j = 0 := by omega
  have B := blk_new w #[.int .i64 a, .int .i64 b, .int .i64 c, .int .i64 d] 22
  refine ⟨w.heap.size, 0, rfl, B.lt, ?_⟩
  rw [Nat.zero_add, Nat.mul_one, Nat.add_zero, B.cell]
  simp only [List.length_cons, List.length_nil] at hk
  rcases (show k = 0 ∨ k = 1 ∨ k = 2 ∨ k = 3 by omega) with rfl | rfl | rfl | rfl <;> rfl
theorem four_in {a b c d : Int} (ha : inR a) (hb : inR b) (hc : inR c) (hd : inR d) : ∀ k, inR ([a, b, c, d].getD k 0) := fun k => by
  rcases Nat.lt_or_ge k 4 with hk | hk
  · rcases (show k = 0 ∨ k = 1 ∨ k = 2 ∨ k = 3 by omega) with rfl | rfl | rfl | rfl <;> assumption
  · rw [getD_none (by simpa using hk)]; decide
theorem on_yes (j : J4) (s : S3) (w : World) (hg : j.g.grid < 1) :
    Calls Try.prog 10 #[.agg (jobC j s)] w fun e w' => e = .returned (.bool true) ∧ Below w.heap.size w w' := by
  have D := job_new w j s
  have q5 := D.geo.2.2.2.2.2.1
  have b0 := tbel1 w (.cells (jobC j s) 29)
  go_enter Try.func10, Try.ntmps10
  go_upto_region 1 with (fail)
  generalize w.alloc _ = U at *
  go_wp2
  go_ret
  exact ⟨rfl, tstep b0 (tbel1 _ _) b0.size⟩
set_option maxHeartbeats 4000000 in
theorem on_any (j : J4) (s : S3) (w : World) (hL : Lists w j s) (hf : Few j) :
    Calls Try.prog 10 #[.agg (jobC j s)] w fun e w' => e = .returned (.bool (onJ j)) ∧ Below w.heap.size w w' := by
  by_cases hg : j.g.grid < 1
  · rw [show onJ j = true by unfold onJ; simp [hg]]
    exact on_yes j s w hg
  · have hg1 : 1 ≤ j.g.grid := by omega
    obtain ⟨f1, f2, f3, f4⟩ := id hf
    obtain ⟨⟨_, _, _, i3, i4, i5, i6, i7, _⟩, hII, hIF⟩ := hL.ins
    have hE : onJ j = !([j.g.high, j.g.first, j.g.rule, j.g.sep].any (offZ j.g.grid) || j.items.any (offI j.g.grid) || j.notes.any (offN j.g.grid) || j.floats.any (offF j.g.grid)) := by
      unfold onJ; rw [decide_eq_false hg, Bool.false_or]; simp [Bool.or_assoc]
    rw [hE]
    obtain ⟨r1, er1⟩ : ∃ r, r = [j.g.high, j.g.first, j.g.rule, j.g.sep].any (offZ j.g.grid) := ⟨_, rfl⟩
    obtain ⟨r2, er2⟩ : ∃ r, r = j.items.any (offI j.g.grid) := ⟨_, rfl⟩
    obtain ⟨r3, er3⟩ : ∃ r, r = j.notes.any (offN j.g.grid) := ⟨_, rfl⟩
    obtain ⟨r4, er4⟩ : ∃ r, r = j.floats.any (offF j.g.grid) := ⟨_, rfl⟩
    rw [← er1, ← er2, ← er3, ← er4]
    have E1 := Lib.hid er1
    have E2 := Lib.hid er2
    have E3 := Lib.hid er3
    have E4 := Lib.hid er4
    clear er1 er2 er3 er4
    have D := job_new w j s
    have q5 := D.geo.2.2.2.2.2.1
    have b0 := tbel1 w (.cells (jobC j s) 29)
    have bW := tbel3 w (.cells (jobC j s) 29) (.cells #[.int .i64 j.g.grid] 22) (.cells #[.func (.func 25) #[] #[.pointer (some ⟨w.heap.size + 1, 0, none⟩)]] 53)
    have DW : JobAt (((w.alloc (.cells (jobC j s) 29)).alloc (.cells #[.int .i64 j.g.grid] 22)).alloc (.cells #[.func (.func 25) #[] #[.pointer (some ⟨w.heap.size + 1, 0, none⟩)]] 53)) w.heap.size j s := D.old (tbel2 _ _ _)
    have OW : OffAt (((w.alloc (.cells (jobC j s) 29)).alloc (.cells #[.int .i64 j.g.grid] 22)).alloc (.cells #[.func (.func 25) #[] #[.pointer (some ⟨w.heap.size + 1, 0, none⟩)]] 53)) (w.heap.size + 1) (w.heap.size + 1 + 1) j.g.grid :=
      ⟨(blk_two w _ _ _).alloc _, blk_three w _ _ _ _⟩
    have HL := Lib.hid hL
    have HII := Lib.hid hII
    have HIF := Lib.hid hIF
    have hSh := Lib.hid hf.short
    clear hE hL hf f4 hII hIF D b0
    go_enter Try.func10, Try.ntmps10
    go_upto_region 5 with (fail)
    generalize ((w.alloc _).alloc _).alloc _ = V at *
    obtain ⟨_, _, _, q3, q4, _, q6, q7, _⟩ := DW.geo
    have of := OW.2.cell 0
    simp only [List.getElem?_toArray, List.getElem?_cons_zero] at of
    have olt := OW.2.lt
    have dlt := Blk.lt DW
    have c1 := containsZ (some ⟨V.heap.size, 0, none⟩) 4 [j.g.high, j.g.first, j.g.rule, j.g.sep] j.g.grid (w.heap.size + 1) (w.heap.size + 1 + 1) _ (by simp) (els_four V j.g.high j.g.first j.g.rule j.g.sep) (OW.old (tbel1 V _)) hg1 i5 (four_in i3 i4 i6 i7)
    simp only [List.length_cons, List.length_nil, Nat.zero_add, Nat.reduceAdd] at c1
    rw [← E1.out] at c1
    go_wp2_with fail
    refine c1.mono ?_
    rintro e w1 ⟨rfl, b1⟩
    have h1 := tstep (tbel1 V (.cells #[.int .i64 j.g.high, .int .i64 j.g.first, .int .i64 j.g.rule, .int .i64 j.g.sep] 22)) b1 (tbel1 V _).size
    clear c1 b1 q3 q4 q6 q7 of olt dlt
    have D1 := DW.old h1
    have O1 := OW.old h1
    obtain ⟨t19, t20, t21⟩ := D1.three
    have c2 := containsI s.ia s.ic j.items j.g.grid (w.heap.size + 1) (w.heap.size + 1 + 1) w1 (by omega) (HL.out.items.carry (tstep bW h1 bW.size)) O1 hg1 i5 HII.out
    have c3 := fun x (hx : Old V x) => containsN s.na s.nc j.notes j.g.grid (w.heap.size + 1) (w.heap.size + 1 + 1) x (by omega) (HL.out.notes.carry (tstep bW hx bW.size)) (OW.old hx) hg1 i5 hSh.out
    have c4 := fun x (hx : Old V x) => containsF s.fa s.fc j.floats j.g.grid (w.heap.size + 1) (w.heap.size + 1 + 1) x (by omega) (HL.out.floats.carry (tstep bW hx bW.size)) (OW.old hx) hg1 i5 HIF.out
    rw [← E2.out] at c2
    simp only [← E3.out] at c3
    simp only [← E4.out] at c4
    have C3 := Lib.hid c3
    have C4 := Lib.hid c4
    clear c3 c4
    cases r1
    · go_wp2_with fail
      refine c2.mono ?_
      rintro e w2 ⟨rfl, b2⟩
      have h2 := h1.trans (b2.mono h1.size)
      clear c2 b2 t19 t20 t21
      obtain ⟨t19, t20, t21⟩ := (DW.old h2).three
      cases r2
      · go_wp2_with fail
        refine (C3.out w2 h2).mono ?_
        rintro e w3 ⟨rfl, b3⟩
        have h3 := h2.trans (b3.mono h2.size)
        clear C3 b3 t19 t20 t21
        obtain ⟨t19, t20, t21⟩ := (DW.old h3).three
        cases r3
        · go_wp2_with fail
          refine (C4.out w3 h3).mono ?_
          rintro e w4 ⟨rfl, b4⟩
          have h4 := h3.trans (b4.mono h3.size)
          clear C4 b4 t19 t20 t21
          go_wp2
          go_ret
          exact ⟨by simp, tstep bW h4 bW.size⟩
        · clear C4
          go_wp2
          go_ret
          exact ⟨by simp, tstep bW h3 bW.size⟩
      · clear C3 C4
        go_wp2
        go_ret
        exact ⟨by simp, tstep bW h2 bW.size⟩
    · clear c2 C3 C4
      go_wp2
      go_ret
      exact ⟨by simp, tstep bW h1 bW.size⟩
end Go.Proofs.Ytllpimhjpfkgpaa
