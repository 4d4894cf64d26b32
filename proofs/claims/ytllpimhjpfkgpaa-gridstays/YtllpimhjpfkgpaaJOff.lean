/- The closures of On of package grid, and package slices over them. -/
import Derived.Test.YtllpimhjpfkgpaaJSm
namespace Go.Proofs.Ytllpimhjpfkgpaa
open Go.RowKit
set_option maxRecDepth 20000
set_option linter.unusedVariables false
set_option linter.unusedSimpArgs false

theorem any_yes {α : Type} {p : α → Bool} {l : List α} {d : α} {k : Nat} (hk : k < l.length) (h : p (l.getD k d) = true) : l.any p = true := List.any_eq_true.2 ⟨_, mem_getD hk, h⟩
theorem any_no {α : Type} {p : α → Bool} {l : List α} {d : α} (h : ∀ k, k < l.length → p (l.getD k d) = false) : l.any p = false := by
  rw [List.any_eq_false]
  intro x hx
  obtain ⟨k, hk, rfl⟩ := List.getElem_of_mem hx
  have := h k hk
  rw [List.getD_eq_getElem?_getD, List.getElem?_eq_getElem hk] at this
  simpa using this
/-- Where the step and the function that tells whether a length is off it lie. -/
def OffAt (w : World) (sb fb : Nat) (s : Int) : Prop := Blk w sb #[.int .i64 s] 22 ∧ Blk w fb #[.func (.func 25) #[] #[.pointer (some ⟨sb, 0, none⟩)]] 53
theorem OffAt.old {w x : World} {sb fb : Nat} {s : Int} (h : OffAt w sb fb s) (hx : Old w x) : OffAt x sb fb s := ⟨h.1.old hx, h.2.old hx⟩
theorem off_ways {s h : Int} (h1 : 1 ≤ s) : offZ s h = (h.tmod s != 0) := by
  unfold offZ
  have e : h % s = 0 ↔ h.tmod s = 0 := ⟨fun e => Int.tmod_eq_zero_of_dvd (Int.dvd_of_emod_eq_zero e), fun e => Int.emod_eq_zero_of_dvd (Int.dvd_of_tmod_eq_zero e)⟩
  by_cases h0 : h % s = 0
  · rw [e.1 h0]; simp [h0]
  · have : ¬ h.tmod s = 0 := fun e' => h0 (e.2 e')
    simp [h0, this]
theorem off_any (s h : Int) (sb : Nat) (w : World) (hb : Blk w sb #[.int .i64 s] 22) (h1 : 1 ≤ s) (hs : inR s) (hh : inR h) :
    Calls Try.prog 25 #[.int .i64 h, .pointer (some ⟨sb, 0, none⟩)] w fun e w' => e = .returned (.bool (offZ s h)) ∧ Below w.heap.size w w' := by
  have q := hb.cell 0
  simp only [List.getElem?_toArray, List.getElem?_cons_zero] at q
  have ho := over_bd h s h1
  unfold inR at hs hh
  by_cases h0 : 0 ≤ h
  · unfold offZ
    go_enter Try.func25, Try.ntmps25
    go_wp2
    go_ret
    refine ⟨?_, Below.refl _ _⟩
    by_cases e : h % s = 0 <;> simp [e]
  · rw [off_ways h1]
    go_enter Try.func25, Try.ntmps25
    go_wp2
    go_ret
    exact ⟨rfl, Below.refl _ _⟩
theorem els1 {w : World} {a : Option Addr} {n : Nat} {F : Nat → Int} (h : Els 1 encZ w a n F) {k : Nat} (hk : k < n) : ∃ b off, a = some ⟨b, off, none⟩ ∧ b < w.heap.size ∧ w.cell? ⟨b, off + k, none⟩ = some (.int .i64 (F k)) := by
  obtain ⟨b, off, rfl, hb, h0⟩ := h k 0 hk (by omega)
  rw [Nat.mul_one, Nat.add_zero] at h0
  exact ⟨b, off, rfl, hb, h0⟩
set_option maxHeartbeats 1000000 in
theorem indexZ (a : Option Addr) (cap : Nat) (l : List Int) (s : Int) (sb fb : Nat) (w : World) (hn : l.length ≤ 1000000) (hr : Els 1 encZ w a l.length fun k => l.getD k 0) (hO : OffAt w sb fb s) (h1 : 1 ≤ s) (hs : inR s) (hL : ∀ k, inR (l.getD k 0)) :
    Calls Try.prog 52 #[.slice a l.length cap, .func (.func 25) #[] #[.pointer (some ⟨sb, 0, none⟩)]] w fun e w' => (∃ r : Int, e = .returned (.int .i64 r) ∧ decide (0 ≤ r) = l.any (offZ s)) ∧ Below w.heap.size w w' := by
  have HR := Lib.hid hr
  have HC := Lib.hid fun (k : Nat) (hk : k < l.length) x (hx : Below w.heap.size w x) => off_any s (l.getD k 0) sb x (hO.1.old hx) h1 hs (hL k)
  clear hr
  go_enter Try.func52, Try.ntmps52
  go_wp2_with fail
  go_loopw [8] (fun i wr => ∃ k : Nat, k ≤ l.length ∧ i = .int .i64 k ∧ Below w.heap.size w wr ∧ Hid (∀ j, j < k → offZ s (l.getD j 0) = false)) (fun i _ => l.length - (intOf i).toNat)
  case atStart => exact ⟨0, Nat.zero_le _, rfl, Below.refl _ _, Lib.hid fun j hj => by omega⟩
  case round =>
    obtain ⟨k, hk, rfl, hbl, HP⟩ := hrel
    by_cases hlt : k < l.length
    · obtain ⟨b, off, rfl, hB, p0⟩ := els1 (HR.out.carry hbl) hlt
      have c := HC.out k hlt _ hbl
      have HY := Lib.hid (any_yes (p := offZ s) (d := 0) hlt)
      have HS : Hid (offZ s (l.getD k 0) = false → ∀ j, j < k + 1 → offZ s (l.getD j 0) = false) := Lib.hid fun h j hj => by
        rcases Nat.lt_or_ge j k with h1 | h1
        · exact HP.out j h1
        · obtain rfl : j = k := by omega
          exact h
      clear HP HC HR
      generalize l.getD k 0 = x at *
      generalize offZ s x = r at *
      go_wp2_with fail
      refine c.mono ?_
      rintro e w1 ⟨rfl, b1⟩
      have hb1 := tstep hbl b1 hbl.size
      clear c b1 p0
      cases r
      · replace HS := Lib.hid (HS.out rfl)
        clear HY
        go_wp2
        go_roundw
        case rel => exact ⟨k + 1, by omega, by go_num, hb1, HS⟩
        case measure => simp [intOf]; omega
      · replace HY := Lib.hid (HY.out rfl)
        clear HS
        go_wp2
        go_ret
        exact ⟨⟨_, rfl, by rw [HY.out]; simp⟩, hb1⟩
    · have HE : Hid (l.any (offZ s) = false) := Lib.hid (any_no (d := 0) fun j hj => HP.out j (by omega))
      clear HP
      go_wp2
      go_ret
      exact ⟨⟨_, rfl, by rw [HE.out]; rfl⟩, hbl⟩
theorem containsZ (a : Option Addr) (cap : Nat) (l : List Int) (s : Int) (sb fb : Nat) (w : World) (hn : l.length ≤ 1000000) (hr : Els 1 encZ w a l.length fun k => l.getD k 0) (hO : OffAt w sb fb s) (h1 : 1 ≤ s) (hs : inR s) (hL : ∀ k, inR (l.getD k 0)) :
    Calls Try.prog 26 #[.slice a l.length cap, .func (.func 25) #[] #[.pointer (some ⟨sb, 0, none⟩)]] w fun e w' => e = .returned (.bool (l.any (offZ s))) ∧ Below w.heap.size w w' := by
  have c := indexZ a cap l s sb fb w hn hr hO h1 hs hL
  generalize l.any (offZ s) = r at *
  go_enter Try.func26, Try.ntmps26
  go_wp2_with (refine c.mono ?_; rintro e w1 ⟨⟨r, rfl, hr⟩, b1⟩)
  go_ret
  rw [← hr]
  exact ⟨rfl, b1⟩
set_option maxHeartbeats 4000000 in
theorem itemOff_any (x : I7) (s : Int) (sb fb : Nat) (w : World) (hO : OffAt w sb fb s) (h1 : 1 ≤ s) (hs : inR s) (hx : inI x) :
    Calls Try.prog 29 #[.agg #[.int .i64 x.k, .int .i64 x.h, .int .i64 x.f, .int .i64 x.s, .int .i64 x.o, .int .i64 x.r, .int .i64 x.n], .func (.func 25) #[] #[.pointer (some ⟨sb, 0, none⟩)]] w fun e w' => e = .returned (.bool (offI s x)) ∧ Below w.heap.size w w' := by
  obtain ⟨k, h, f, st, o, r, n⟩ := x
  have hh : inR h := hx.2.1
  have c := fun x (hx : Old w x) => off_any s h sb x (hO.1.old hx) h1 hs hh
  have b0 := tbel1 w (.cells #[.int .i64 k, .int .i64 h, .int .i64 f, .int .i64 st, .int .i64 o, .int .i64 r, .int .i64 n] 39)
  have B := blk_new w #[.int .i64 k, .int .i64 h, .int .i64 f, .int .i64 st, .int .i64 o, .int .i64 r, .int .i64 n] 39
  unfold offI
  dsimp only
  clear hO hx hh
  have c1 := c _ b0
  clear c
  generalize offZ s h = z at *
  by_cases k1 : k = 1
  · subst k1
    simp only [if_true]
    go_enter Try.func29, Try.ntmps29
    go_wp2_with fail
    refine c1.mono ?_
    rintro e w1 ⟨rfl, b1⟩
    go_wp2
    go_ret
    exact ⟨rfl, tstep b0 b1 b0.size⟩
  by_cases k2 : k = 2
  · subst k2
    simp only [show ¬ ((2 : Int) = 1) by decide, if_false, if_true]
    cases z
    · by_cases e1 : st = 0
      · subst e1
        by_cases e2 : o = 0
        · subst e2
          by_cases e3 : r = 0
          · subst e3
            go_enter Try.func29, Try.ntmps29
            go_wp2_with fail
            refine c1.mono ?_
            rintro e w1 ⟨rfl, b1⟩
            obtain ⟨q0, q1, q2, q3, q4, q5, q6⟩ := (B.old b1).seven
            go_wp2
            go_ret
            exact ⟨rfl, tstep b0 b1 b0.size⟩
          · have g3 : (r != 0) = true := by simpa using e3
            have HE : Hid (¬ r = 0) := Lib.hid e3
            clear e3
            go_enter Try.func29, Try.ntmps29
            go_wp2_with fail
            refine c1.mono ?_
            rintro e w1 ⟨rfl, b1⟩
            obtain ⟨q0, q1, q2, q3, q4, q5, q6⟩ := (B.old b1).seven
            go_wp2
            go_ret
            exact ⟨by simp [HE.out], tstep b0 b1 b0.size⟩
        · have g3 : (o != 0) = true := by simpa using e2
          have HE : Hid (¬ o = 0) := Lib.hid e2
          clear e2
          go_enter Try.func29, Try.ntmps29
          go_wp2_with fail
          refine c1.mono ?_
          rintro e w1 ⟨rfl, b1⟩
          obtain ⟨q0, q1, q2, q3, q4, q5, q6⟩ := (B.old b1).seven
          go_wp2
          go_ret
          exact ⟨by simp [HE.out], tstep b0 b1 b0.size⟩
      · have g3 : (st != 0) = true := by simpa using e1
        have HE : Hid (¬ st = 0) := Lib.hid e1
        clear e1
        go_enter Try.func29, Try.ntmps29
        go_wp2_with fail
        refine c1.mono ?_
        rintro e w1 ⟨rfl, b1⟩
        obtain ⟨q0, q1, q2, q3, q4, q5, q6⟩ := (B.old b1).seven
        go_wp2
        go_ret
        exact ⟨by simp [HE.out], tstep b0 b1 b0.size⟩
    · go_enter Try.func29, Try.ntmps29
      go_wp2_with fail
      refine c1.mono ?_
      rintro e w1 ⟨rfl, b1⟩
      go_wp2
      go_ret
      exact ⟨by simp, tstep b0 b1 b0.size⟩
  · have e1 : (k == 1) = false := by simpa using k1
    have e2 : (k == 2) = false := by simpa using k2
    rw [if_neg k1, if_neg k2]
    go_enter Try.func29, Try.ntmps29
    go_wp2
    go_ret
    exact ⟨rfl, b0⟩
theorem on2_any (x : I7) (s : Int) (sb fb : Nat) (w : World) (hO : OffAt w sb fb s) (h1 : 1 ≤ s) (hs : inR s) (hx : inI x) :
    Calls Try.prog 28 #[.agg #[.int .i64 x.k, .int .i64 x.h, .int .i64 x.f, .int .i64 x.s, .int .i64 x.o, .int .i64 x.r, .int .i64 x.n], .pointer (some ⟨fb, 0, none⟩)] w fun e w' => e = .returned (.bool (offI s x)) ∧ Below w.heap.size w w' := by
  have b0 := tbel1 w (.cells #[.int .i64 x.k, .int .i64 x.h, .int .i64 x.f, .int .i64 x.s, .int .i64 x.o, .int .i64 x.r, .int .i64 x.n] 39)
  have c := itemOff_any x s sb fb _ (hO.old b0) h1 hs hx
  have q := hO.2.cell 0
  simp only [List.getElem?_toArray, List.getElem?_cons_zero] at q
  have hlt := hO.2.lt
  generalize offI s x = z at *
  go_enter Try.func28, Try.ntmps28
  go_wp2_with fail
  refine c.mono ?_
  rintro e w1 ⟨rfl, b1⟩
  go_wp2
  go_ret
  exact ⟨rfl, tstep b0 b1 b0.size⟩
set_option maxHeartbeats 1000000 in
theorem indexI (a : Option Addr) (cap : Nat) (l : List I7) (s : Int) (sb fb : Nat) (w : World) (hn : l.length ≤ 1000000) (hr : Els 7 encI w a l.length fun k => l.getD k zeroI) (hO : OffAt w sb fb s) (h1 : 1 ≤ s) (hs : inR s) (hL : ∀ k, inI (l.getD k zeroI)) :
    Calls Try.prog 53 #[.slice a l.length cap, .func (.func 28) #[] #[.pointer (some ⟨fb, 0, none⟩)]] w fun e w' => (∃ r : Int, e = .returned (.int .i64 r) ∧ decide (0 ≤ r) = l.any (offI s)) ∧ Below w.heap.size w w' := by
  have HR := Lib.hid hr
  have HC := Lib.hid fun (k : Nat) (hk : k < l.length) x (hx : Below w.heap.size w x) => on2_any (l.getD k zeroI) s sb fb x (hO.old hx) h1 hs (hL k)
  clear hr
  go_enter Try.func53, Try.ntmps53
  go_wp2_with fail
  go_loopw [8] (fun i wr => ∃ k : Nat, k ≤ l.length ∧ i = .int .i64 k ∧ Below w.heap.size w wr ∧ Hid (∀ j, j < k → offI s (l.getD j zeroI) = false)) (fun i _ => l.length - (intOf i).toNat)
  case atStart => exact ⟨0, Nat.zero_le _, rfl, Below.refl _ _, Lib.hid fun j hj => by omega⟩
  case round =>
    obtain ⟨k, hk, rfl, hbl, HP⟩ := hrel
    by_cases hlt : k < l.length
    · obtain ⟨b, off, rfl, hB, p0, p1, p2, p3, p4, p5, p6⟩ := els7 (HR.out.carry hbl) hlt
      have c := HC.out k hlt _ hbl
      have HY := Lib.hid (any_yes (p := offI s) (d := zeroI) hlt)
      have HS : Hid (offI s (l.getD k zeroI) = false → ∀ j, j < k + 1 → offI s (l.getD j zeroI) = false) := Lib.hid fun h j hj => by
        rcases Nat.lt_or_ge j k with h1 | h1
        · exact HP.out j h1
        · obtain rfl : j = k := by omega
          exact h
      clear HP HC HR
      generalize l.getD k zeroI = x at *
      generalize offI s x = r at *
      go_wp2_with fail
      refine c.mono ?_
      rintro e w1 ⟨rfl, b1⟩
      have hb1 := tstep hbl b1 hbl.size
      clear c b1 p0 p1 p2 p3 p4 p5 p6
      cases r
      · replace HS := Lib.hid (HS.out rfl)
        clear HY
        go_wp2
        go_roundw
        case rel => exact ⟨k + 1, by omega, by go_num, hb1, HS⟩
        case measure => simp [intOf]; omega
      · replace HY := Lib.hid (HY.out rfl)
        clear HS
        go_wp2
        go_ret
        exact ⟨⟨_, rfl, by rw [HY.out]; simp⟩, hb1⟩
    · have HE : Hid (l.any (offI s) = false) := Lib.hid (any_no (d := zeroI) fun j hj => HP.out j (by omega))
      clear HP
      go_wp2
      go_ret
      exact ⟨⟨_, rfl, by rw [HE.out]; rfl⟩, hbl⟩
theorem containsI (a : Option Addr) (cap : Nat) (l : List I7) (s : Int) (sb fb : Nat) (w : World) (hn : l.length ≤ 1000000) (hr : Els 7 encI w a l.length fun k => l.getD k zeroI) (hO : OffAt w sb fb s) (h1 : 1 ≤ s) (hs : inR s) (hL : ∀ k, inI (l.getD k zeroI)) :
    Calls Try.prog 27 #[.slice a l.length cap, .func (.func 28) #[] #[.pointer (some ⟨fb, 0, none⟩)]] w fun e w' => e = .returned (.bool (l.any (offI s))) ∧ Below w.heap.size w w' := by
  have c := indexI a cap l s sb fb w hn hr hO h1 hs hL
  generalize l.any (offI s) = r at *
  go_enter Try.func27, Try.ntmps27
  go_wp2_with (refine c.mono ?_; rintro e w1 ⟨⟨r, rfl, hr⟩, b1⟩)
  go_ret
  rw [← hr]
  exact ⟨rfl, b1⟩
theorem on4_any (x : F3) (s : Int) (sb fb : Nat) (w : World) (hO : OffAt w sb fb s) (h1 : 1 ≤ s) (hs : inR s) (hx : inF x) :
    Calls Try.prog 33 #[.agg #[.int .i64 x.c, .int .i64 x.h, .int .i64 x.p], .pointer (some ⟨fb, 0, none⟩)] w fun e w' => e = .returned (.bool (offF s x)) ∧ Below w.heap.size w w' := by
  have b0 := tbel1 w (.cells #[.int .i64 x.c, .int .i64 x.h, .int .i64 x.p] 41)
  have c := off_any s x.h sb _ (hO.1.old b0) h1 hs hx.2.1
  have q := hO.2.cell 0
  simp only [List.getElem?_toArray, List.getElem?_cons_zero] at q
  have hlt := hO.2.lt
  unfold offF
  generalize offZ s x.h = z at *
  go_enter Try.func33, Try.ntmps33
  go_wp2_with fail
  refine c.mono ?_
  rintro e w1 ⟨rfl, b1⟩
  go_wp2
  go_ret
  exact ⟨rfl, tstep b0 b1 b0.size⟩
set_option maxHeartbeats 1000000 in
theorem indexF (a : Option Addr) (cap : Nat) (l : List F3) (s : Int) (sb fb : Nat) (w : World) (hn : l.length ≤ 1000000) (hr : Els 3 encF w a l.length fun k => l.getD k zeroF) (hO : OffAt w sb fb s) (h1 : 1 ≤ s) (hs : inR s) (hL : ∀ k, inF (l.getD k zeroF)) :
    Calls Try.prog 55 #[.slice a l.length cap, .func (.func 33) #[] #[.pointer (some ⟨fb, 0, none⟩)]] w fun e w' => (∃ r : Int, e = .returned (.int .i64 r) ∧ decide (0 ≤ r) = l.any (offF s)) ∧ Below w.heap.size w w' := by
  have HR := Lib.hid hr
  have HC := Lib.hid fun (k : Nat) (hk : k < l.length) x (hx : Below w.heap.size w x) => on4_any (l.getD k zeroF) s sb fb x (hO.old hx) h1 hs (hL k)
  clear hr
  go_enter Try.func55, Try.ntmps55
  go_wp2_with fail
  go_loopw [8] (fun i wr => ∃ k : Nat, k ≤ l.length ∧ i = .int .i64 k ∧ Below w.heap.size w wr ∧ Hid (∀ j, j < k → offF s (l.getD j zeroF) = false)) (fun i _ => l.length - (intOf i).toNat)
  case atStart => exact ⟨0, Nat.zero_le _, rfl, Below.refl _ _, Lib.hid fun j hj => by omega⟩
  case round =>
    obtain ⟨k, hk, rfl, hbl, HP⟩ := hrel
    by_cases hlt : k < l.length
    · obtain ⟨b, off, rfl, hB, p0, p1, p2⟩ := els3 (HR.out.carry hbl) hlt
      have c := HC.out k hlt _ hbl
      have HY := Lib.hid (any_yes (p := offF s) (d := zeroF) hlt)
      have HS : Hid (offF s (l.getD k zeroF) = false → ∀ j, j < k + 1 → offF s (l.getD j zeroF) = false) := Lib.hid fun h j hj => by
        rcases Nat.lt_or_ge j k with h1 | h1
        · exact HP.out j h1
        · obtain rfl : j = k := by omega
          exact h
      clear HP HC HR
      generalize l.getD k zeroF = x at *
      generalize offF s x = r at *
      go_wp2_with fail
      refine c.mono ?_
      rintro e w1 ⟨rfl, b1⟩
      have hb1 := tstep hbl b1 hbl.size
      clear c b1 p0 p1 p2
      cases r
      · replace HS := Lib.hid (HS.out rfl)
        clear HY
        go_wp2
        go_roundw
        case rel => exact ⟨k + 1, by omega, by go_num, hb1, HS⟩
        case measure => simp [intOf]; omega
      · replace HY := Lib.hid (HY.out rfl)
        clear HS
        go_wp2
        go_ret
        exact ⟨⟨_, rfl, by rw [HY.out]; simp⟩, hb1⟩
    · have HE : Hid (l.any (offF s) = false) := Lib.hid (any_no (d := zeroF) fun j hj => HP.out j (by omega))
      clear HP
      go_wp2
      go_ret
      exact ⟨⟨_, rfl, by rw [HE.out]; rfl⟩, hbl⟩
theorem containsF (a : Option Addr) (cap : Nat) (l : List F3) (s : Int) (sb fb : Nat) (w : World) (hn : l.length ≤ 1000000) (hr : Els 3 encF w a l.length fun k => l.getD k zeroF) (hO : OffAt w sb fb s) (h1 : 1 ≤ s) (hs : inR s) (hL : ∀ k, inF (l.getD k zeroF)) :
    Calls Try.prog 32 #[.slice a l.length cap, .func (.func 33) #[] #[.pointer (some ⟨fb, 0, none⟩)]] w fun e w' => e = .returned (.bool (l.any (offF s))) ∧ Below w.heap.size w w' := by
  have c := indexF a cap l s sb fb w hn hr hO h1 hs hL
  generalize l.any (offF s) = r at *
  go_enter Try.func32, Try.ntmps32
  go_wp2_with (refine c.mono ?_; rintro e w1 ⟨⟨r, rfl, hr⟩, b1⟩)
  go_ret
  rw [← hr]
  exact ⟨rfl, b1⟩
end Go.Proofs.Ytllpimhjpfkgpaa
