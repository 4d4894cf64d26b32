/- Package slices' IndexFunc over any function of one element; the elements that are not well. -/
import Derived.Test.YthcgncgnbjhniaaKMath
import Derived.Test.YthcgncgnbjhniaaJSm
namespace Go.Proofs.Ythcgncgnbjhniaa
open Go.RowKit
set_option maxRecDepth 20000
set_option linter.unusedVariables false
set_option linter.unusedSimpArgs false

set_option maxHeartbeats 1000000 in
theorem findI_any (a : Option Addr) (n cap F : Nat) (E : Nat → I7) (q : Nat → Bool) (c : Value) (w : World) (hn : n ≤ 1000000) (hr : Els 7 encI w a n E)
    (hF : ∀ v w, Sem.run Try.prog (callFunc F #[v, c]) w = .ok (.enter F #[v, c]) w)
    (hC : ∀ k, k < n → ∀ x, Below w.heap.size w x → Calls Try.prog F #[itm (E k), c] x fun e y => e = .returned (.bool (q k)) ∧ Below x.heap.size x y) :
    Calls Try.prog 37 #[.slice a n cap, .func (.func F) #[] #[c]] w fun e w' => e = .returned (.int .i64 (idxK q n)) ∧ Below w.heap.size w w' := by
  unfold itm at hC
  have HR := Lib.hid hr
  have HC := Lib.hid hC
  clear hr hC
  go_enter Try.func37, Try.ntmps37
  go_wp2_with fail
  go_loopw [8] (fun i wr => ∃ k : Nat, k ≤ n ∧ i = .int .i64 k ∧ Below w.heap.size w wr ∧ Hid (∀ j, j < k → q j = false)) (fun i _ => n - (intOf i).toNat)
  case atStart => exact ⟨0, Nat.zero_le _, rfl, Below.refl _ _, Lib.hid fun j hj => by omega⟩
  case round =>
    obtain ⟨k, hk, rfl, hbl, HP⟩ := hrel
    by_cases hlt : k < n
    · obtain ⟨b, off, rfl, hB, p0, p1, p2, p3, p4, p5, p6⟩ := els7 (HR.out.carry hbl) hlt
      have cc := HC.out k hlt _ hbl
      have HY : Hid (q k = true → idxK q n = k) := Lib.hid fun h => idxK_eq hlt h HP.out
      have HS : Hid (q k = false → ∀ j, j < k + 1 → q j = false) := Lib.hid fun h j hj => by
        rcases Nat.lt_or_ge j k with h1 | h1
        · exact HP.out j h1
        · obtain rfl : j = k := by omega
          exact h
      clear HP HC HR
      generalize E k = y at *
      generalize q k = r at *
      go_wp2_with fail
      refine cc.mono ?_
      rintro e w1 ⟨rfl, b1⟩
      have hb1 := tstep hbl b1 hbl.size
      clear cc b1 p0
      cases r
      · replace HS := Lib.hid (HS.out rfl)
        clear HY
        go_wp2
        go_roundw
        case rel => exact ⟨k + 1, by omega, by go_num, hb1, HS⟩
        case measure => simp [intOf]; omega
      · replace HY := Lib.hid (HY.out rfl)
        clear HS
        go_wp2
        go_ret
        exact ⟨by rw [HY.out]; rfl, hb1⟩
    · have HE : Hid (idxK q n = -1) := Lib.hid (idxK_none fun j hj => HP.out j (by omega))
      clear HP HC
      go_wp2
      go_ret
      exact ⟨by rw [HE.out]; rfl, hbl⟩
set_option maxHeartbeats 1000000 in
theorem findF_any (a : Option Addr) (n cap F : Nat) (E : Nat → F3) (q : Nat → Bool) (c : Value) (w : World) (hn : n ≤ 1000000) (hr : Els 3 encF w a n E)
    (hF : ∀ v w, Sem.run Try.prog (callFunc F #[v, c]) w = .ok (.enter F #[v, c]) w)
    (hC : ∀ k, k < n → ∀ x, Below w.heap.size w x → Calls Try.prog F #[flt (E k), c] x fun e y => e = .returned (.bool (q k)) ∧ Below x.heap.size x y) :
    Calls Try.prog 47 #[.slice a n cap, .func (.func F) #[] #[c]] w fun e w' => e = .returned (.int .i64 (idxK q n)) ∧ Below w.heap.size w w' := by
  unfold flt at hC
  have HR := Lib.hid hr
  have HC := Lib.hid hC
  clear hr hC
  go_enter Try.func47, Try.ntmps47
  go_wp2_with fail
  go_loopw [8] (fun i wr => ∃ k : Nat, k ≤ n ∧ i = .int .i64 k ∧ Below w.heap.size w wr ∧ Hid (∀ j, j < k → q j = false)) (fun i _ => n - (intOf i).toNat)
  case atStart => exact ⟨0, Nat.zero_le _, rfl, Below.refl _ _, Lib.hid fun j hj => by omega⟩
  case round =>
    obtain ⟨k, hk, rfl, hbl, HP⟩ := hrel
    by_cases hlt : k < n
    · obtain ⟨b, off, rfl, hB, p0, p1, p2⟩ := els3 (HR.out.carry hbl) hlt
      have cc := HC.out k hlt _ hbl
      have HY : Hid (q k = true → idxK q n = k) := Lib.hid fun h => idxK_eq hlt h HP.out
      have HS : Hid (q k = false → ∀ j, j < k + 1 → q j = false) := Lib.hid fun h j hj => by
        rcases Nat.lt_or_ge j k with h1 | h1
        · exact HP.out j h1
        · obtain rfl : j = k := by omega
          exact h
      clear HP HC HR
      generalize E k = y at *
      generalize q k = r at *
      go_wp2_with fail
      refine cc.mono ?_
      rintro e w1 ⟨rfl, b1⟩
      have hb1 := tstep hbl b1 hbl.size
      clear cc b1 p0
      cases r
      · replace HS := Lib.hid (HS.out rfl)
        clear HY
        go_wp2
        go_roundw
        case rel => exact ⟨k + 1, by omega, by go_num, hb1, HS⟩
        case measure => simp [intOf]; omega
      · replace HY := Lib.hid (HY.out rfl)
        clear HS
        go_wp2
        go_ret
        exact ⟨by rw [HY.out]; rfl, hb1⟩
    · have HE : Hid (idxK q n = -1) := Lib.hid (idxK_none fun j hj => HP.out j (by omega))
      clear HP HC
      go_wp2
      go_ret
      exact ⟨by rw [HE.out]; rfl, hbl⟩
set_option maxHeartbeats 1000000 in
theorem findN_any (a : Option Addr) (n cap F : Nat) (E : Nat → H2) (q : Nat → Bool) (c : Value) (w : World) (hn : n ≤ 1000000) (hr : Els 2 encH w a n E)
    (hF : ∀ v w, Sem.run Try.prog (callFunc F #[v, c]) w = .ok (.enter F #[v, c]) w)
    (hC : ∀ k, k < n → ∀ x, Below w.heap.size w x → Calls Try.prog F #[nte (E k).la (E k).ll (E k).lc (E k).pa (E k).pl (E k).pc, c] x fun e y => e = .returned (.bool (q k)) ∧ Below x.heap.size x y) :
    Calls Try.prog 41 #[.slice a n cap, .func (.func F) #[] #[c]] w fun e w' => e = .returned (.int .i64 (idxK q n)) ∧ Below w.heap.size w w' := by
  unfold nte at hC
  have HR := Lib.hid hr
  have HC := Lib.hid hC
  clear hr hC
  go_enter Try.func41, Try.ntmps41
  go_wp2_with fail
  go_loopw [8] (fun i wr => ∃ k : Nat, k ≤ n ∧ i = .int .i64 k ∧ Below w.heap.size w wr ∧ Hid (∀ j, j < k → q j = false)) (fun i _ => n - (intOf i).toNat)
  case atStart => exact ⟨0, Nat.zero_le _, rfl, Below.refl _ _, Lib.hid fun j hj => by omega⟩
  case round =>
    obtain ⟨k, hk, rfl, hbl, HP⟩ := hrel
    by_cases hlt : k < n
    · obtain ⟨b, off, rfl, hB, p0, p1⟩ := els2 (HR.out.carry hbl) hlt
      have cc := HC.out k hlt _ hbl
      have HY : Hid (q k = true → idxK q n = k) := Lib.hid fun h => idxK_eq hlt h HP.out
      have HS : Hid (q k = false → ∀ j, j < k + 1 → q j = false) := Lib.hid fun h j hj => by
        rcases Nat.lt_or_ge j k with h1 | h1
        · exact HP.out j h1
        · obtain rfl : j = k := by omega
          exact h
      clear HP HC HR
      generalize E k = y at *
      generalize q k = r at *
      go_wp2_with fail
      refine cc.mono ?_
      rintro e w1 ⟨rfl, b1⟩
      have hb1 := tstep hbl b1 hbl.size
      clear cc b1 p0
      cases r
      · replace HS := Lib.hid (HS.out rfl)
        clear HY
        go_wp2
        go_roundw
        case rel => exact ⟨k + 1, by omega, by go_num, hb1, HS⟩
        case measure => simp [intOf]; omega
      · replace HY := Lib.hid (HY.out rfl)
        clear HS
        go_wp2
        go_ret
        exact ⟨by rw [HY.out]; rfl, hb1⟩
    · have HE : Hid (idxK q n = -1) := Lib.hid (idxK_none fun j hj => HP.out j (by omega))
      clear HP HC
      go_wp2
      go_ret
      exact ⟨by rw [HE.out]; rfl, hbl⟩
theorem find_q {q r : Nat → Bool} {n : Nat} (h : ∀ k, k < n → q k = r k) : idxK q n = idxK r n := idxK_congr h

theorem wrongI_clo (x : I7) (p : Nat) (w : World) (hp : Blk w p #[.func (.func 25) #[] #[]] 59) :
    Calls Try.prog 38 #[itm x, .pointer (some ⟨p, 0, none⟩)] w fun e w' => e = .returned (.bool (!rightI x)) ∧ Below w.heap.size w w' := by
  have q := hp.cell 0
  have hlt := hp.lt
  simp only [List.getElem?_toArray, List.getElem?_cons_zero] at q
  clear hp
  have c := fun w => check_any x w
  unfold itm at *
  unfold checkI at c
  generalize rightI x = r at *
  cases r
  all_goals
    go_enter Try.func38, Try.ntmps38
    go_wp2_with (refine (c _).mono ?_; rintro e w1 ⟨rfl, b1⟩)
    go_ret
    exact ⟨rfl, tstep (tbel1 w _) b1 (tbel1 w _).size⟩
theorem wrongI_any (a : Option Addr) (cap : Nat) (l : List I7) (w : World) (hn : l.length ≤ 1000000) (hr : Els 7 encI w a l.length fun k => l.getD k zeroI) :
    Calls Try.prog 24 #[.slice a l.length cap, .func (.func 25) #[] #[]] w fun e w' => e = .returned (.int .i64 (idxK (itemQ l) l.length)) ∧ Below w.heap.size w w' := by
  have c := Lib.hid fun x (hx : Below w.heap.size w x) (p : Nat) (hp : Blk x p #[.func (.func 25) #[] #[]] 59) => findI_any a l.length cap 38 (fun k => l.getD k zeroI) (itemQ l) (.pointer (some ⟨p, 0, none⟩)) x hn (hr.carry hx) (fun v w => by kernel_rfl) fun k hk y hy => wrongI_clo (l.getD k zeroI) p y (hp.old hy)
  have c1 := c.out _ (tbel1 w (.cells #[.func (.func 25) #[] #[]] 59)) w.heap.size (blk_new w _ _)
  clear c hr
  generalize idxK (itemQ l) l.length = z at *
  go_enter Try.func24, Try.ntmps24
  go_wp2_with fail
  refine c1.mono ?_
  rintro e w1 ⟨rfl, b1⟩
  go_wp2
  go_ret
  exact ⟨rfl, tstep (tbel1 w _) b1 (tbel1 w _).size⟩

theorem wrongF_clo (x : F3) (p : Nat) (w : World) (hp : Blk w p #[.func (.func 31) #[] #[]] 63) :
    Calls Try.prog 48 #[flt x, .pointer (some ⟨p, 0, none⟩)] w fun e w' => e = .returned (.bool (!rightF x)) ∧ Below w.heap.size w w' := by
  have q := hp.cell 0
  have hlt := hp.lt
  simp only [List.getElem?_toArray, List.getElem?_cons_zero] at q
  clear hp
  have c := fun w => fcheck_any x w
  unfold flt at *
  unfold errF at c
  generalize rightF x = r at *
  cases r
  all_goals
    go_enter Try.func48, Try.ntmps48
    go_wp2_with (refine (c _).mono ?_; rintro e w1 ⟨rfl, b1⟩)
    go_ret
    exact ⟨rfl, tstep (tbel1 w _) b1 (tbel1 w _).size⟩
theorem wrongF_any (a : Option Addr) (cap : Nat) (l : List F3) (w : World) (hn : l.length ≤ 1000000) (hr : Els 3 encF w a l.length fun k => l.getD k zeroF) :
    Calls Try.prog 30 #[.slice a l.length cap, .func (.func 31) #[] #[]] w fun e w' => e = .returned (.int .i64 (idxK (floatQ l) l.length)) ∧ Below w.heap.size w w' := by
  have c := Lib.hid fun x (hx : Below w.heap.size w x) (p : Nat) (hp : Blk x p #[.func (.func 31) #[] #[]] 63) => findF_any a l.length cap 48 (fun k => l.getD k zeroF) (floatQ l) (.pointer (some ⟨p, 0, none⟩)) x hn (hr.carry hx) (fun v w => by kernel_rfl) fun k hk y hy => wrongF_clo (l.getD k zeroF) p y (hp.old hy)
  have c1 := c.out _ (tbel1 w (.cells #[.func (.func 31) #[] #[]] 63)) w.heap.size (blk_new w _ _)
  clear c hr
  generalize idxK (floatQ l) l.length = z at *
  go_enter Try.func30, Try.ntmps30
  go_wp2_with fail
  refine c1.mono ?_
  rintro e w1 ⟨rfl, b1⟩
  go_wp2
  go_ret
  exact ⟨rfl, tstep (tbel1 w _) b1 (tbel1 w _).size⟩

theorem wrongN_clo (h : H2) (n : N2) (p : Nat) (w : World) (hp : Blk w p #[.func (.func 28) #[] #[]] 61) (hN : NoteOk w h n) :
    Calls Try.prog 42 #[nte h.la h.ll h.lc h.pa h.pl h.pc, .pointer (some ⟨p, 0, none⟩)] w fun e w' => e = .returned (.bool (!checkN n.l n.p)) ∧ Below w.heap.size w w' := by
  have q := hp.cell 0
  have hlt := hp.lt
  simp only [List.getElem?_toArray, List.getElem?_cons_zero] at q
  clear hp
  obtain ⟨n1, n2, n3, n4, r1, r2⟩ := hN
  obtain ⟨la, ll, lc, pa, pl, pc⟩ := h
  obtain ⟨L, P⟩ := n
  dsimp only at *
  subst n1 n2
  have m3 := Nat.le_trans n3.1 n3.2
  have m4 := Nat.le_trans n4.1 n4.2
  simp only [maxLen] at m3 m4
  have c0 := Lib.hid fun x (hx : Below w.heap.size w x) => ncheck_any la lc L pa pc P x (by omega) (by omega) ((r1.carry hx (Nat.le_refl _)).mono hx.size) ((r2.carry hx (Nat.le_refl _)).mono hx.size)
  have c := c0.out _ (tbel1 w (.cells #[.slice la L.length lc, .slice pa P.length pc] 54))
  clear c0 n3 n4 r1 r2
  unfold nte at *
  unfold errN at c
  generalize checkN L P = r at *
  cases r
  all_goals
    go_enter Try.func42, Try.ntmps42
    go_wp2_with (refine c.mono ?_; rintro e w1 ⟨rfl, b1⟩)
    go_ret
    exact ⟨rfl, tstep (tbel1 w _) b1 (tbel1 w _).size⟩
theorem wrongN_any (a : Option Addr) (cap : Nat) (l : List N2) (w : World) (hn : l.length ≤ 1000000) (hr : NotesAt w a l) :
    Calls Try.prog 27 #[.slice a l.length cap, .func (.func 28) #[] #[]] w fun e w' => e = .returned (.int .i64 (idxK (noteQ l) l.length)) ∧ Below w.heap.size w w' := by
  obtain ⟨hs, hE, hN⟩ := hr
  have c := Lib.hid fun x (hx : Below w.heap.size w x) (p : Nat) (hp : Blk x p #[.func (.func 28) #[] #[]] 61) => findN_any a l.length cap 42 hs (noteQ l) (.pointer (some ⟨p, 0, none⟩)) x hn (hE.carry hx) (fun v w => by kernel_rfl) fun k hk y hy => wrongN_clo (hs k) (l.getD k zeroN) p y (hp.old hy) (((hN k hk).carry hx).carry hy)
  have c1 := c.out _ (tbel1 w (.cells #[.func (.func 28) #[] #[]] 61)) w.heap.size (blk_new w _ _)
  clear c
  generalize idxK (noteQ l) l.length = z at *
  go_enter Try.func27, Try.ntmps27
  go_wp2_with fail
  refine c1.mono ?_
  rintro e w1 ⟨rfl, b1⟩
  go_wp2
  go_ret
  exact ⟨rfl, tstep (tbel1 w _) b1 (tbel1 w _).size⟩
end Go.Proofs.Ythcgncgnbjhniaa
