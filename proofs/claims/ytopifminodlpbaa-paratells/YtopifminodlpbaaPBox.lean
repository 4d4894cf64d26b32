/- The search of package para; what its closures tell; flags and positive. -/
import Derived.Test.YtopifminodlpbaaPMath
import Derived.Test.YtopifminodlpbaaAMay
import Derived.Test.YtopifminodlpbaaEWith
import Derived.WalkMore
import Derived.LoopN
namespace Go.Proofs.Ytopifminodlpbaa
open Go.RowKit
set_option maxRecDepth 20000
set_option linter.unusedVariables false
set_option linter.unusedSimpArgs false

theorem pdn_any (n b : Int) (p : Nat) (w : World) (h : Blk w p #[.int .i64 b] 3) :
    Calls Try.prog 27 #[.int .i64 n, .pointer (some ⟨p, 0, none⟩)] w fun e w' => e = .returned (.bool (decide (n < b))) ∧ w' = w := by
  have c := h.uno
  go_enter Try.func27, Try.ntmps27
  go_wp2
  go_ret
  exact ⟨rfl, rfl⟩
theorem pup_any (n b : Int) (p : Nat) (w : World) (h : Blk w p #[.int .i64 b] 3) :
    Calls Try.prog 28 #[.int .i64 n, .pointer (some ⟨p, 0, none⟩)] w fun e w' => e = .returned (.bool (decide (b ≤ n))) ∧ w' = w := by
  have c := h.uno
  go_enter Try.func28, Try.ntmps28
  go_wp2
  go_ret
  exact ⟨rfl, rfl⟩
theorem ppos_any (n : Int) (w : World) : Calls Try.prog 23 #[.int .i64 n] w fun e w' => e = .returned (.int .i64 (max n 0)) ∧ w' = w := by
  by_cases h : n < 0
  · have e : max n 0 = 0 := by omega
    rw [e]
    go_enter Try.func23, Try.ntmps23
    go_wp2
    go_ret
    exact ⟨rfl, rfl⟩
  · have e : max n 0 = n := by omega
    rw [e]
    go_enter Try.func23, Try.ntmps23
    go_wp2
    go_ret
    exact ⟨rfl, rfl⟩
theorem pflags_any (v : Value) (l : List I7) (n : Int) (w : World) (h : VAt w v l) (hl : l.length ≤ 1000000) :
    Calls Try.prog 29 #[v, .int .i64 n] w fun e w' => e = .returned (.int .i64 (atV l n).f) ∧ Below w.heap.size w w' := by
  have c := vat_any v l n w h hl
  clear h
  generalize hasV l n = y at *
  generalize atV l n = x at *
  obtain ⟨x0, x1, x2, x3, x4, x5, x6⟩ := x
  unfold itm at c
  dsimp only at c ⊢
  go_enter Try.func29, Try.ntmps29
  go_wp2_with fail
  refine c.mono ?_
  rintro e w1 ⟨rfl, b1⟩
  clear c
  go_wp2
  go_ret
  exact ⟨rfl, b1.alloc b1.size _⟩
set_option maxHeartbeats 1000000 in
/-- The search: T is what it finds from n on, in steps s, where fit fits. -/
theorem pbox_any (v cap : Value) (l : List I7) (n s : Int) (F : Nat) (fit : Int → Bool) (T : Int → Int) (M : Int → Nat) (D : Int → Prop) (w : World) (h : VAt w v l) (hl : l.length ≤ 1000000) (hs : s = 1 ∨ s = -1) (hD : D n)
    (h0 : ∀ n, D n → hasV l n = false → T n = -1)
    (h1 : ∀ n, D n → hasV l n = true → (atV l n).k = 1 → fit n = true → T n = n)
    (h2 : ∀ n, D n → hasV l n = true → ¬ ((atV l n).k = 1 ∧ fit n = true) → D (n + s) ∧ T (n + s) = T n ∧ M (n + s) < M n)
    (hF : ∀ x w, Sem.run Try.prog (callFunc F #[x, cap]) w = .ok (.enter F #[x, cap]) w)
    (hC : ∀ n x, Below w.heap.size w x → Calls Try.prog F #[.int .i64 n, cap] x fun e y => e = .returned (.bool (fit n)) ∧ y = x) :
    Calls Try.prog 25 #[v, .int .i64 n, .int .i64 s, .func (.func F) #[] #[cap]] w fun e w' => e = .returned (.int .i64 (T n)) ∧ Below w.heap.size w w' := by
  have HL := Lib.hid fun n w' (hb : Below w.heap.size w w') => vat_any v l n w' (h.carry hb) hl
  have HC := Lib.hid hC
  have H0 := Lib.hid h0
  have H1 := Lib.hid h1
  have H2 := Lib.hid h2
  have HD := Lib.hid hD
  clear h hC h0 h1 h2 hD
  generalize hr : T n = r
  have HR := Lib.hid hr
  clear hr
  go_enter Try.func25, Try.ntmps25
  go_wp2_with fail
  go_step3
  go_wp2_with fail
  go_step3
  go_wp2_with fail
  go_loopw [1] (fun i wr => ∃ k : Int, i = .int .i64 k ∧ Below w.heap.size w wr ∧ Hid (D k) ∧ Hid (T k = r)) (fun i _ => M (intOf i))
  case atStart => exact ⟨n, rfl, Below.refl _ _, HD, HR⟩
  case round =>
    clear HD HR
    obtain ⟨k, rfl, hbl, hd, ht⟩ := hrel
    have ca := HL.out k _ hbl
    have cc := fun x (hb : Below w.heap.size w x) => HC.out k x hb
    have g0 := Lib.hid fun h => (H0.out k hd.out h).symm.trans ht.out
    have g1 := Lib.hid fun a b c => (H1.out k hd.out a b c).symm.trans ht.out
    have g2 := Lib.hid fun a b => H2.out k hd.out a b
    have g3 := Lib.hid (hasV_iff' (l := l) (n := k))
    clear HL HC H0 H1 H2 hd
    generalize hasV l k = y at *
    generalize atV l k = x at *
    generalize fit k = z at *
    obtain ⟨x0, x1, x2, x3, x4, x5, x6⟩ := x
    unfold itm at ca
    dsimp only at ca g1 g2
    cases y
    · replace g0 := Lib.hid (g0.out rfl)
      clear g1 g2 g3 cc
      go_wp2_with fail
      refine ca.mono ?_
      rintro e w1 ⟨rfl, b1⟩
      have b2 := tstep hbl (b1.alloc b1.size (.cells #[.int .i64 x0, .int .i64 x1, .int .i64 x2, .int .i64 x3, .int .i64 x4, .int .i64 x5, .int .i64 x6] 28)) hbl.size
      clear ca b1
      go_wp2
      rw [Exit.noGoto_ret]
      go_ret
      exact ⟨by rw [← g0.out]; rfl, b2⟩
    · replace g3 := g3.out.1 rfl
      clear g0
      by_cases hk : x0 = 1
      · subst hk
        go_wp2_with fail
        refine ca.mono ?_
        rintro e w1 ⟨rfl, b1⟩
        have b2 := tstep hbl (b1.alloc b1.size (.cells #[.int .i64 1, .int .i64 x1, .int .i64 x2, .int .i64 x3, .int .i64 x4, .int .i64 x5, .int .i64 x6] 28)) hbl.size
        replace cc := cc _ b2
        clear ca b1
        go_wp2_with fail
        refine cc.mono ?_
        rintro e w2 ⟨rfl, rfl⟩
        clear cc
        cases z
        · replace g2 := g2.out trivial (fun h => by cases h.2)
          have g4 := Lib.hid g2
          clear g2 g1
          go_wp2
          go_roundw
          case rel => exact ⟨k + s, by go_num, b2, Lib.hid g4.out.1, Lib.hid (g4.out.2.1.trans ht.out)⟩
          case measure => exact g4.out.2.2
        · replace g1 := Lib.hid (g1.out trivial trivial rfl)
          clear g2
          go_wp2
          rw [Exit.noGoto_ret]
          go_ret
          exact ⟨by rw [← g1.out]; rfl, b2⟩
      · have g4 := Lib.hid (g2.out rfl (fun h => hk h.1))
        have f1 : (x0 == 1) = false := by simpa using hk
        clear g2 g1 cc
        go_wp2_with fail
        refine ca.mono ?_
        rintro e w1 ⟨rfl, b1⟩
        have b2 := tstep hbl (b1.alloc b1.size (.cells #[.int .i64 x0, .int .i64 x1, .int .i64 x2, .int .i64 x3, .int .i64 x4, .int .i64 x5, .int .i64 x6] 28)) hbl.size
        clear ca b1
        go_wp2
        go_roundw
        case rel => exact ⟨k + s, by go_num, b2, Lib.hid g4.out.1, Lib.hid (g4.out.2.1.trans ht.out)⟩
        case measure => exact g4.out.2.2
end Go.Proofs.Ytopifminodlpbaa
