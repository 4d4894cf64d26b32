/- The document's May and Must of layer 18. The document's Ahead, Behind, Club and Widow of layer 20. -/
import Derived.Test.YtopifminodlpbaaPMath
import Derived.Test.YtopifminodlpbaaAMay
import Derived.LoopN
namespace Go.Proofs.Ytopifminodlpbaa
open Go.RowKit
set_option maxRecDepth 20000
set_option linter.unusedVariables false
set_option linter.unusedSimpArgs false

def mustR (l : List I7) (b : Int) : Bool := decide (1 ≤ b) && decide (b < l.length) && forcesI (atV l b)
theorem inV_doc (l : List I7) (b : Int) : inV l b = (mayV l b && !decide (b = l.length) && !mustR l b) := by
  by_cases hm : mayV l b = true
  · have hb : 1 ≤ b ∧ b ≤ l.length := by
      unfold mayV at hm
      by_cases h0 : b < 1
      · rw [if_pos h0] at hm; cases hm
      · rw [if_neg h0] at hm
        by_cases h1 : b < l.length
        · omega
        · rw [if_neg h1] at hm
          have := of_decide_eq_true hm
          omega
    unfold inV mustR
    rw [hm, decide_eq_true (p := 1 ≤ b) hb.1]
    by_cases h2 : b = l.length
    · rw [decide_eq_true h2, hasV_no (.inr (by omega))]; rfl
    · rw [decide_eq_false h2, decide_eq_true (p := b < (l.length : Int)) (by omega), hasV_yes (by omega) (by omega)]
      simp
  · have : mayV l b = false := by simpa using hm
    unfold inV
    rw [this]
    simp
theorem rmay18_any (a : Option Addr) (cap : Nat) (l : List I7) (b : Int) (w : World) (hl : l.length ≤ 1000000) (hr : Els 7 encI w a l.length fun k => l.getD k zeroI) :
    Calls Try.prog 18 #[.slice a l.length cap, .int .i64 b] w fun e w' => e = .returned (.bool (mayV l b)) ∧ Below w.heap.size w w' := by
  unfold mayV
  by_cases h0 : b < 1
  · rw [if_pos h0]
    clear hr
    go_enter Try.func18, Try.ntmps18
    go_wp2
    go_ret
    exact ⟨rfl, Below.refl _ _⟩
  rw [if_neg h0]
  by_cases h1 : b < l.length
  · rw [if_pos h1]
    obtain ⟨j, hj⟩ : ∃ j : Nat, b - 1 = j := ⟨(b - 1).toNat, by omega⟩
    obtain ⟨k, rfl⟩ : ∃ k : Nat, b = k := ⟨b.toNat, by omega⟩
    have hk : k < l.length := by omega
    have hj' : j < l.length := by omega
    rw [hj, atV_in hk, atV_in hj']
    obtain ⟨B, off, rfl, hB, d0, d1, d2, d3, d4, d5, d6⟩ := hr.item hk
    obtain ⟨B', off', e', _, c0, c1, c2, c3, c4, c5, c6⟩ := hr.item hj'
    cases e'
    have cl := fun x => rloose_any (l.getD j zeroI) x
    clear hr
    generalize l.getD k zeroI = x at *
    generalize l.getD j zeroI = y at *
    generalize l.length = N at *
    obtain ⟨x0, x1, x2, x3, x4, x5, x6⟩ := x
    by_cases k2 : x0 = 2
    · subst k2
      rw [if_pos rfl]
      generalize looseI y = z at *
      obtain ⟨y0, y1, y2, y3, y4, y5, y6⟩ := y
      unfold itm at cl
      dsimp only at *
      have f1 : ((k : Int) == (N : Int)) = false := by simp; omega
      go_enter Try.func18, Try.ntmps18
      go_wp2_with fail
      refine (cl _).mono ?_
      rintro e w1 ⟨rfl, b1⟩
      clear cl
      go_wp2
      go_ret
      exact ⟨rfl, b1⟩
    · rw [if_neg k2]
      clear cl c0 c1 c2 c3 c4 c5 c6 hj hj'
      dsimp only at *
      have f1 : ((k : Int) == (N : Int)) = false := by simp; omega
      have f2 : (x0 == 2) = false := by simpa using k2
      by_cases k3 : x0 = 3
      · subst k3
        rw [if_pos rfl]
        have e : (!forbidsI ⟨3, x1, x2, x3, x4, x5, x6⟩) = decide (x6 < 10000) := by
          unfold forbidsI hasK
          by_cases g : x6 < 10000
          · rw [decide_eq_true g, decide_eq_false (p := (10000 : Int) ≤ x6) (by omega)]; rfl
          · rw [decide_eq_false g, decide_eq_true (p := (10000 : Int) ≤ x6) (by omega)]; rfl
        rw [e]
        clear e
        go_enter Try.func18, Try.ntmps18
        go_wp2
        go_ret
        exact ⟨rfl, Below.refl _ _⟩
      · rw [if_neg k3]
        have f3 : (x0 == 3) = false := by simpa using k3
        go_enter Try.func18, Try.ntmps18
        go_wp2
        go_ret
        exact ⟨rfl, Below.refl _ _⟩
  · rw [if_neg h1]
    clear hr
    generalize l.length = N at *
    by_cases h2 : b = N
    · subst h2
      rw [decide_eq_true rfl]
      go_enter Try.func18, Try.ntmps18
      go_wp2
      go_ret
      exact ⟨rfl, Below.refl _ _⟩
    · rw [decide_eq_false h2]
      have h3 : (N : Int) < b := by omega
      go_enter Try.func18, Try.ntmps18
      go_wp2
      go_ret
      exact ⟨rfl, Below.refl _ _⟩
theorem rmust18_any (a : Option Addr) (cap : Nat) (l : List I7) (b : Int) (w : World) (hl : l.length ≤ 1000000) (hr : Els 7 encI w a l.length fun k => l.getD k zeroI) :
    Calls Try.prog 24 #[.slice a l.length cap, .int .i64 b] w fun e w' => e = .returned (.bool (mustR l b)) ∧ Below w.heap.size w w' := by
  unfold mustR
  by_cases h0 : 1 ≤ b
  · rw [decide_eq_true h0]
    by_cases h1 : b < l.length
    · rw [decide_eq_true h1]
      obtain ⟨k, rfl⟩ : ∃ k : Nat, b = k := ⟨b.toNat, by omega⟩
      have hk : k < l.length := by omega
      rw [atV_in hk]
      obtain ⟨B, off, rfl, hB, d0, d1, d2, d3, d4, d5, d6⟩ := hr.item hk
      clear hr
      generalize l.getD k zeroI = x at *
      generalize l.length = N at *
      obtain ⟨x0, x1, x2, x3, x4, x5, x6⟩ := x
      by_cases k3 : x0 = 3
      · subst k3
        have e : (true && true && forcesI ⟨3, x1, x2, x3, x4, x5, x6⟩) = decide (x6 ≤ -10000) := by
          unfold forcesI hasK
          simp
        rw [e]
        clear e
        dsimp only at *
        go_enter Try.func24, Try.ntmps24
        go_wp2
        go_ret
        exact ⟨rfl, Below.refl _ _⟩
      · have e : (true && true && forcesI ⟨x0, x1, x2, x3, x4, x5, x6⟩) = false := by
          unfold forcesI hasK
          simp [k3]
        rw [e]
        clear e
        have f3 : (x0 == 3) = false := by simpa using k3
        dsimp only at *
        go_enter Try.func24, Try.ntmps24
        go_wp2
        go_ret
        exact ⟨rfl, Below.refl _ _⟩
    · rw [decide_eq_false h1, Bool.and_false, Bool.false_and]
      clear hr
      generalize l.length = N at *
      go_enter Try.func24, Try.ntmps24
      go_wp2
      go_ret
      exact ⟨rfl, Below.refl _ _⟩
  · rw [decide_eq_false h0, Bool.false_and, Bool.false_and]
    clear hr
    generalize l.length = N at *
    go_enter Try.func24, Try.ntmps24
    go_wp2
    go_ret
    exact ⟨rfl, Below.refl _ _⟩
end Go.Proofs.Ytopifminodlpbaa
namespace Go.Proofs.Ytopifminodlpbaa
open Go.RowKit
set_option maxRecDepth 20000
set_option linter.unusedVariables false
set_option linter.unusedSimpArgs false

theorem rahead_any (a : Option Addr) (cap : Nat) (l : List I7) (b : Int) (w : World) (hl : l.length ≤ 1000000) (hr : Els 7 encI w a l.length fun k => l.getD k zeroI) :
    Calls Try.prog 11 #[.slice a l.length cap, .int .i64 b] w fun e w' => e = .returned (.int .i64 (aheadV l b)) ∧ Below w.heap.size w w' := by
  have HR := Lib.hid fun k (hk : k < l.length) => hr.item hk
  have HS := Lib.hid fun k (hk : k < l.length) => (show backQ (befQ l b) (k + 1) = if (decide ((l.getD k zeroI).k = 1) && decide ((k : Int) < b)) = true then (k : Int) else backQ (befQ l b) k from by
    show (if befQ l b k = true then (k : Int) else backQ (befQ l b) k) = _
    have e : befQ l b k = (decide ((l.getD k zeroI).k = 1) && decide ((k : Int) < b)) := by
      unfold befQ boxQ
      rw [hasV_yes (by omega) (by omega), atV_in hk, Bool.true_and]
    rw [e])
  have HE : Hid (backQ (befQ l b) l.length = aheadV l b) := Lib.hid rfl
  have H0 : Hid ((-1 : Int) = backQ (befQ l b) 0) := Lib.hid rfl
  clear hr
  generalize aheadV l b = r at *
  generalize backQ (befQ l b) = T at *
  generalize l.length = N at *
  go_enter Try.func11, Try.ntmps11
  go_wp2_with fail
  go_loopw [5, 6] (fun t i wr => ∃ (k : Nat) (m : Int), t = .int .i64 m ∧ i = .int .i64 k ∧ k ≤ N ∧ Hid (m = T k) ∧ wr = w) (fun _ i _ => N - (intOf i).toNat)
  case atStart => exact ⟨0, -1, rfl, rfl, by omega, H0, rfl⟩
  case round =>
    obtain ⟨k, m, rfl, rfl, hk, hm, rfl⟩ := hrel
    clear H0
    by_cases hlt : k < N
    · clear HE
      obtain ⟨B, off, rfl, hB, d0, d1, d2, d3, d4, d5, d6⟩ := HR.out k hlt
      have hs := HS.out k hlt
      clear HR HS
      generalize l.getD k zeroI = x at *
      obtain ⟨x0, x1, x2, x3, x4, x5, x6⟩ := x
      dsimp only at *
      clear d1 d2 d3 d4 d5 d6
      by_cases h1 : (k : Int) < b
      · by_cases h2 : x0 = 1
        · subst h2
          rw [decide_eq_true h1, if_pos (by simp)] at hs
          have hs' := Lib.hid hs
          clear hs
          go_wp2
          go_roundw
          case rel => exact ⟨k + 1, k, rfl, by go_num, by omega, Lib.hid hs'.out.symm, by trivial⟩
          case measure => simp [intOf]; omega
        · rw [decide_eq_false h2, Bool.false_and, if_neg (by decide)] at hs
          have hs' := Lib.hid hs
          have f1 : (x0 == 1) = false := by simpa using h2
          clear hs
          go_wp2
          go_roundw
          case rel => exact ⟨k + 1, m, rfl, by go_num, by omega, Lib.hid (hm.out.trans hs'.out.symm), by trivial⟩
          case measure => simp [intOf]; omega
      · rw [decide_eq_false h1, Bool.and_false, if_neg (by decide)] at hs
        have hs' := Lib.hid hs
        clear hs
        go_wp2
        go_roundw
        case rel => exact ⟨k + 1, m, rfl, by go_num, by omega, Lib.hid (hm.out.trans hs'.out.symm), by trivial⟩
        case measure => simp [intOf]; omega
    · have e : k = N := by omega
      subst e
      have hr : Hid (m = r) := Lib.hid (hm.out.trans HE.out)
      clear HR HS hm HE
      go_wp2
      go_ret
      exact ⟨by rw [hr.out]; rfl, Below.refl _ _⟩
theorem rbehind_any (a : Option Addr) (cap : Nat) (l : List I7) (b : Int) (w : World) (hl : l.length ≤ 1000000) (hr : Els 7 encI w a l.length fun k => l.getD k zeroI) :
    Calls Try.prog 13 #[.slice a l.length cap, .int .i64 b] w fun e w' => e = .returned (.int .i64 (behindV l b)) ∧ Below w.heap.size w w' := by
  have HR := Lib.hid fun k (hk : k < l.length) => hr.item hk
  have HS := Lib.hid fun k (hk : k < l.length) => (show findQ (aftQ l b) (l.length - k) k = if (decide ((l.getD k zeroI).k = 1) && decide (b ≤ (k : Int))) = true then (k : Int) else findQ (aftQ l b) (l.length - (k + 1)) (k + 1) from by
    rw [show l.length - k = (l.length - (k + 1)) + 1 by omega]
    show (if aftQ l b k = true then (k : Int) else findQ (aftQ l b) (l.length - (k + 1)) (k + 1)) = _
    have e : aftQ l b k = (decide ((l.getD k zeroI).k = 1) && decide (b ≤ (k : Int))) := by
      unfold aftQ boxQ
      rw [hasV_yes (by omega) (by omega), atV_in hk, Bool.true_and]
    rw [e])
  have H0 : Hid (findQ (aftQ l b) (l.length - 0) 0 = behindV l b) := Lib.hid rfl
  have HE : Hid (∀ k, ¬ k < l.length → findQ (aftQ l b) (l.length - k) k = -1) := Lib.hid fun k hk => by rw [show l.length - k = 0 by omega]; rfl
  clear hr
  generalize behindV l b = r at *
  generalize findQ (aftQ l b) = T at *
  generalize l.length = N at *
  go_enter Try.func13, Try.ntmps13
  go_wp2_with fail
  go_loopw [5] (fun i wr => ∃ k : Nat, i = .int .i64 k ∧ k ≤ N ∧ Hid (T (N - k) k = r) ∧ wr = w) (fun i _ => N - (intOf i).toNat)
  case atStart => exact ⟨0, rfl, by omega, H0, rfl⟩
  case round =>
    obtain ⟨k, rfl, hk, hm, rfl⟩ := hrel
    clear H0
    by_cases hlt : k < N
    · clear HE
      obtain ⟨B, off, rfl, hB, d0, d1, d2, d3, d4, d5, d6⟩ := HR.out k hlt
      have hs := hm.out.symm.trans (HS.out k hlt)
      clear HR HS hm
      generalize l.getD k zeroI = x at *
      obtain ⟨x0, x1, x2, x3, x4, x5, x6⟩ := x
      dsimp only at *
      clear d1 d2 d3 d4 d5 d6
      by_cases h1 : b ≤ (k : Int)
      · by_cases h2 : x0 = 1
        · subst h2
          rw [decide_eq_true h1, if_pos (by simp)] at hs
          have hs' := Lib.hid hs
          clear hs
          go_wp2
          go_ret
          exact ⟨by rw [hs'.out]; rfl, Below.refl _ _⟩
        · rw [decide_eq_false h2, Bool.false_and, if_neg (by decide)] at hs
          have hs' := Lib.hid hs
          have f1 : (x0 == 1) = false := by simpa using h2
          clear hs
          go_wp2
          go_roundw
          case rel => exact ⟨k + 1, by go_num, by omega, Lib.hid hs'.out.symm, by trivial⟩
          case measure => simp [intOf]; omega
      · rw [decide_eq_false h1, Bool.and_false, if_neg (by decide)] at hs
        have hs' := Lib.hid hs
        clear hs
        go_wp2
        go_roundw
        case rel => exact ⟨k + 1, by go_num, by omega, Lib.hid hs'.out.symm, by trivial⟩
        case measure => simp [intOf]; omega
    · have hr : Hid (r = -1) := Lib.hid (hm.out.symm.trans (HE.out k hlt))
      clear HR HS hm HE
      go_wp2
      go_ret
      exact ⟨by rw [hr.out]; rfl, Below.refl _ _⟩
theorem rclub_any (a : Option Addr) (cap : Nat) (l : List I7) (b : Int) (w : World) (hl : l.length ≤ 1000000) (hr : Els 7 encI w a l.length fun k => l.getD k zeroI) :
    Calls Try.prog 15 #[.slice a l.length cap, .int .i64 b] w fun e w' => e = .returned (.bool (clubV l b)) ∧ Below w.heap.size w w' := by
  have c := rahead_any a cap l b w hl hr
  unfold clubV
  rcases aheadV_facts l b with e | ⟨k, e, hk, _⟩
  · rw [e, atV_none]
    rw [e] at c
    clear hr e
    generalize l.length = N at *
    go_enter Try.func15, Try.ntmps15
    go_wp2_with fail
    refine c.mono ?_
    rintro e w1 ⟨rfl, b1⟩
    clear c
    go_wp2
    go_ret
    exact ⟨rfl, b1⟩
  · rw [e, atV_in hk]
    rw [e] at c
    have HR := Lib.hid fun x (hx : Below w.heap.size w x) => (hr.carry hx).item hk
    clear hr e
    generalize l.length = N at *
    generalize l.getD k zeroI = x at *
    obtain ⟨x0, x1, x2, x3, x4, x5, x6⟩ := x
    dsimp only at *
    go_enter Try.func15, Try.ntmps15
    go_wp2_with fail
    refine c.mono ?_
    rintro e w1 ⟨rfl, b1⟩
    obtain ⟨B, off, rfl, hB, d0, d1, d2, d3, d4, d5, d6⟩ := HR.out w1 b1
    clear c HR
    go_wp2
    go_ret
    exact ⟨rfl, b1⟩
theorem rwidow_any (a : Option Addr) (cap : Nat) (l : List I7) (b : Int) (w : World) (hl : l.length ≤ 1000000) (hr : Els 7 encI w a l.length fun k => l.getD k zeroI) :
    Calls Try.prog 17 #[.slice a l.length cap, .int .i64 b] w fun e w' => e = .returned (.bool (widowV l b)) ∧ Below w.heap.size w w' := by
  have c := rbehind_any a cap l b w hl hr
  unfold widowV
  rcases behindV_facts l b with e | ⟨k, e, hk, _⟩
  · rw [e, atV_none]
    rw [e] at c
    clear hr e
    generalize l.length = N at *
    go_enter Try.func17, Try.ntmps17
    go_wp2_with fail
    refine c.mono ?_
    rintro e w1 ⟨rfl, b1⟩
    clear c
    go_wp2
    go_ret
    exact ⟨rfl, b1⟩
  · rw [e, atV_in hk]
    rw [e] at c
    have HR := Lib.hid fun x (hx : Below w.heap.size w x) => (hr.carry hx).item hk
    clear hr e
    generalize l.length = N at *
    generalize l.getD k zeroI = x at *
    obtain ⟨x0, x1, x2, x3, x4, x5, x6⟩ := x
    dsimp only at *
    go_enter Try.func17, Try.ntmps17
    go_wp2_with fail
    refine c.mono ?_
    rintro e w1 ⟨rfl, b1⟩
    obtain ⟨B, off, rfl, hB, d0, d1, d2, d3, d4, d5, d6⟩ := HR.out w1 b1
    clear c HR
    go_wp2
    go_ret
    exact ⟨rfl, b1⟩
end Go.Proofs.Ytopifminodlpbaa
