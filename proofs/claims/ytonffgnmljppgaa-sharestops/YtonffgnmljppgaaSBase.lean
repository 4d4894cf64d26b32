/- The walks of share.base and share.Up. -/
import Derived.Test.YtonffgnmljppgaaSMath
import Derived.LoopTactic
import Derived.Lib.Hide
import Derived.Outline
namespace Go.Proofs.Ytonffgnmljppgaa
open Go.RowKit
set_option linter.unusedVariables false

theorem base_any (whole : Int) (a : Option Addr) (cap : Nat) (l : List Int) (w : World) (hn : l.length ≤ 1000000) (hr : IRow w.heap.size w a l) :
    Calls Try.prog 16 #[.int .i64 whole, .slice a l.length cap] w fun e w' => e = .returned (two (baseR whole l)) ∧ Below w.heap.size w w' := by
  by_cases hw : whole < 0
  · have e : baseR whole l = (0, false) := by unfold baseR; rw [if_pos hw]
    rw [e]
    unfold two
    go_enter Try.func16, Try.ntmps16
    go_wp2
    go_ret2
    exact ⟨rfl, Below.refl _ _⟩
  · go_enter Try.func16, Try.ntmps16
    go_wp2_with fail
    go_loopw [14] (fun i wr => ∃ k : Nat, k ≤ l.length ∧ i = .int .i64 k ∧ wr = w ∧ Hid (noneNeg (l.take k) = true)) (fun i _ => l.length - (intOf i).toNat)
    case atStart => exact ⟨0, Nat.zero_le _, rfl, rfl, Lib.hid (by simp [noneNeg])⟩
    case round =>
      obtain ⟨k, hk, rfl, rfl, HN⟩ := hrel
      by_cases hlt : k < l.length
      · obtain ⟨hyin, b, off, rfl, hB, hck⟩ := hr k hlt
        have HR := Lib.hid hr
        clear hr
        obtain ⟨y, hy⟩ : ∃ y, y = l.getD k 0 := ⟨_, rfl⟩
        rw [← hy] at hck hyin
        have HY := Lib.hid hy
        clear hy
        by_cases hneg : y < 0
        · have e : baseR whole l = (0, false) := by
            unfold baseR; rw [if_neg (by omega), noneNeg_stop l k hlt (by rw [← HY.out]; exact hneg)]; rfl
          have HE := Lib.hid e
          clear e
          go_wp2
          go_ret2
          exact ⟨by rw [HE.out]; rfl, Below.refl _ _⟩
        · go_wp2
          go_roundw
          case rel => exact ⟨k + 1, by omega, by go_num, trivial, Lib.hid (by rw [noneNeg_snoc l k hlt, HN.out, ← HY.out]; simp; omega)⟩
          case measure => simp [intOf]; omega
      · have hnn : noneNeg l = true := by have := HN.out; rwa [List.take_of_length_le (by omega)] at this
        have e : baseR whole l = ((total l).1, (total l).2 && decide (0 < (total l).1)) := by unfold baseR; rw [if_neg (by omega), if_pos hnn]
        have c := ssum_any a cap l wr hn hr
        obtain ⟨r, hrt⟩ : ∃ r, r = total l := ⟨_, rfl⟩
        rw [← hrt] at c e
        clear hr hnn HN hrt
        obtain ⟨v, o⟩ := r
        have HE := Lib.hid e
        clear e
        unfold two at c
        cases o
        · go_wp2_with (refine c.mono ?_; rintro e w1 ⟨rfl, b1⟩)
          go_ret2
          exact ⟨by rw [HE.out]; rfl, b1⟩
        · go_wp2_with (refine c.mono ?_; rintro e w1 ⟨rfl, b1⟩)
          go_ret2
          exact ⟨by rw [HE.out]; simp [two], b1⟩

/-- What share.Up answers at n. -/
def clampN (n : Int) (m : Nat) : Nat := if n < 0 then 0 else if (m : Int) < n then m else n.toNat
def upS (whole : Int) (l : List Int) (n : Int) : Int × Bool := if rightS whole l then (cumS whole l (clampN n l.length), true) else (0, false)
theorem clampN_le (n : Int) (m : Nat) : clampN n m ≤ m := by unfold clampN; split <;> (try split) <;> omega

theorem up_walk (whole n : Int) (m : Nat) (s f u : Int) (o : Bool) (a : Option Addr) (cap len : Nat) (w : World) (hlen : len ≤ 1000000) (hm : m = clampN n len) (hin : inR n)
    (hcap : len ≤ cap) (hmax : cap ≤ maxLen)
    (cb : Calls Try.prog 16 #[.int .i64 whole, .slice a len cap] w fun e w' => e = .returned (.tuple #[.int .i64 s, .bool true]) ∧ Below w.heap.size w w')
    (cs : ∀ w', Below w.heap.size w w' → Calls Try.prog 17 #[.slice a m cap] w' fun e w2 => e = .returned (.tuple #[.int .i64 f, .bool o]) ∧ Below w'.heap.size w' w2)
    (cr : ∀ w', Calls Try.prog 18 #[.int .i64 whole, .int .i64 f, .int .i64 s] w' fun e w2 => e = .returned (.tuple #[.int .i64 u, .bool true]) ∧ Below w'.heap.size w' w2) :
    Calls Try.prog 8 #[.int .i64 whole, .slice a len cap, .int .i64 n] w fun e w' => e = .returned (.tuple #[.int .i64 u, .bool true]) ∧ Below w.heap.size w w' := by
  have h3 : (n < 0 ∧ m = 0) ∨ ((len : Int) < n ∧ ¬ n < 0 ∧ m = len) ∨ (0 ≤ n ∧ n ≤ len ∧ n = m) := by
    unfold clampN at hm
    split at hm
    · exact .inl ⟨by assumption, hm⟩
    · split at hm
      · exact .inr (.inl ⟨by assumption, by assumption, hm⟩)
      · exact .inr (.inr ⟨by omega, by omega, by omega⟩)
  clear hm
  rcases h3 with ⟨h1, rfl⟩ | ⟨h1, h2, rfl⟩ | ⟨h1, h2, rfl⟩
  all_goals go_enter Try.func8, Try.ntmps8
  all_goals go_wp2_with fail
  all_goals refine cb.mono ?_
  all_goals rintro e w1 ⟨rfl, b1⟩
  all_goals clear cb
  all_goals go_wp2_with fail
  all_goals refine (cs _ b1).mono ?_
  all_goals rintro e w2 ⟨rfl, b2⟩
  all_goals clear cs
  all_goals go_wp2_with fail
  all_goals refine (cr _).mono ?_
  all_goals rintro e w3 ⟨rfl, b3⟩
  all_goals go_wp2
  all_goals go_ret2
  all_goals exact ⟨rfl, b1.trans ((b2.trans (b3.mono b2.size)).mono b1.size)⟩

theorem up_none (whole n : Int) (s : Int) (a : Option Addr) (cap len : Nat) (w : World)
    (cb : Calls Try.prog 16 #[.int .i64 whole, .slice a len cap] w fun e w' => e = .returned (.tuple #[.int .i64 s, .bool false]) ∧ Below w.heap.size w w') :
    Calls Try.prog 8 #[.int .i64 whole, .slice a len cap, .int .i64 n] w fun e w' => e = .returned (.tuple #[.int .i64 0, .bool false]) ∧ Below w.heap.size w w' := by
  go_enter Try.func8, Try.ntmps8
  go_wp2_with (refine cb.mono ?_; rintro e w1 ⟨rfl, b1⟩)
  go_ret2
  exact ⟨rfl, b1⟩

theorem sup_any (whole n : Int) (a : Option Addr) (cap : Nat) (l : List Int) (w : World) (hn : l.length ≤ 1000000) (hw : inR whole) (hin : inR n) (hcap : l.length ≤ cap) (hmax : cap ≤ maxLen)
    (hr : IRow w.heap.size w a l) :
    Calls Try.prog 8 #[.int .i64 whole, .slice a l.length cap, .int .i64 n] w fun e w' => e = .returned (two (upS whole l n)) ∧ Below w.heap.size w w' := by
  have cb := base_any whole a cap l w hn hr
  by_cases h : rightS whole l = true
  · obtain ⟨h0, hnn, h1, h2, hb⟩ := rightS_facts h
    rw [hb] at cb
    have hm := clampN_le n l.length
    have e : upS whole l n = (cumS whole l (clampN n l.length), true) := by unfold upS; rw [if_pos h]
    rw [e]
    have hs := sum_nn hnn (clampN n l.length)
    have hs' := sum_le hnn (clampN n l.length)
    refine up_walk whole n (clampN n l.length) l.sum (l.take (clampN n l.length)).sum _ true a cap l.length w hn rfl hin hcap hmax cb (fun w' hb' => ?_) (fun w' => ?_)
    · have c := ssum_any a cap (l.take (clampN n l.length)) w' (by rw [List.length_take]; omega) (((hr.take _).carry hb' (Nat.le_refl _)).mono hb'.size)
      rw [total_take hnn _ hm, fit_pos (by unfold inR; omega), List.length_take, Nat.min_eq_left hm] at c
      exact c
    · have c := ratio_any whole (l.take (clampN n l.length)).sum l.sum w' hw.2 (by omega) h2
      rw [rat_cum h hw.2] at c
      exact c
  · have h' : rightS whole l = false := by simpa using h
    have e : upS whole l n = (0, false) := by unfold upS; rw [h']; rfl
    rw [e]
    have e2 : baseR whole l = ((baseR whole l).1, false) := by rw [← rightS_no h']
    rw [e2] at cb
    exact up_none whole n _ a cap l.length w cb
end Go.Proofs.Ytonffgnmljppgaa
