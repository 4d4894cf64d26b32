/- CodecNone and CodecWrites: the walks. -/
import Derived.Test.YtbadkfocfgojlaaLAw
namespace Go.Proofs.Ytbadkfocfgojlaa
open Go.RowKit
set_option linter.unusedVariables false
set_option linter.unusedSimpArgs false

theorem codecNone_walk (n : Int) (hn : (Lit.int .i64 n).wf = true) (s : ByteArray) (hs : s.size ≤ maxLen) (w : World) :
    Calls Try.prog 6 #[.int .i64 n, .string s] w fun e w' => e = .returned (.bool true) ∧ Below w.heap.size w w' := by
  have hc : (w.alloc (.cells #[.int .i64 n] 2)).cell? ⟨w.heap.size, 0, none⟩ = some (.int .i64 n) := by simp [World.cell?_alloc_at]
  have b1 := bel1 w (.cells #[.int .i64 n] 2)
  go_enter Try.func6, Try.ntmps6
  go_wp2_with (first
    | (go_at_call 19; refine (wmark_nil _ _).mono ?_; rintro e w' ⟨rfl, rfl⟩)
    | (go_at_call 20; refine (wint_nil _ _).mono ?_; rintro e w' ⟨rfl, rfl⟩)
    | (go_at_call 21; refine (wbool_nil _).mono ?_; rintro e w' ⟨rfl, rfl⟩)
    | (go_at_call 22; refine (wints_nil n _ _ hc).mono ?_; rintro e w' ⟨rfl, rfl⟩)
    | (go_at_call 23; refine (mark_nil _ _).mono ?_; rintro e w' ⟨rfl, rfl⟩)
    | (go_at_call 24; refine (stop_nil _).mono ?_; rintro e w' ⟨rfl, rfl⟩)
    | (go_at_call 25; refine (bytes_nil _).mono ?_; rintro e w2 ⟨a2, c2, rfl, b2⟩; have b3 := bstep b1 b2 b1.size)
    | (go_at_call 26; refine (int_nil _).mono ?_; rintro e w' ⟨rfl, rfl⟩)
    | (go_at_call 27; refine (bool_nil _).mono ?_; rintro e w' ⟨rfl, rfl⟩)
    | (go_at_call 28; refine (count_nil _).mono ?_; rintro e w' ⟨rfl, rfl⟩)
    | (go_at_call 29; refine (ints_nil _).mono ?_; rintro e w' ⟨rfl, rfl⟩)
    | (go_at_call 16; refine (right_nil _).mono ?_; rintro e w' ⟨rfl, rfl⟩)
    | (go_at_call 17; refine (at_nil _).mono ?_; rintro e w' ⟨rfl, rfl⟩)
    | (go_at_call 18; refine (end_nil _).mono ?_; rintro e w' ⟨rfl, rfl⟩)
    | (go_at_call 8; refine (awake_any _).mono ?_; rintro e w4 ⟨rfl, b4⟩; have b5 := bstep b3 b4 b3.size))
  go_ret
  exact ⟨rfl, b5⟩
theorem codecWrites_walk (a : Option Addr) (len cap : Nat) (l : List OpD) (w : World) (h : IsOps w a len cap l) :
    Calls Try.prog 3 #[.slice a len cap] w fun e w' => e = .returned (.bool true) ∧ Below w.heap.size w w' := by
  obtain ⟨rfl, ho, hwf, hlen⟩ := h
  have cl := large_any a cap l hwf hlen w ho
  go_enter Try.func3, Try.ntmps3
  go_wp2_with fail
  refine cl.mono ?_
  rintro e w1 ⟨z, rfl, hz, rfl⟩
  clear cl
  cases z with
  | true =>
    go_wp2_with (go_at_call 8; refine (awake_any _).mono ?_; rintro e w4 ⟨rfl, b4⟩)
    go_ret
    exact ⟨rfl, b4⟩
  | false =>
    obtain ⟨h60, hok⟩ := hz rfl
    have hL := flat_len l hok
    have cw := write_any a cap l hok (by omega) w ho
    have cd : ∀ x, Ops x a cap l → _ := fun x hx => rwrite_any a cap l hok (by omega) x hx
    have hD : (l.flatMap writeD).length ≤ 1000000 := by omega
    clear hL hok h60
    generalize l.flatMap writeD = D at cw cd hD
    go_wp2_with (first
      | (go_at_call 10; refine cw.mono ?_; rintro e w2 ⟨v2, rfl, o2, b2⟩; obtain ⟨a2, c2, rfl, r2⟩ := own_row o2; clear cw)
      | (go_at_call 11; refine (cd _ (ho.carry b2)).mono ?_; rintro e w3 ⟨v3, rfl, o3, b3⟩; obtain ⟨a3, c3, rfl, r3⟩ := own_row o3; have r2' := r2.carry b3; have b4 := bstep b2 b3 b2.size; clear cd)
      | (go_at_call 9; refine (same_any a2 a3 c2 c3 D D w3 hD hD r2' r3).mono ?_; rw [decide_eq_true rfl]; rintro e w5 ⟨rfl, b5⟩; have b6 := bstep b4 b5 b4.size)
      | (go_at_call 8; refine (awake_any _).mono ?_; rintro e w7 ⟨rfl, b7⟩; have b8 := bstep b6 b7 b6.size))
    go_ret
    exact ⟨rfl, b8⟩
end Go.Proofs.Ytbadkfocfgojlaa
