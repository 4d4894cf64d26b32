/- ChainGets. -/
import Derived.Test.YtmpchobbgadiiaaVRget
namespace Go.Proofs.Ytmpchobbgadiiaa
open Go.RowKit
set_option linter.unusedVariables false

theorem gets_long (a : Option Addr) (len cap : Nat) (i : Int) (w : World) (h : 200 < len) (hm : len ≤ 9223372036854775807) :
    Calls Try.prog 4 #[.slice a len cap, .int .i64 i] w fun e w' => e = .returned (.bool true) ∧ Below w.heap.size w w' := by
  go_enter Try.func4, Try.ntmps4
  go_wp2_with (go_at_call 6; refine (awake_any _).mono ?_; rintro e w1 ⟨rfl, b1⟩)
  go_ret
  exact ⟨rfl, b1⟩
theorem gets_short (a : Option Addr) (cap : Nat) (l : List Int) (i : Int) (w : World) (h : l.length ≤ 200) (hB : Byt l) (hr : Row w a cap l) :
    Calls Try.prog 4 #[.slice a l.length cap, .int .i64 i] w fun e w' => e = .returned (.bool true) ∧ Below w.heap.size w w' := by
  have c15 := get_any a cap l i (by omega) hB w hr
  have c16 := rget_any a cap l i (by omega) hB w hr
  obtain ⟨⟨r0, r1, r2⟩, hR⟩ : ∃ R, R = gotR i l := ⟨_, rfl⟩
  rw [← hR] at c15 c16
  clear hR hr hB
  unfold trip at c15
  unfold agg3 at c16
  have h4 : l.length ≤ 9223372036854775807 := by omega
  go_enter Try.func4, Try.ntmps4
  go_wp2_with (first
    | (go_at_call 15; with_reducible refine c15.mono ?_; rintro e w' ⟨rfl, rfl⟩)
    | (go_at_call 16; with_reducible refine c16.mono ?_; rintro e w1 ⟨rfl, b1⟩)
    | (go_at_call 6; with_reducible refine (awake_any _).mono ?_; rintro e w2 ⟨rfl, b2⟩)
    | fail)
  go_ret
  exact ⟨rfl, bstep b1 b2 b1.size⟩
theorem chainGets_walk (a : Option Addr) (len cap : Nat) (zs : List Int) (i : Int) (hi : (Lit.int .i64 i).wf = true) (w : World) (h : IsRow .u8 w a len cap zs) :
    Calls Try.prog 4 #[.slice a len cap, .int .i64 i] w fun e w' => e = .returned (.bool true) ∧ Below w.heap.size w w' := by
  rcases Nat.lt_or_ge 200 len with hl | hl
  · exact gets_long a len cap i w hl h.le
  · obtain ⟨l, rfl, hr, hB⟩ := h.row
    exact gets_short a cap l i w hl hB hr
end Go.Proofs.Ytmpchobbgadiiaa
