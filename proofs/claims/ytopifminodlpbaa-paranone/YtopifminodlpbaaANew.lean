/- New of package vlist: slices.Clone of items. -/
import Derived.Test.YtopifminodlpbaaAFnd
namespace Go.Proofs.Ytopifminodlpbaa
open Go.RowKit
set_option maxRecDepth 20000
set_option linter.unusedVariables false
set_option linter.unusedSimpArgs false

theorem infoIt : (Try.prog.info? 28).map (fun i => (i.zero, i.size, i.bytes)) = some (some (.agg #[.int .i64 0, .int .i64 0, .int .i64 0, .int .i64 0, .int .i64 0, .int .i64 0, .int .i64 0]), 7, 56) := by kernel_rfl
theorem inil_no (ad : Addr) (n c : Nat) : ∀ w, Sem.run Try.prog (binOp BinOp.eql 25 (.slice (some ad) n c) (.slice none 0 0)) w = .ok (.bool false) w := fun w => by kernel_rfl
theorem inil_yes (n c : Nat) : ∀ w, Sem.run Try.prog (binOp BinOp.eql 25 (.slice none n c) (.slice none 0 0)) w = .ok (.bool true) w := fun w => by kernel_rfl
theorem iown_new (w : World) (e : TypeId) (sz : Nat) : (w.alloc (.cells #[] e)).ownsRow w.heap.size e sz (.slice (some ⟨w.heap.size, 0, none⟩) 0 0) 0 [] :=
  ⟨by simp, .inr ⟨w.heap.size, 0, #[], rfl, Nat.le_refl _, blk_new w #[] e, Nat.le_refl _, by decide, by simp, by simp⟩⟩
theorem inone_nil {w : World} {n : Nat} {F : Nat → I7} (h : Els 7 encI w none n F) : n = 0 := by
  rcases Nat.eq_zero_or_pos n with h0 | h0
  · exact h0
  · obtain ⟨b, off, e, _⟩ := h 0 0 h0 (by omega)
    cases e
/-- Items that a call made lie where the slice v says. -/
def NewI (B : Nat) (l : List I7) (v : Value) (w : World) : Prop := ∃ a cap, v = .slice a l.length cap ∧ l.length ≤ cap ∧ cap ≤ maxLen ∧ OwnE 28 7 encI B w a l.length fun k => l.getD k zeroI
set_option maxHeartbeats 1000000 in
theorem iclone_any (a : Option Addr) (cap : Nat) (l : List I7) (w : World) (hn : l.length ≤ 1000000) (hr : Els 7 encI w a l.length fun k => l.getD k zeroI) :
    Calls Try.prog 19 #[.slice a l.length cap] w fun e w' => ∃ v, e = .returned v ∧ NewI w.heap.size l v w' ∧ Below w.heap.size w w' := by
  have hmx : 1000002 ≤ maxLen := by decide
  obtain ⟨i0, hi, hz0, hz1, hz2⟩ := info_parts infoIt
  cases a with
  | none =>
    have h0 := inone_nil hr
    rw [h0]
    clear hr
    have e := inil_yes 0 cap
    go_enter Try.func19, Try.ntmps19
    go_wp2_with fail
    go_ret
    exact ⟨.slice none 0 0, rfl, ⟨none, 0, by rw [h0], by omega, by decide, .inl h0⟩, Below.refl _ _⟩
  | some ad =>
    have HR := Lib.hid (hr.carry (tbel1 w (.cells #[] 28)))
    clear hr
    have e := inil_no ad l.length cap
    go_enter Try.func19, Try.ntmps19
    go_wp2_with (at_builtin; refine wpList_els (l := []) (m := l) (d := zeroI) rfl _ _ rfl Try.underlying25 hi hz0 hz1 hz2 rfl (by decide) encI_len encI_one rfl (iown_new w 28 7) rfl HR.out (by simp; omega) (by simp; omega) (tbel1 w _) (by simp) (fun h => by cases h) ?_; intro v' w1 hown hb1 hg1)
    go_ret
    rw [List.nil_append] at hown
    exact ⟨_, rfl, own_of hown encI_len, hb1⟩
/-- What New makes: the list of these items. -/
theorem vnew_any (a : Option Addr) (cap : Nat) (l : List I7) (w : World) (hn : l.length ≤ 1000000) (hr : Els 7 encI w a l.length fun k => l.getD k zeroI) :
    Calls Try.prog 7 #[.slice a l.length cap] w fun e w' => ∃ v, e = .returned v ∧ VAt w' v l ∧ Below w.heap.size w w' := by
  have c := iclone_any a cap l w hn hr
  clear hr
  go_enter Try.func7, Try.ntmps7
  go_wp2_with fail
  refine c.mono ?_
  rintro e w1 ⟨_, rfl, ⟨a1, cap1, rfl, h1, h2, ho⟩, b1⟩
  clear c
  go_wp2
  go_ret
  exact ⟨_, rfl, .inr ⟨w1.heap.size, a1, cap1, rfl, blk_new w1 _ _, h1, h2, (ho.old (tbel1 w1 _)).els⟩, b1.alloc b1.size _⟩
end Go.Proofs.Ytopifminodlpbaa
