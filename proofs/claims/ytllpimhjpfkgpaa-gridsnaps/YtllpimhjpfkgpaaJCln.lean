/- slices.Clone; clone of package grid. -/
import Derived.Test.YtllpimhjpfkgpaaJPut
namespace Go.Proofs.Ytllpimhjpfkgpaa
open Go.RowKit
set_option maxRecDepth 20000
set_option linter.unusedVariables false
set_option linter.unusedSimpArgs false

def zeroH : H2 := ⟨none, 0, 0, none, 0, 0⟩
/-- What Clone hands back. -/
def Cloned {α : Type} (e : TypeId) (sz : Nat) (enc : α → List Value) (B n : Nat) (F : Nat → α) (v : Value) (w : World) : Prop := ∃ a cap, v = .slice a n cap ∧ n ≤ cap ∧ cap ≤ maxLen ∧ OwnE e sz enc B w a n F
theorem none_nil {α : Type} {sz : Nat} {enc : α → List Value} {w : World} {n : Nat} {F : Nat → α} (h : Els sz enc w none n F) (hsz : 0 < sz) : n = 0 := by
  rcases Nat.eq_zero_or_pos n with h0 | h0
  · exact h0
  · obtain ⟨b, off, e, _⟩ := h 0 0 h0 hsz
    cases e
theorem nil_no {t : TypeId} (h : t = 25 ∨ t = 26 ∨ t = 27 ∨ t = 34 ∨ t = 35) (ad : Addr) (n c : Nat) : ∀ w, Sem.run Try.prog (binOp BinOp.eql t (.slice (some ad) n c) (.slice none 0 0)) w = .ok (.bool false) w := by
  rcases h with rfl | rfl | rfl | rfl | rfl <;> exact fun w => by kernel_rfl
theorem nil_yes {t : TypeId} (h : t = 25 ∨ t = 26 ∨ t = 27 ∨ t = 34 ∨ t = 35) (n c : Nat) : ∀ w, Sem.run Try.prog (binOp BinOp.eql t (.slice none n c) (.slice none 0 0)) w = .ok (.bool true) w := by
  rcases h with rfl | rfl | rfl | rfl | rfl <;> exact fun w => by kernel_rfl
theorem own_new (w : World) (e : TypeId) (sz : Nat) : (w.alloc (.cells #[] e)).ownsRow w.heap.size e sz (.slice (some ⟨w.heap.size, 0, none⟩) 0 0) 0 [] :=
  ⟨by simp, .inr ⟨w.heap.size, 0, #[], rfl, Nat.le_refl _, blk_new w #[] e, Nat.le_refl _, by decide, by simp, by simp⟩⟩
theorem infoI7 : (Try.prog.info? 39).map (fun i => (i.zero, i.size, i.bytes)) = some (some (.agg #[.int .i64 0, .int .i64 0, .int .i64 0, .int .i64 0, .int .i64 0, .int .i64 0, .int .i64 0]), 7, 56) := by kernel_rfl
set_option maxHeartbeats 1000000 in
theorem clone_I (a : Option Addr) (cap : Nat) (l : List I7) (w : World) (hn : l.length ≤ 1000000) (hr : Els 7 encI w a l.length fun k => l.getD k zeroI) :
    Calls Try.prog 42 #[.slice a l.length cap] w fun e w' => ∃ v, e = .returned v ∧ Cloned 39 7 encI w.heap.size l.length (fun k => l.getD k zeroI) v w' ∧ Below w.heap.size w w' := by
  have hmx : 1000002 ≤ maxLen := by decide
  obtain ⟨i0, hi, hz0, hz1, hz2⟩ := info_parts infoI7
  cases a with
  | none =>
    have h0 := none_nil hr (by omega)
    rw [h0]
    clear hr
    have e := nil_yes (t := 25) (by simp) 0 cap
    go_enter Try.func42, Try.ntmps42
    go_wp2_with fail
    go_ret
    exact ⟨_, rfl, ⟨none, 0, rfl, Nat.le_refl _, by decide, .inl rfl⟩, Below.refl _ _⟩
  | some ad =>
    have HR := Lib.hid (hr.carry (tbel1 w (.cells #[] 39)))
    clear hr
    have e := nil_no (t := 25) (by simp) ad l.length cap
    go_enter Try.func42, Try.ntmps42
    go_wp2_with (at_builtin; refine wpList_els (l := []) (m := l) (d := zeroI) rfl _ _ rfl Try.underlying25 hi hz0 hz1 hz2 rfl (by decide) encI_len encI_one rfl (own_new w 39 7) rfl HR.out (by simp; omega) (by simp; omega) (tbel1 w _) (by simp) (fun h => by cases h) ?_; intro v' w1 hown hb1 hg1)
    go_ret
    rw [List.nil_append] at hown
    exact ⟨_, rfl, own_of hown encI_len, hb1⟩
theorem infoH2 : (Try.prog.info? 37).map (fun i => (i.zero, i.size, i.bytes)) = some (some (.agg #[.slice none 0 0, .slice none 0 0]), 2, 48) := by kernel_rfl
set_option maxHeartbeats 1000000 in
theorem clone_H (a : Option Addr) (cap : Nat) (l : List H2) (w : World) (hn : l.length ≤ 1000000) (hr : Els 2 encH w a l.length fun k => l.getD k zeroH) :
    Calls Try.prog 43 #[.slice a l.length cap] w fun e w' => ∃ v, e = .returned v ∧ Cloned 37 2 encH w.heap.size l.length (fun k => l.getD k zeroH) v w' ∧ Below w.heap.size w w' := by
  have hmx : 1000002 ≤ maxLen := by decide
  obtain ⟨i0, hi, hz0, hz1, hz2⟩ := info_parts infoH2
  cases a with
  | none =>
    have h0 := none_nil hr (by omega)
    rw [h0]
    clear hr
    have e := nil_yes (t := 26) (by simp) 0 cap
    go_enter Try.func43, Try.ntmps43
    go_wp2_with fail
    go_ret
    exact ⟨_, rfl, ⟨none, 0, rfl, Nat.le_refl _, by decide, .inl rfl⟩, Below.refl _ _⟩
  | some ad =>
    have HR := Lib.hid (hr.carry (tbel1 w (.cells #[] 37)))
    clear hr
    have e := nil_no (t := 26) (by simp) ad l.length cap
    go_enter Try.func43, Try.ntmps43
    go_wp2_with (at_builtin; refine wpList_els (l := []) (m := l) (d := zeroH) rfl _ _ rfl Try.underlying26 hi hz0 hz1 hz2 rfl (by decide) encH_len encH_one rfl (own_new w 37 2) rfl HR.out (by simp; omega) (by simp; omega) (tbel1 w _) (by simp) (fun h => by cases h) ?_; intro v' w1 hown hb1 hg1)
    go_ret
    rw [List.nil_append] at hown
    exact ⟨_, rfl, own_of hown encH_len, hb1⟩
theorem infoF3 : (Try.prog.info? 41).map (fun i => (i.zero, i.size, i.bytes)) = some (some (.agg #[.int .i64 0, .int .i64 0, .int .i64 0]), 3, 24) := by kernel_rfl
set_option maxHeartbeats 1000000 in
theorem clone_F (a : Option Addr) (cap : Nat) (l : List F3) (w : World) (hn : l.length ≤ 1000000) (hr : Els 3 encF w a l.length fun k => l.getD k zeroF) :
    Calls Try.prog 44 #[.slice a l.length cap] w fun e w' => ∃ v, e = .returned v ∧ Cloned 41 3 encF w.heap.size l.length (fun k => l.getD k zeroF) v w' ∧ Below w.heap.size w w' := by
  have hmx : 1000002 ≤ maxLen := by decide
  obtain ⟨i0, hi, hz0, hz1, hz2⟩ := info_parts infoF3
  cases a with
  | none =>
    have h0 := none_nil hr (by omega)
    rw [h0]
    clear hr
    have e := nil_yes (t := 27) (by simp) 0 cap
    go_enter Try.func44, Try.ntmps44
    go_wp2_with fail
    go_ret
    exact ⟨_, rfl, ⟨none, 0, rfl, Nat.le_refl _, by decide, .inl rfl⟩, Below.refl _ _⟩
  | some ad =>
    have HR := Lib.hid (hr.carry (tbel1 w (.cells #[] 41)))
    clear hr
    have e := nil_no (t := 27) (by simp) ad l.length cap
    go_enter Try.func44, Try.ntmps44
    go_wp2_with (at_builtin; refine wpList_els (l := []) (m := l) (d := zeroF) rfl _ _ rfl Try.underlying27 hi hz0 hz1 hz2 rfl (by decide) encF_len encF_one rfl (own_new w 41 3) rfl HR.out (by simp; omega) (by simp; omega) (tbel1 w _) (by simp) (fun h => by cases h) ?_; intro v' w1 hown hb1 hg1)
    go_ret
    rw [List.nil_append] at hown
    exact ⟨_, rfl, own_of hown encF_len, hb1⟩
theorem infoZ22 : (Try.prog.info? 22).map (fun i => (i.zero, i.size, i.bytes)) = some (some (.int .i64 0), 1, 8) := by kernel_rfl
set_option maxHeartbeats 1000000 in
theorem clone_Z (a : Option Addr) (cap : Nat) (l : List Int) (w : World) (hn : l.length ≤ 1000000) (hr : Els 1 encZ w a l.length fun k => l.getD k 0) :
    Calls Try.prog 45 #[.slice a l.length cap] w fun e w' => ∃ v, e = .returned v ∧ Cloned 22 1 encZ w.heap.size l.length (fun k => l.getD k 0) v w' ∧ Below w.heap.size w w' := by
  have hmx : 1000002 ≤ maxLen := by decide
  obtain ⟨i0, hi, hz0, hz1, hz2⟩ := info_parts infoZ22
  cases a with
  | none =>
    have h0 := none_nil hr (by omega)
    rw [h0]
    clear hr
    have e := nil_yes (t := 34) (by simp) 0 cap
    go_enter Try.func45, Try.ntmps45
    go_wp2_with fail
    go_ret
    exact ⟨_, rfl, ⟨none, 0, rfl, Nat.le_refl _, by decide, .inl rfl⟩, Below.refl _ _⟩
  | some ad =>
    have HR := Lib.hid (hr.carry (tbel1 w (.cells #[] 22)))
    clear hr
    have e := nil_no (t := 34) (by simp) ad l.length cap
    go_enter Try.func45, Try.ntmps45
    go_wp2_with (at_builtin; refine wpList_els (l := []) (m := l) (d := 0) rfl _ _ rfl Try.underlying34 hi hz0 hz1 hz2 rfl (by decide) encZ_len encZ_one rfl (own_new w 22 1) rfl HR.out (by simp; omega) (by simp; omega) (tbel1 w _) (by simp) (fun h => by cases h) ?_; intro v' w1 hown hb1 hg1)
    go_ret
    rw [List.nil_append] at hown
    exact ⟨_, rfl, own_of hown encZ_len, hb1⟩
theorem infoZ3 : (Try.prog.info? 3).map (fun i => (i.zero, i.size, i.bytes)) = some (some (.int .i64 0), 1, 8) := by kernel_rfl
set_option maxHeartbeats 1000000 in
theorem clone_P (a : Option Addr) (cap : Nat) (l : List Int) (w : World) (hn : l.length ≤ 1000000) (hr : Els 1 encZ w a l.length fun k => l.getD k 0) :
    Calls Try.prog 46 #[.slice a l.length cap] w fun e w' => ∃ v, e = .returned v ∧ Cloned 3 1 encZ w.heap.size l.length (fun k => l.getD k 0) v w' ∧ Below w.heap.size w w' := by
  have hmx : 1000002 ≤ maxLen := by decide
  obtain ⟨i0, hi, hz0, hz1, hz2⟩ := info_parts infoZ3
  cases a with
  | none =>
    have h0 := none_nil hr (by omega)
    rw [h0]
    clear hr
    have e := nil_yes (t := 35) (by simp) 0 cap
    go_enter Try.func46, Try.ntmps46
    go_wp2_with fail
    go_ret
    exact ⟨_, rfl, ⟨none, 0, rfl, Nat.le_refl _, by decide, .inl rfl⟩, Below.refl _ _⟩
  | some ad =>
    have HR := Lib.hid (hr.carry (tbel1 w (.cells #[] 3)))
    clear hr
    have e := nil_no (t := 35) (by simp) ad l.length cap
    go_enter Try.func46, Try.ntmps46
    go_wp2_with (at_builtin; refine wpList_els (l := []) (m := l) (d := 0) rfl _ _ rfl Try.underlying35 hi hz0 hz1 hz2 rfl (by decide) encZ_len encZ_one rfl (own_new w 3 1) rfl HR.out (by simp; omega) (by simp; omega) (tbel1 w _) (by simp) (fun h => by cases h) ?_; intro v' w1 hown hb1 hg1)
    go_ret
    rw [List.nil_append] at hown
    exact ⟨_, rfl, own_of hown encZ_len, hb1⟩
end Go.Proofs.Ytllpimhjpfkgpaa
