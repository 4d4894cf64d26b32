/- slices.Clone; clone of package grid. clone of package grid. Snap of package grid. -/
import Derived.Test.YthcgncgnbjhniaaJPut
import Derived.Test.YthcgncgnbjhniaaDetY
namespace Go.Proofs.Ythcgncgnbjhniaa
open Go.RowKit
set_option maxRecDepth 20000
set_option linter.unusedVariables false
set_option linter.unusedSimpArgs false

def zeroH : H2 := ⟨none, 0, 0, none, 0, 0⟩
/-- What Clone hands back. -/
def Cloned {α : Type} (e : TypeId) (sz : Nat) (enc : α → List Value) (B n : Nat) (F : Nat → α) (v : Value) (w : World) : Prop := ∃ a cap, v = .slice a n cap ∧ n ≤ cap ∧ cap ≤ maxLen ∧ OwnE e sz enc B w a n F
theorem none_nil {α : Type} {sz : Nat} {enc : α → List Value} {w : World} {n : Nat} {F : Nat → α} (h : Els sz enc w none n F) (hsz : 0 < sz) : n = 0 := by
  rcases Nat.eq_zero_or_pos n with h0 | h0
  · exact h0
  · obtain ⟨b, off, e, _⟩ := h 0 0 h0 hsz
    cases e
theorem nil_no {t : TypeId} (h : t = 22 ∨ t = 32 ∨ t = 33 ∨ t = 51 ∨ t = 52) (ad : Addr) (n c : Nat) : ∀ w, Sem.run Try.prog (binOp BinOp.eql t (.slice (some ad) n c) (.slice none 0 0)) w = .ok (.bool false) w := by
  rcases h with rfl | rfl | rfl | rfl | rfl <;> exact fun w => by kernel_rfl
theorem nil_yes {t : TypeId} (h : t = 22 ∨ t = 32 ∨ t = 33 ∨ t = 51 ∨ t = 52) (n c : Nat) : ∀ w, Sem.run Try.prog (binOp BinOp.eql t (.slice none n c) (.slice none 0 0)) w = .ok (.bool true) w := by
  rcases h with rfl | rfl | rfl | rfl | rfl <;> exact fun w => by kernel_rfl
theorem own_new (w : World) (e : TypeId) (sz : Nat) : (w.alloc (.cells #[] e)).ownsRow w.heap.size e sz (.slice (some ⟨w.heap.size, 0, none⟩) 0 0) 0 [] :=
  ⟨by simp, .inr ⟨w.heap.size, 0, #[], rfl, Nat.le_refl _, blk_new w #[] e, Nat.le_refl _, by decide, by simp, by simp⟩⟩
theorem infoI7 : (Try.prog.info? 39).map (fun i => (i.zero, i.size, i.bytes)) = some (some (.agg #[.int .i64 0, .int .i64 0, .int .i64 0, .int .i64 0, .int .i64 0, .int .i64 0, .int .i64 0]), 7, 56) := by kernel_rfl
set_option maxHeartbeats 1000000 in
theorem clone_I (a : Option Addr) (cap : Nat) (l : List I7) (w : World) (hn : l.length ≤ 1000000) (hr : Els 7 encI w a l.length fun k => l.getD k zeroI) :
    Calls Try.prog 78 #[.slice a l.length cap] w fun e w' => ∃ v, e = .returned v ∧ Cloned 39 7 encI w.heap.size l.length (fun k => l.getD k zeroI) v w' ∧ Below w.heap.size w w' := by
  have hmx : 1000002 ≤ maxLen := by decide
  obtain ⟨i0, hi, hz0, hz1, hz2⟩ := info_parts infoI7
  cases a with
  | none =>
    have h0 := none_nil hr (by omega)
    rw [h0]
    clear hr
    have e := nil_yes (t := 22) (by simp) 0 cap
    go_enter Try.func78, Try.ntmps78
    go_wp2_with fail
    go_ret
    exact ⟨_, rfl, ⟨none, 0, rfl, Nat.le_refl _, by decide, .inl rfl⟩, Below.refl _ _⟩
  | some ad =>
    have HR := Lib.hid (hr.carry (tbel1 w (.cells #[] 39)))
    clear hr
    have e := nil_no (t := 22) (by simp) ad l.length cap
    go_enter Try.func78, Try.ntmps78
    go_wp2_with (at_builtin; refine wpList_els (l := []) (m := l) (d := zeroI) rfl _ _ rfl Try.underlying22 hi hz0 hz1 hz2 rfl (by decide) encI_len encI_one rfl (own_new w 39 7) rfl HR.out (by simp; omega) (by simp; omega) (tbel1 w _) (by simp) (fun h => by cases h) ?_; intro v' w1 hown hb1 hg1)
    go_ret
    rw [List.nil_append] at hown
    exact ⟨_, rfl, own_of hown encI_len, hb1⟩
theorem infoH2 : (Try.prog.info? 54).map (fun i => (i.zero, i.size, i.bytes)) = some (some (.agg #[.slice none 0 0, .slice none 0 0]), 2, 48) := by kernel_rfl
set_option maxHeartbeats 1000000 in
theorem clone_H (a : Option Addr) (cap : Nat) (l : List H2) (w : World) (hn : l.length ≤ 1000000) (hr : Els 2 encH w a l.length fun k => l.getD k zeroH) :
    Calls Try.prog 79 #[.slice a l.length cap] w fun e w' => ∃ v, e = .returned v ∧ Cloned 54 2 encH w.heap.size l.length (fun k => l.getD k zeroH) v w' ∧ Below w.heap.size w w' := by
  have hmx : 1000002 ≤ maxLen := by decide
  obtain ⟨i0, hi, hz0, hz1, hz2⟩ := info_parts infoH2
  cases a with
  | none =>
    have h0 := none_nil hr (by omega)
    rw [h0]
    clear hr
    have e := nil_yes (t := 32) (by simp) 0 cap
    go_enter Try.func79, Try.ntmps79
    go_wp2_with fail
    go_ret
    exact ⟨_, rfl, ⟨none, 0, rfl, Nat.le_refl _, by decide, .inl rfl⟩, Below.refl _ _⟩
  | some ad =>
    have HR := Lib.hid (hr.carry (tbel1 w (.cells #[] 54)))
    clear hr
    have e := nil_no (t := 32) (by simp) ad l.length cap
    go_enter Try.func79, Try.ntmps79
    go_wp2_with (at_builtin; refine wpList_els (l := []) (m := l) (d := zeroH) rfl _ _ rfl Try.underlying32 hi hz0 hz1 hz2 rfl (by decide) encH_len encH_one rfl (own_new w 54 2) rfl HR.out (by simp; omega) (by simp; omega) (tbel1 w _) (by simp) (fun h => by cases h) ?_; intro v' w1 hown hb1 hg1)
    go_ret
    rw [List.nil_append] at hown
    exact ⟨_, rfl, own_of hown encH_len, hb1⟩
theorem infoF3 : (Try.prog.info? 42).map (fun i => (i.zero, i.size, i.bytes)) = some (some (.agg #[.int .i64 0, .int .i64 0, .int .i64 0]), 3, 24) := by kernel_rfl
set_option maxHeartbeats 1000000 in
theorem clone_F (a : Option Addr) (cap : Nat) (l : List F3) (w : World) (hn : l.length ≤ 1000000) (hr : Els 3 encF w a l.length fun k => l.getD k zeroF) :
    Calls Try.prog 80 #[.slice a l.length cap] w fun e w' => ∃ v, e = .returned v ∧ Cloned 42 3 encF w.heap.size l.length (fun k => l.getD k zeroF) v w' ∧ Below w.heap.size w w' := by
  have hmx : 1000002 ≤ maxLen := by decide
  obtain ⟨i0, hi, hz0, hz1, hz2⟩ := info_parts infoF3
  cases a with
  | none =>
    have h0 := none_nil hr (by omega)
    rw [h0]
    clear hr
    have e := nil_yes (t := 33) (by simp) 0 cap
    go_enter Try.func80, Try.ntmps80
    go_wp2_with fail
    go_ret
    exact ⟨_, rfl, ⟨none, 0, rfl, Nat.le_refl _, by decide, .inl rfl⟩, Below.refl _ _⟩
  | some ad =>
    have HR := Lib.hid (hr.carry (tbel1 w (.cells #[] 42)))
    clear hr
    have e := nil_no (t := 33) (by simp) ad l.length cap
    go_enter Try.func80, Try.ntmps80
    go_wp2_with (at_builtin; refine wpList_els (l := []) (m := l) (d := zeroF) rfl _ _ rfl Try.underlying33 hi hz0 hz1 hz2 rfl (by decide) encF_len encF_one rfl (own_new w 42 3) rfl HR.out (by simp; omega) (by simp; omega) (tbel1 w _) (by simp) (fun h => by cases h) ?_; intro v' w1 hown hb1 hg1)
    go_ret
    rw [List.nil_append] at hown
    exact ⟨_, rfl, own_of hown encF_len, hb1⟩
theorem infoZ22 : (Try.prog.info? 29).map (fun i => (i.zero, i.size, i.bytes)) = some (some (.int .i64 0), 1, 8) := by kernel_rfl
set_option maxHeartbeats 1000000 in
theorem clone_Z (a : Option Addr) (cap : Nat) (l : List Int) (w : World) (hn : l.length ≤ 1000000) (hr : Els 1 encZ w a l.length fun k => l.getD k 0) :
    Calls Try.prog 81 #[.slice a l.length cap] w fun e w' => ∃ v, e = .returned v ∧ Cloned 29 1 encZ w.heap.size l.length (fun k => l.getD k 0) v w' ∧ Below w.heap.size w w' := by
  have hmx : 1000002 ≤ maxLen := by decide
  obtain ⟨i0, hi, hz0, hz1, hz2⟩ := info_parts infoZ22
  cases a with
  | none =>
    have h0 := none_nil hr (by omega)
    rw [h0]
    clear hr
    have e := nil_yes (t := 51) (by simp) 0 cap
    go_enter Try.func81, Try.ntmps81
    go_wp2_with fail
    go_ret
    exact ⟨_, rfl, ⟨none, 0, rfl, Nat.le_refl _, by decide, .inl rfl⟩, Below.refl _ _⟩
  | some ad =>
    have HR := Lib.hid (hr.carry (tbel1 w (.cells #[] 29)))
    clear hr
    have e := nil_no (t := 51) (by simp) ad l.length cap
    go_enter Try.func81, Try.ntmps81
    go_wp2_with (at_builtin; refine wpList_els (l := []) (m := l) (d := 0) rfl _ _ rfl Try.underlying51 hi hz0 hz1 hz2 rfl (by decide) encZ_len encZ_one rfl (own_new w 29 1) rfl HR.out (by simp; omega) (by simp; omega) (tbel1 w _) (by simp) (fun h => by cases h) ?_; intro v' w1 hown hb1 hg1)
    go_ret
    rw [List.nil_append] at hown
    exact ⟨_, rfl, own_of hown encZ_len, hb1⟩
theorem infoZ3 : (Try.prog.info? 3).map (fun i => (i.zero, i.size, i.bytes)) = some (some (.int .i64 0), 1, 8) := by kernel_rfl
set_option maxHeartbeats 1000000 in
theorem clone_P (a : Option Addr) (cap : Nat) (l : List Int) (w : World) (hn : l.length ≤ 1000000) (hr : Els 1 encZ w a l.length fun k => l.getD k 0) :
    Calls Try.prog 82 #[.slice a l.length cap] w fun e w' => ∃ v, e = .returned v ∧ Cloned 3 1 encZ w.heap.size l.length (fun k => l.getD k 0) v w' ∧ Below w.heap.size w w' := by
  have hmx : 1000002 ≤ maxLen := by decide
  obtain ⟨i0, hi, hz0, hz1, hz2⟩ := info_parts infoZ3
  cases a with
  | none =>
    have h0 := none_nil hr (by omega)
    rw [h0]
    clear hr
    have e := nil_yes (t := 52) (by simp) 0 cap
    go_enter Try.func82, Try.ntmps82
    go_wp2_with fail
    go_ret
    exact ⟨_, rfl, ⟨none, 0, rfl, Nat.le_refl _, by decide, .inl rfl⟩, Below.refl _ _⟩
  | some ad =>
    have HR := Lib.hid (hr.carry (tbel1 w (.cells #[] 3)))
    clear hr
    have e := nil_no (t := 52) (by simp) ad l.length cap
    go_enter Try.func82, Try.ntmps82
    go_wp2_with (at_builtin; refine wpList_els (l := []) (m := l) (d := 0) rfl _ _ rfl Try.underlying52 hi hz0 hz1 hz2 rfl (by decide) encZ_len encZ_one rfl (own_new w 3 1) rfl HR.out (by simp; omega) (by simp; omega) (tbel1 w _) (by simp) (fun h => by cases h) ?_; intro v' w1 hown hb1 hg1)
    go_ret
    rw [List.nil_append] at hown
    exact ⟨_, rfl, own_of hown encZ_len, hb1⟩
end Go.Proofs.Ythcgncgnbjhniaa
namespace Go.Proofs.Ythcgncgnbjhniaa
open Go.RowKit
set_option maxRecDepth 20000
set_option linter.unusedVariables false
set_option linter.unusedSimpArgs false

theorem OwnE.other {α : Type} {e : TypeId} {sz : Nat} {enc : α → List Value} {B : Nat} {w : World} {a : Option Addr} {n : Nat} {F : Nat → α} (h : OwnE e sz enc B w a n F) {b : Nat} (hb : b < B) (i : Nat) (v : Value) : OwnE e sz enc B (w.setCell ⟨b, i, none⟩ v) a n F := by
  rcases h with h | ⟨g, cur, h1, h2, h3, h4⟩
  · exact .inl h
  · exact .inr ⟨g, cur, h1, h2, h3.other (by omega) i v, h4⟩
theorem OwnE.sole {α : Type} {e : TypeId} {sz : Nat} {enc : α → List Value} {B : Nat} {w x : World} {a : Option Addr} {n : Nat} {F : Nat → α} (h : OwnE e sz enc B w a n F) {b : Nat} (hs : Sole b w x) (hb : ∀ g, a = some ⟨g, 0, none⟩ → 0 < n → g ≠ b) : OwnE e sz enc B x a n F := by
  rcases h with h | ⟨g, cur, h1, h2, h3, h4⟩
  · exact .inl h
  · rcases Nat.eq_zero_or_pos n with h0 | h0
    · exact .inl h0
    · exact .inr ⟨g, cur, h1, h2, h3.sole hs (hb g h1 h0), h4⟩
theorem OwnE.kind {α : Type} {e : TypeId} {sz : Nat} {enc : α → List Value} {B : Nat} {w x : World} {a : Option Addr} {n : Nat} {F : Nat → α} (h : OwnE e sz enc B w a n F) {b : Nat} {cs : Array Value} {T : TypeId} (hs : Sole b w x) (hb : Blk w b cs T) (hT : T ≠ e) : OwnE e sz enc B x a n F :=
  h.sole hs fun g ha hn => by
    rcases h with h | ⟨g', cur, h1, h2, h3, h4⟩
    · omega
    · rw [ha] at h1
      cases h1
      rintro rfl
      unfold Blk at h3 hb
      rw [hb] at h3
      simp only [Option.some.injEq, Obj.cells.injEq] at h3
      exact hT h3.2.1
theorem JobAt.other {w : World} {b c : Nat} {j : J4} {s : S3} (H : JobAt w b j s) (hb : b ≠ c) (i : Nat) (v : Value) : JobAt (w.setCell ⟨c, i, none⟩ v) b j s := Blk.other H hb i v
theorem JobAt.set19 {w : World} {b : Nat} {j : J4} {s : S3} (h : JobAt w b j s) (a : Option Addr) (c : Nat) : JobAt (w.setCell ⟨b, 19, none⟩ (.slice a j.items.length c)) b j { s with ia := a, ic := c } := Blk.set h 19 _
theorem JobAt.set20 {w : World} {b : Nat} {j : J4} {s : S3} (h : JobAt w b j s) (a : Option Addr) (c : Nat) : JobAt (w.setCell ⟨b, 20, none⟩ (.slice a j.notes.length c)) b j { s with na := a, nc := c } := Blk.set h 20 _
theorem JobAt.set21 {w : World} {b : Nat} {j : J4} {s : S3} (h : JobAt w b j s) (a : Option Addr) (c : Nat) : JobAt (w.setCell ⟨b, 21, none⟩ (.slice a j.floats.length c)) b j { s with fa := a, fc := c } := Blk.set h 21 _
/-- A list's elements by a function. -/
theorem range_get {α : Type} (F : Nat → α) (d : α) {n k : Nat} (hk : k < n) : ((List.range n).map F).getD k d = F k := by simp [hk]
theorem Els.list {α : Type} {sz : Nat} {enc : α → List Value} {w : World} {a : Option Addr} {n : Nat} {F : Nat → α} (d : α) (h : Els sz enc w a n F) : Els sz enc w a ((List.range n).map F).length fun k => ((List.range n).map F).getD k d := by
  rw [List.length_map, List.length_range]
  exact h.congr fun k hk => (range_get F d hk).symm
theorem clone_N (a : Option Addr) (cap n : Nat) (F : Nat → H2) (w : World) (hn : n ≤ 1000000) (hr : Els 2 encH w a n F) :
    Calls Try.prog 79 #[.slice a n cap] w fun e w' => ∃ v, e = .returned v ∧ Cloned 54 2 encH w.heap.size n F v w' ∧ Below w.heap.size w w' := by
  have c := clone_H a cap ((List.range n).map F) w (by simpa using hn) (hr.list zeroH)
  rw [List.length_map, List.length_range] at c
  refine c.mono ?_
  rintro e w' ⟨v, rfl, ⟨a', cap', rfl, h1, h2, h3⟩, hb⟩
  exact ⟨_, rfl, ⟨a', cap', rfl, h1, h2, h3.congr fun k hk => range_get F zeroH hk⟩, hb⟩
theorem Cloned.old {α : Type} {e : TypeId} {sz : Nat} {enc : α → List Value} {B n : Nat} {F : Nat → α} {v : Value} {w x : World} (h : Cloned e sz enc B n F v w) (hx : Old w x) : Cloned e sz enc B n F v x := by
  obtain ⟨a, cap, h1, h2, h3, h4⟩ := h
  exact ⟨a, cap, h1, h2, h3, h4.old hx⟩
/-- A note whose numbers are the call's own. -/
def NoteOwn (B : Nat) (w : World) (h : H2) (n : N2) : Prop := h.ll = n.l.length ∧ h.pl = n.p.length ∧ (h.ll ≤ h.lc ∧ h.lc ≤ maxLen) ∧ (h.pl ≤ h.pc ∧ h.pc ≤ maxLen) ∧ (OwnE 29 1 encZ B w h.la n.l.length fun k => n.l.getD k 0) ∧ (∀ k, inR (n.l.getD k 0)) ∧ (OwnE 3 1 encZ B w h.pa n.p.length fun k => n.p.getD k 0) ∧ ∀ k, inR (n.p.getD k 0)
theorem IRow.els {B : Nat} {w : World} {a : Option Addr} {l : List Int} (h : IRow B w a l) (hB : B ≤ w.heap.size) : Els 1 encZ w a l.length fun k => l.getD k 0 := fun k j hk hj => by
  obtain rfl : j = 0 := by omega
  obtain ⟨_, b, off, e, hb, hc⟩ := h k hk
  exact ⟨b, off, e, by omega, by rw [Nat.mul_one, Nat.add_zero]; exact hc⟩
theorem IRow.ins {B : Nat} {w : World} {a : Option Addr} {l : List Int} (h : IRow B w a l) : ∀ k, inR (l.getD k 0) := fun k => by
  rcases Nat.lt_or_ge k l.length with hk | hk
  · exact (h k hk).1
  · rw [List.getD_eq_getElem?_getD, List.getElem?_eq_none hk]
    simp [inR]
theorem Els.irow {w : World} {a : Option Addr} {l : List Int} (h : Els 1 encZ w a l.length fun k => l.getD k 0) (hi : ∀ k, inR (l.getD k 0)) : IRow w.heap.size w a l := fun k hk => by
  obtain ⟨b, off, e, hb, hc⟩ := h k 0 hk (by omega)
  rw [Nat.mul_one, Nat.add_zero] at hc
  exact ⟨hi k, b, off, e, hb, hc⟩
theorem NoteOwn.ok {B : Nat} {w : World} {h : H2} {n : N2} (H : NoteOwn B w h n) : NoteOk w h n := by
  obtain ⟨h1, h2, h3, h4, h5, h6, h7, h8⟩ := H
  exact ⟨h1, h2, h3, h4, h5.els.irow h6, h7.els.irow h8⟩
theorem NoteOwn.old {B : Nat} {w x : World} {h : H2} {n : N2} (H : NoteOwn B w h n) (hx : Old w x) : NoteOwn B x h n := by
  obtain ⟨h1, h2, h3, h4, h5, h6, h7, h8⟩ := H
  exact ⟨h1, h2, h3, h4, h5.old hx, h6, h7.old hx, h8⟩
/-- The notes of a clone: the first k have numbers of their own. -/
structure NotesOwn (B : Nat) (w : World) (k : Nat) (hs : Nat → H2) (l : List N2) : Prop where
  each : ∀ i, i < k → NoteOwn B w (hs i) (l.getD i zeroN)
  apart : ∀ i i', i < i' → i' < k → (l.getD i zeroN).l ≠ [] → (l.getD i' zeroN).l ≠ [] → (hs i).la ≠ (hs i').la
/-- A job that is the call's own. -/
structure OwnJ (B : Nat) (w : World) (j : J4) (s : S3) (k : Nat) (hs : Nat → H2) : Prop where
  items : OwnE 39 7 encI B w s.ia j.items.length fun k => j.items.getD k zeroI
  heads : OwnE 54 2 encH B w s.na j.notes.length hs
  notes : NotesOwn B w k hs j.notes
  floats : OwnE 42 3 encF B w s.fa j.floats.length fun k => j.floats.getD k zeroF
  ic : j.items.length ≤ s.ic ∧ s.ic ≤ maxLen
  nc : j.notes.length ≤ s.nc ∧ s.nc ≤ maxLen
  fc : j.floats.length ≤ s.fc ∧ s.fc ≤ maxLen
theorem NoteOwn.kind {B : Nat} {w x : World} {h : H2} {n : N2} (H : NoteOwn B w h n) {b : Nat} {cs : Array Value} {T : TypeId} (hs : Sole b w x) (hb : Blk w b cs T) (h22 : T ≠ 29) (h3 : T ≠ 3) : NoteOwn B x h n := by
  obtain ⟨h1, h2, h3', h4, h5, h6, h7, h8⟩ := H
  exact ⟨h1, h2, h3', h4, h5.kind hs hb h22, h6, h7.kind hs hb h3, h8⟩
theorem OwnE.lt {α : Type} {e : TypeId} {sz : Nat} {enc : α → List Value} {B : Nat} {w : World} {a : Option Addr} {n : Nat} {F : Nat → α} (h : OwnE e sz enc B w a n F) (hn : 0 < n) : ∃ g, a = some ⟨g, 0, none⟩ ∧ B ≤ g ∧ g < w.heap.size := by
  rcases h with h | ⟨g, cur, h1, h2, h3, h4⟩
  · omega
  · exact ⟨g, h1, h2, h3.lt⟩
/-- One more note has numbers of its own. -/
theorem NotesOwn.snoc {B k : Nat} {w x : World} {hs : Nat → H2} {l : List N2} {h : H2} (H : NotesOwn B w k hs l) (hall : ∀ i, i < k → NoteOwn B x (hs i) (l.getD i zeroN)) (hn : NoteOwn w.heap.size x h (l.getD k zeroN)) (hB : B ≤ w.heap.size) : NotesOwn B x (k + 1) (fun i => if i = k then h else hs i) l := by
  refine ⟨fun i hi => ?_, fun i i' hi hi' h1 h2 => ?_⟩
  · by_cases e : i = k
    · subst e
      obtain ⟨q1, q2, q3, q4, q5, q6, q7, q8⟩ := hn
      simp only [if_true]
      exact ⟨q1, q2, q3, q4, q5.mono hB, q6, q7.mono hB, q8⟩
    · simp only [if_neg e]
      exact hall i (by omega)
  · by_cases e : i' = k
    · subst e
      simp only [if_neg (show ¬ i = i' by omega), if_true]
      obtain ⟨_, _, _, _, q5, _⟩ := H.each i hi
      obtain ⟨_, _, _, _, q5', _⟩ := hn
      obtain ⟨g, e1, _, e2⟩ := q5.lt (List.length_pos_iff.2 h1)
      obtain ⟨g', e3, e4, _⟩ := q5'.lt (List.length_pos_iff.2 h2)
      rw [e1, e3]
      intro hh
      cases hh
      omega
    · simp only [if_neg e, if_neg (show ¬ i = k by omega)]
      exact H.apart i i' hi (by omega) h1 h2
theorem OwnE.row {α : Type} {e : TypeId} {sz : Nat} {enc : α → List Value} {B : Nat} {w : World} {a : Option Addr} {n : Nat} {F : Nat → α} (h : OwnE e sz enc B w a n F) {b : Nat} (hb : b < B) (cs : Array Value) : OwnE e sz enc B (w.setRow b cs) a n F := by
  rcases h with h | ⟨g, cur, h1, h2, h3, h4⟩
  · exact .inl h
  · exact .inr ⟨g, cur, h1, h2, h3.row_other (by omega) cs, h4⟩
theorem NoteOwn.row {B : Nat} {w : World} {h : H2} {n : N2} (H : NoteOwn B w h n) {b : Nat} (hb : b < B) (cs : Array Value) : NoteOwn B (w.setRow b cs) h n := by
  obtain ⟨h1, h2, h3', h4, h5, h6, h7, h8⟩ := H
  exact ⟨h1, h2, h3', h4, h5.row hb cs, h6, h7.row hb cs, h8⟩
theorem NoteOwn.mono {B B' : Nat} {w : World} {h : H2} {n : N2} (H : NoteOwn B w h n) (hB : B' ≤ B) : NoteOwn B' w h n := by
  obtain ⟨h1, h2, h3', h4, h5, h6, h7, h8⟩ := H
  exact ⟨h1, h2, h3', h4, h5.mono hB, h6, h7.mono hB, h8⟩
/-- What stands while clone goes on: the copy of the job, and room for what it hands back. -/
structure ClS (w V : World) (j : J4) (s : S3) : Prop where
  job : JobAt V w.heap.size j s
  room : JobAt V (w.heap.size + 1) zeroJ zeroS4
  bel : Below w.heap.size w V
  size : w.heap.size + 2 ≤ V.heap.size
theorem ClS.old {w V x : World} {j : J4} {s : S3} (h : ClS w V j s) (hx : Old V x) : ClS w x j s :=
  ⟨h.job.old hx, h.room.old hx, tstep h.bel hx h.bel.size, Nat.le_trans h.size hx.size⟩
theorem ClS.set19 {w V : World} {j : J4} {s : S3} (h : ClS w V j s) (a : Option Addr) (c : Nat) : ClS w (V.setCell ⟨w.heap.size, 19, none⟩ (.slice a j.items.length c)) j { s with ia := a, ic := c } :=
  ⟨h.job.set19 a c, h.room.other (by omega) _ _, h.bel.setCell (p := ⟨w.heap.size, 19, none⟩) (Nat.le_refl _) _, by simpa using h.size⟩
theorem ClS.set20 {w V : World} {j : J4} {s : S3} (h : ClS w V j s) (a : Option Addr) (c : Nat) : ClS w (V.setCell ⟨w.heap.size, 20, none⟩ (.slice a j.notes.length c)) j { s with na := a, nc := c } :=
  ⟨h.job.set20 a c, h.room.other (by omega) _ _, h.bel.setCell (p := ⟨w.heap.size, 20, none⟩) (Nat.le_refl _) _, by simpa using h.size⟩
theorem ClS.set21 {w V : World} {j : J4} {s : S3} (h : ClS w V j s) (a : Option Addr) (c : Nat) : ClS w (V.setCell ⟨w.heap.size, 21, none⟩ (.slice a j.floats.length c)) j { s with fa := a, fc := c } :=
  ⟨h.job.set21 a c, h.room.other (by omega) _ _, h.bel.setCell (p := ⟨w.heap.size, 21, none⟩) (Nat.le_refl _) _, by simpa using h.size⟩
theorem ClS.sole {w V x : World} {j : J4} {s : S3} (h : ClS w V j s) {g : Nat} (hx : Sole g V x) (hg : w.heap.size + 2 ≤ g) : ClS w x j s :=
  ⟨Blk.sole h.job hx (by omega), Blk.sole h.room hx (by omega), Sole.below h.bel hx (by omega), by rw [hx.size]; exact h.size⟩
/-- What stands in the loop over the notes. -/
def ClI (w wr : World) (j : J4) (s : S3) (hs0 : Nat → H2) (k : Nat) : Prop :=
  ClS w wr j s ∧ (OwnE 39 7 encI (w.heap.size + 2) wr s.ia j.items.length fun k => j.items.getD k zeroI) ∧ (OwnE 42 3 encF (w.heap.size + 2) wr s.fa j.floats.length fun k => j.floats.getD k zeroF) ∧
    ∃ hs, OwnE 54 2 encH (w.heap.size + 2) wr s.na j.notes.length hs ∧ NotesOwn (w.heap.size + 2) wr k hs j.notes ∧ ∀ i, k ≤ i → hs i = hs0 i
set_option maxHeartbeats 2000000 in
theorem clone_any (j : J4) (s : S3) (w : World) (hL : Lists w j s) (hf : Few j) :
    Calls Try.prog 72 #[.agg (jobC j s)] w fun e w' => ∃ s' hs, e = .returned (.agg (jobC j s')) ∧ OwnJ w.heap.size w' j s' j.notes.length hs ∧ Below w.heap.size w w' := by
  obtain ⟨f1, f2, f3, f4⟩ := hf
  have C : ClS w ((w.alloc (.cells (jobC j s) 35)).alloc (.cells (jobC zeroJ zeroS4) 35)) j s :=
    ⟨(job_new w j s).old (tbel1 _ _), blk_two w _ _ _, tbel2 w _ _, by simp⟩
  obtain ⟨hs0, hH, hN⟩ := hL.notes
  have HN := Lib.hid hN
  have HE := Lib.hid hH
  have hLI := Lib.hid hL.items
  have hLF := Lib.hid hL.floats
  clear hL hN hH
  go_enter Try.func72, Try.ntmps72
  go_upto_region 1 with (fail)
  change Code.wp _ _ _ _ ((w.alloc (.cells (jobC j s) 35)).alloc (.cells (jobC zeroJ zeroS4) 35))
  generalize (w.alloc _).alloc _ = U at *
  obtain ⟨t19, t20, t21⟩ := C.job.three
  go_wp2_with fail
  refine (clone_I s.ia s.ic j.items U (by omega) (hLI.out.carry C.bel)).mono ?_
  rintro e w1 ⟨_, rfl, ⟨a1, c1, rfl, hc1, hm1, o1⟩, b1⟩
  clear t19 t20 t21 hLI
  replace o1 := o1.mono C.size
  replace C := C.old b1
  obtain ⟨t19, t20, t21⟩ := C.job.three
  have f19 := Blk.free C.job 19
  go_wp2_with fail
  replace o1 := o1.other (b := w.heap.size) (by omega) 19 (.slice a1 j.items.length c1)
  replace C := C.set19 a1 c1
  clear t19 t20 t21 f19 b1
  generalize w1.setCell _ _ = V1 at *
  refine (clone_N s.na s.nc j.notes.length hs0 V1 (by omega) (HE.out.carry C.bel)).mono ?_
  rintro e w2 ⟨_, rfl, ⟨a2, c2, rfl, hc2, hm2, o2⟩, b2⟩
  clear HE
  replace o2 := o2.mono C.size
  replace o1 := o1.old b2
  replace C := C.old b2
  obtain ⟨t19, t20, t21⟩ := C.job.three
  have f20 := Blk.free C.job 20
  go_wp2_with fail
  replace o1 := o1.other (b := w.heap.size) (by omega) 20 (.slice a2 j.notes.length c2)
  replace o2 := o2.other (b := w.heap.size) (by omega) 20 (.slice a2 j.notes.length c2)
  replace C := C.set20 a2 c2
  clear t19 t20 t21 f20 b2
  generalize w2.setCell _ _ = V2 at *
  refine (clone_F s.fa s.fc j.floats V2 (by omega) (hLF.out.carry C.bel)).mono ?_
  rintro e w3 ⟨_, rfl, ⟨a3, c3, rfl, hc3, hm3, o3⟩, b3⟩
  clear hLF
  replace o3 := o3.mono C.size
  replace o1 := o1.old b3
  replace o2 := o2.old b3
  replace C := C.old b3
  obtain ⟨t19, t20, t21⟩ := C.job.three
  have f21 := Blk.free C.job 21
  go_upto_region 4 with (fail)
  replace o1 := o1.other (b := w.heap.size) (by omega) 21 (.slice a3 j.floats.length c3)
  replace o2 := o2.other (b := w.heap.size) (by omega) 21 (.slice a3 j.floats.length c3)
  replace o3 := o3.other (b := w.heap.size) (by omega) 21 (.slice a3 j.floats.length c3)
  replace C := C.set21 a3 c3
  clear t19 t20 t21 f21 b3
  generalize w3.setCell _ _ = V3 at *
  clear w1 w2 w3
  have H1 := Lib.hid o1
  have H2 := Lib.hid o2
  have H3 := Lib.hid o3
  clear o1 o2 o3
  obtain ⟨s', hs', e1, e2, e3, e4, e5, e6⟩ : ∃ s' : S3, s' = ⟨a1, c1, a2, c2, a3, c3⟩ ∧ s'.ia = a1 ∧ s'.ic = c1 ∧ s'.na = a2 ∧ s'.nc = c2 ∧ s'.fa = a3 ∧ s'.fc = c3 := ⟨_, rfl, rfl, rfl, rfl, rfl, rfl, rfl⟩
  change ClS w V3 j ⟨a1, c1, a2, c2, a3, c3⟩ at C
  rw [← hs'] at C
  obtain ⟨t19, t20, t21⟩ := C.job.three
  rw [e3, e4] at t20
  go_wp2_with fail
  go_loopw [20] (fun i wr => ∃ k : Nat, k ≤ j.notes.length ∧ i = .int .i64 k ∧ Hid (ClI w wr j s' hs0 k)) (fun i _ => j.notes.length - (intOf i).toNat)
  case atStart => exact ⟨0, Nat.zero_le _, rfl, Lib.hid ⟨C, by rw [e1]; exact H1.out, by rw [e5]; exact H3.out, hs0, by rw [e3]; exact H2.out, ⟨fun i hi => by omega, fun i i' _ hi => by omega⟩, fun i _ => rfl⟩⟩
  case round =>
    obtain ⟨k, hk, rfl, HI⟩ := hrel
    clear C t19 t20 t21
    by_cases hlt : k < j.notes.length
    · have I := HI.out
      obtain ⟨C, I1, I3, hs, I2, IN, IS⟩ := I
      obtain ⟨t19, t20, t21⟩ := C.job.three
      rw [e3, e4] at t20
      rw [e3] at I2
      have I2' := Lib.hid I2
      obtain ⟨g, cur, rfl, hg, hB, hc⟩ : ∃ g cur, a2 = some ⟨g, 0, none⟩ ∧ w.heap.size + 2 ≤ g ∧ Blk wr g cur 54 ∧ ∀ k j', k < j.notes.length → j' < 2 → cur[k * 2 + j']? = (encH (hs k))[j']? := by
        rcases I2 with h | ⟨g, cur, h⟩
        · omega
        · exact ⟨g, cur, h⟩
      have q0 := (hB.cell (k * 2)).trans (hc k 0 hlt (by omega))
      have q1 := (hB.cell (k * 2 + 1)).trans (hc k 1 hlt (by omega))
      have p0 := hB.free (k * 2)
      have p1 := hB.free (k * 2 + 1)
      rw [IS k (Nat.le_refl _)] at q0 q1
      obtain ⟨n1, n2, n3, n4, n5, n6⟩ := (HN.out k hlt).carry C.bel
      simp only [encH, List.getElem?_cons_zero, List.getElem?_cons_succ] at q0 q1
      rw [n1] at q0 n3
      rw [n2] at q1 n4
      have l1 := (f4 k).1
      have l2 := (f4 k).2
      obtain ⟨N, hN⟩ : ∃ N, N = j.notes.getD k zeroN := ⟨_, rfl⟩
      rw [← hN] at l1 l2 n3 n4 n5 n6 q0 q1
      have HNN := Lib.hid hN
      clear hN
      have CE := Lib.hid fun x (hx : Old wr x) => And.intro ((hB.old hx).cell (k * 2) |>.trans ((hB.cell (k * 2)).symm.trans q0)) ((hB.old hx).cell (k * 2 + 1) |>.trans ((hB.cell (k * 2 + 1)).symm.trans q1))
      have M1 := Lib.hid fun x (hx : Old wr x) => clone_Z (hs0 k).la (hs0 k).lc N.l x (by omega) ((n5.els (Nat.le_refl _)).carry hx)
      have M2 := Lib.hid fun x (hx : Old wr x) => clone_P (hs0 k).pa (hs0 k).pc N.p x (by omega) ((n6.els (Nat.le_refl _)).carry hx)
      have HW := Lib.hid (And.intro C (And.intro I1 (And.intro I3 (And.intro IN (And.intro hB (And.intro hc (And.intro IS (And.intro n5.ins n6.ins))))))))
      clear C I1 I3 I2 IN HI hB hc IS n5 n6 n1 n2
      go_wp2_with fail
      (refine wp_region_planY 15 [(0, 0), (1, 0), (2, 0), (3, 0), (4, 0), (5, 1), (7, 0), (8, 0), (9, 0), (10, 1), (6, 2), (11, 2), (12, 0), (13, 0), (14, 3)] (by kernel_rfl) (by kernel_rfl) ?_; simp only [pickY, List.getElem?_cons_succ, List.getElem?_cons_zero, List.drop_succ_cons, List.drop_zero])
      repeat (apply TextY.pure (hw := by kernel_rfl); (focus (intro x K hK; go_simp; exact hK)); simp only [Act.put, List.getElem_toArray, List.getElem_cons_succ, List.getElem_cons_zero, List.setIfInBounds_toArray, List.set_cons_zero, List.set_cons_succ])
      repeat (apply TextY.sees (hw := by kernel_rfl); (focus (intro x hx K hK; have hc := CE.out x hx; go_simp; exact hK)); simp only [Act.put, List.getElem_toArray, List.getElem_cons_succ, List.getElem_cons_zero, List.setIfInBounds_toArray, List.set_cons_zero, List.set_cons_succ])
      repeat (apply TextY.pure (hw := by kernel_rfl); (focus (intro x K hK; go_simp; exact hK)); simp only [Act.put, List.getElem_toArray, List.getElem_cons_succ, List.getElem_cons_zero, List.setIfInBounds_toArray, List.set_cons_zero, List.set_cons_succ])
      repeat (apply TextY.sees (hw := by kernel_rfl); (focus (intro x hx K hK; have hc := CE.out x hx; go_simp; exact hK)); simp only [Act.put, List.getElem_toArray, List.getElem_cons_succ, List.getElem_cons_zero, List.setIfInBounds_toArray, List.set_cons_zero, List.set_cons_succ])
      (refine TextY.loud (V := fun v y => Cloned 29 1 encZ wr.heap.size N.l.length (fun i => N.l.getD i 0) v y) (fun x hx => (M1.out x hx).mono fun e y h => by obtain ⟨v, r1, ⟨a, cap, r2, r3, r4, r5⟩, r6⟩ := h; exact ⟨v, r1, ⟨a, cap, r2, r3, r4, r5.mono hx.size⟩, r6⟩) (by kernel_rfl) (fun _ => by kernel_rfl) (fun v1 y1 hv1 hy1 => ?_); simp only [Act.put, List.getElem_toArray, List.getElem_cons_succ, List.getElem_cons_zero, List.setIfInBounds_toArray, List.set_cons_zero, List.set_cons_succ])
      (refine TextY.loud (V := fun v y => Cloned 3 1 encZ wr.heap.size N.p.length (fun i => N.p.getD i 0) v y) (fun x hx => (M2.out x (hy1.old hx)).mono fun e y h => by obtain ⟨v, r1, ⟨a, cap, r2, r3, r4, r5⟩, r6⟩ := h; exact ⟨v, r1, ⟨a, cap, r2, r3, r4, r5.mono (hy1.old hx).size⟩, r6⟩) (by kernel_rfl) (fun _ => by kernel_rfl) (fun v2 y2 hv2 hy2 => ?_); simp only [Act.put, List.getElem_toArray, List.getElem_cons_succ, List.getElem_cons_zero, List.setIfInBounds_toArray, List.set_cons_zero, List.set_cons_succ])
      repeat (apply TextY.pure (hw := by kernel_rfl); (focus (intro x K hK; go_simp; exact hK)); simp only [Act.put, List.getElem_toArray, List.getElem_cons_succ, List.getElem_cons_zero, List.setIfInBounds_toArray, List.set_cons_zero, List.set_cons_succ])
      obtain ⟨a4, c4, rfl, h41, h42, o4⟩ := hv1
      obtain ⟨a5, c5, rfl, h51, h52, o5⟩ := hv2
      have CW := Lib.hid fun x (hx : Old y2 x) => And.intro (CE.out x ((hy1.old hy2).old hx)).1 (And.intro (Blk.free (HW.out.2.2.2.2.1.old ((hy1.old hy2).old hx)) (k * 2)) (Blk.free (HW.out.2.2.2.2.1.old ((hy1.old hy2).old hx)) (k * 2 + 1)))
      (apply TextY.store (fun x y => y = x.setCell ⟨g, k * 2, none⟩ (.slice a4 N.l.length c4)) (hw := by kernel_rfl); (focus (intro x hx K hK; have hc := CW.out x hx; go_simp; exact hK _ rfl)); simp only [Act.put, List.getElem_toArray, List.getElem_cons_succ, List.getElem_cons_zero, List.setIfInBounds_toArray, List.set_cons_zero, List.set_cons_succ])
      intro x y hx hy z hz
      subst hy
      have hxx := hx
      replace hx := (hy1.old hy2).old hx
      have B1 := HW.out.2.2.2.2.1.old hx
      have S1 := Sole.set (g := g) x (k * 2) (.slice a4 N.l.length c4)
      have B2 := (B1.set (k * 2) (.slice a4 N.l.length c4)).old hz
      have S2 := Sole.set (g := g) z (k * 2 + 1) (.slice a5 N.p.length c5)
      have B3 := B2.set (k * 2 + 1) (.slice a5 N.p.length c5)
      have fz := B2.free (k * 2 + 1)
      have cz := (B2.cell (k * 2 + 1)).trans ((set_out (by omega)).trans (((HW.out.2.2.2.2.1.cell (k * 2 + 1)).symm).trans q1))
      have HX := Lib.hid (And.intro hx (And.intro hz (And.intro B1 (And.intro S1 (And.intro B2 (And.intro S2 B3))))))
      have HO := Lib.hid (And.intro (o4.old (hy2.old hxx)) (o5.old hxx))
      clear hx hz B1 S1 B2 S2 B3 o4 o5
      go_wp2
      go_roundw
      case rel =>
        refine ⟨k + 1, by omega, by go_num, Lib.hid ?_⟩
        obtain ⟨C, I1, I3, IN, hB, hc, IS, n5, n6⟩ := HW.out
        obtain ⟨hx, hz, B1, S1, B2, S2, B3⟩ := HX.out
        obtain ⟨o4, o5⟩ := HO.out
        have n37 : ∀ {T : TypeId}, (54 : TypeId) ≠ T → (54 : TypeId) ≠ T := fun h => h
        have K39 : (54 : TypeId) ≠ 39 := by decide
        have K41 : (54 : TypeId) ≠ 42 := by decide
        have K22 : (54 : TypeId) ≠ 29 := by decide
        have K3 : (54 : TypeId) ≠ 3 := by decide
        have eN := HNN.out
        refine ⟨(((C.old hx).sole S1 hg).old hz).sole S2 hg, (((I1.old hx).kind S1 B1 K39).old hz).kind S2 B2 K39, (((I3.old hx).kind S1 B1 K41).old hz).kind S2 B2 K41, fun i => if i = k then ⟨a4, N.l.length, c4, a5, N.p.length, c5⟩ else hs i, ?_, ?_, fun i hi => ?_⟩
        · rw [e3]
          refine .inr ⟨g, _, rfl, hg, B3, turned (F := hs) hlt encH_len hc (fun m hm => ?_) fun i hi => ?_⟩
          · rw [set_out (by omega), set_out (by omega)]
          · rcases (show i = 0 ∨ i = 1 by omega) with rfl | rfl
            · rw [set_out (by omega), Nat.add_zero]
              exact set_in ((hB.cell (k * 2)).symm.trans q0)
            · exact set_in ((set_out (by omega)).trans ((hB.cell (k * 2 + 1)).symm.trans q1))
        · have hsz := C.size
          have hsx := hx.size
          refine NotesOwn.snoc (w := wr) IN (fun i hi => (((IN.each i hi).old hx).kind S1 B1 K22 K3 |>.old hz).kind S2 B2 K22 K3) ?_ hsz
          rw [← eN]
          exact ⟨rfl, rfl, ⟨h41, h42⟩, ⟨h51, h52⟩, ((o4.kind S1 B1 K22).old hz).kind S2 B2 K22, n5, ((o5.kind S1 B1 K3).old hz).kind S2 B2 K3, n6⟩
        · simp only [if_neg (show ¬ i = k by omega)]
          exact IS i (by omega)
      case measure => simp [intOf]; omega
    · obtain rfl : k = j.notes.length := by omega
      obtain ⟨C, I1, I3, hs, I2, IN, IS⟩ := HI.out
      have HR := Lib.hid (And.intro I1 (And.intro I3 (And.intro I2 IN)))
      clear HI I1 I2 I3 IN IS
      go_upto_region 10 with (fail)
      (refine wp_region_plain (Old wr) 1 (Below.refl _ wr) ?_; simp only [List.take_succ_cons, List.take_zero, List.drop_succ_cons, List.drop_zero])
      (refine Text.val (fun x hx => load_job (.tmp 1) rfl rfl (C.job.old hx)) (by kernel_rfl) ?_; simp only [Act.put, List.getElem_toArray, List.getElem_cons_succ, List.getElem_cons_zero, List.setIfInBounds_toArray, List.set_cons_zero, List.set_cons_succ])
      intro x hx
      refine store_job (j := j) (s := s') rfl (.tmp 2) (.tmp 44) rfl rfl (by kernel_rfl) ((C.old hx).room) ?_
      go_wp2
      refine bodyPost_ret (v := .agg (jobC j s')) ?_ rfl ?_
      · exact results_cell_row Try.results72 _ _ _ 35 _ _ _ rfl ((C.old hx).room.row j s') Try.underlying35 rfl info29
      · obtain ⟨I1, I3, I2, IN⟩ := HR.out
        have hz : w.heap.size + 1 < w.heap.size + 2 := by omega
        have hm : w.heap.size ≤ w.heap.size + 2 := by omega
        exact ⟨s', hs, rfl, ⟨((I1.old hx).row hz _).mono hm, ((I2.old hx).row hz _).mono hm, ⟨fun i hi => (((IN.each i hi).old hx).row hz _).mono hm, IN.apart⟩, ((I3.old hx).row hz _).mono hm, by rw [e2]; exact ⟨hc1, hm1⟩, by rw [e4]; exact ⟨hc2, hm2⟩, by rw [e6]; exact ⟨hc3, hm3⟩⟩, below_row (C.old hx).bel (by omega) _⟩
end Go.Proofs.Ythcgncgnbjhniaa
namespace Go.Proofs.Ythcgncgnbjhniaa
open Go.RowKit
set_option maxRecDepth 20000
set_option linter.unusedVariables false
set_option linter.unusedSimpArgs false

/-- A call in a plain statement whose answer hangs on the world. -/
theorem wpl_call {P : Program} {ops : Array Oper} {rest : List Oper} {o : Oper} {a : Act} {w : World} {Q : Exit → Act → World → Prop} {F : Nat} {args : Array Value} {V : Value → World → Prop} (hgd : o.guard = none)
    (he : (execOp a.eval o).run P w = .ok (.enter F args) w) (c : Calls P F args w fun e y => ∃ v, e = .returned v ∧ V v y) (h : ∀ v y, V v y → wpList P ops Q rest (a.put o.dst v) y) : wpList P ops Q (o :: rest) a w :=
  wpList_plain hgd fun K hK => by
    unfold Oper.wp
    rw [he]
    exact Calls.mono c fun e y hy => by obtain ⟨v, rfl, hy⟩ := hy; exact hK _ _ (h v y hy)
theorem wpl_load_job {ops : Array Oper} {rest : List Oper} {o : Oper} {a : Act} {w : World} {Q : Exit → Act → World → Prop} {j : J4} {s : S3} {b : Nat} (hgd : o.guard = none) (x : Operand) (ho : o.op = .load 35 x) (hx : a.eval x = .pointer (some ⟨b, 0, none⟩)) (h : JobAt w b j s)
    (hk : wpList Try.prog ops Q rest (a.put o.dst (.agg (jobC j s))) w) : wpList Try.prog ops Q (o :: rest) a w :=
  wpList_plain hgd fun K hK => by
    unfold Oper.wp
    rw [load_job x ho hx h]
    exact hK _ _ hk
theorem JobAt.high {w : World} {b : Nat} {j : J4} {s : S3} (h : JobAt w b j s) (v : Int) : JobAt (w.setCell ⟨b, 3, none⟩ (.int .i64 v)) b { j with g := { j.g with high := v } } s := Blk.set h 3 _
theorem JobAt.first {w : World} {b : Nat} {j : J4} {s : S3} (h : JobAt w b j s) (v : Int) : JobAt (w.setCell ⟨b, 4, none⟩ (.int .i64 v)) b { j with g := { j.g with first := v } } s := Blk.set h 4 _
theorem JobAt.rule {w : World} {b : Nat} {j : J4} {s : S3} (h : JobAt w b j s) (v : Int) : JobAt (w.setCell ⟨b, 6, none⟩ (.int .i64 v)) b { j with g := { j.g with rule := v } } s := Blk.set h 6 _
theorem JobAt.sep {w : World} {b : Nat} {j : J4} {s : S3} (h : JobAt w b j s) (v : Int) : JobAt (w.setCell ⟨b, 7, none⟩ (.int .i64 v)) b { j with g := { j.g with sep := v } } s := Blk.set h 7 _
theorem snapGeom_any (b : Nat) (j : J4) (s : S3) (t : Int) (w : World) (hj : inE j.g) (ht : inR t) (D : JobAt w b j s) :
    Calls Try.prog 73 #[.pointer (some ⟨b, 0, none⟩), .int .i64 t] w fun e w' => e = .returned (.tuple #[]) ∧ Sole b w w' ∧ JobAt w' b { j with g := snapG j.g t } s := by
  obtain ⟨g, is, ns, fs⟩ := j
  obtain ⟨_, _, _, i3, i4, _, i6, i7, _⟩ := hj
  have c1 := lower_any b 3 g.high t w i3 ht D.geo.2.2.2.1 (Blk.free D 3)
  have D1 := D.high (downZ g.high t)
  have c2 := lower_any b 4 g.first t _ i4 ht D1.geo.2.2.2.2.1 (Blk.free D1 4)
  have D2 := D1.first (downZ g.first t)
  have c3 := raise_any b 6 g.rule t _ i6 ht D2.geo.2.2.2.2.2.2.1 (Blk.free D2 6)
  have D3 := D2.rule (upZ g.rule t)
  have c4 := raise_any b 7 g.sep t _ i7 ht D3.geo.2.2.2.2.2.2.2.1 (Blk.free D3 7)
  have D4 := D3.sep (upZ g.sep t)
  have HD := Lib.hid D4
  have S := (((Sole.set (g := b) w 3 (.int .i64 (downZ g.high t))).trans (Sole.set _ 4 (.int .i64 (downZ g.first t)))).trans (Sole.set _ 6 (.int .i64 (upZ g.rule t)))).trans (Sole.set _ 7 (.int .i64 (upZ g.sep t)))
  clear D D1 D2 D3 D4
  dsimp only at c1 c2 c3 c4 HD
  go_enter Try.func73, Try.ntmps73
  go_wp2_with fail
  refine c1.mono ?_
  rintro e w1 ⟨rfl, rfl⟩
  clear c1
  go_wp2_with fail
  refine c2.mono ?_
  rintro e w1 ⟨rfl, rfl⟩
  clear c2
  go_wp2_with fail
  refine c3.mono ?_
  rintro e w1 ⟨rfl, rfl⟩
  clear c3
  go_wp2_with fail
  refine c4.mono ?_
  rintro e w1 ⟨rfl, rfl⟩
  clear c4
  go_wp2
  go_end0
  exact ⟨rfl, S, HD.out⟩
theorem ClS.row {w V : World} {j j' : J4} {s s' : S3} (h : ClS w V j s) : ClS w (V.setRow w.heap.size (jobC j' s')) j' s' :=
  ⟨h.job.row j' s', h.room.row_other (by omega) _, below_row h.bel (Nat.le_refl _) _, by simpa using h.size⟩
theorem ClS.geo {w V x : World} {j j' : J4} {s : S3} (h : ClS w V j s) (hs : Sole w.heap.size V x) (hj : JobAt x w.heap.size j' s) : ClS w x j' s :=
  ⟨hj, Blk.sole h.room hs (by omega), Sole.below h.bel hs (Nat.le_refl _), by rw [hs.size]; exact h.size⟩
theorem NotesOwn.mono {B B' : Nat} {w : World} {k : Nat} {hs : Nat → H2} {l : List N2} (h : NotesOwn B w k hs l) (hB : B' ≤ B) : NotesOwn B' w k hs l := ⟨fun i hi => (h.each i hi).mono hB, h.apart⟩
theorem OwnJ.mono {B B' : Nat} {w : World} {j : J4} {s : S3} {k : Nat} {hs : Nat → H2} (h : OwnJ B w j s k hs) (hB : B' ≤ B) : OwnJ B' w j s k hs :=
  ⟨h.items.mono hB, h.heads.mono hB, h.notes.mono hB, h.floats.mono hB, h.ic, h.nc, h.fc⟩
/-- What stands while Snap goes on: items F, notes G, floats E. -/
def SnI (w wr : World) (j : J4) (s : S3) (hs : Nat → H2) (ni nn nf : Nat) (F : Nat → I7) (G : Nat → N2) (E : Nat → F3) : Prop :=
  ClS w wr j s ∧ OwnE 39 7 encI (w.heap.size + 2) wr s.ia ni F ∧ OwnE 54 2 encH (w.heap.size + 2) wr s.na nn hs ∧ (∀ i, i < nn → NoteOwn (w.heap.size + 2) wr (hs i) (G i)) ∧ OwnE 42 3 encF (w.heap.size + 2) wr s.fa nf E
theorem NoteOwn.low {B : Nat} {w x : World} {h : H2} {n : N2} (H : NoteOwn B w h n) {b : Nat} (hs : Sole b w x) (hb : b < B) : NoteOwn B x h n := by
  obtain ⟨h1, h2, h3', h4, h5, h6, h7, h8⟩ := H
  refine ⟨h1, h2, h3', h4, h5.sole hs ?_, h6, h7.sole hs ?_, h8⟩
  · intro g ha hn
    obtain ⟨g', e, hg, _⟩ := h5.lt hn
    rw [ha] at e; cases e; omega
  · intro g ha hn
    obtain ⟨g', e, hg, _⟩ := h7.lt hn
    rw [ha] at e; cases e; omega
theorem OwnE.low {α : Type} {e : TypeId} {sz : Nat} {enc : α → List Value} {B : Nat} {w x : World} {a : Option Addr} {n : Nat} {F : Nat → α} (h : OwnE e sz enc B w a n F) {b : Nat} (hs : Sole b w x) (hb : b < B) : OwnE e sz enc B x a n F :=
  h.sole hs fun g ha hn => by
    obtain ⟨g', e, hg, _⟩ := h.lt hn
    rw [ha] at e; cases e; omega
theorem mem_getD {α : Type} {l : List α} {d : α} {k : Nat} (hk : k < l.length) : l.getD k d ∈ l := by
  rw [List.getD_eq_getElem?_getD, List.getElem?_eq_getElem hk]
  exact List.getElem_mem hk
theorem map_getD {α β : Type} (f : α → β) (l : List α) (d : α) (d' : β) {k : Nat} (hk : k < l.length) : (l.map f).getD k d' = f (l.getD k d) := by simp [hk]
/-- A block that holds numbers of type T, or none at all. -/
def Kin (w : World) (g : Nat) (T : TypeId) : Prop := (∃ cs, Blk w g cs T) ∨ w.heap.size ≤ g
theorem OwnE.kin {α : Type} {e : TypeId} {sz : Nat} {enc : α → List Value} {B : Nat} {w x : World} {a : Option Addr} {n : Nat} {F : Nat → α} (h : OwnE e sz enc B w a n F) {b : Nat} {T : TypeId} (hs : Sole b w x) (hb : Kin w b T) (hT : T ≠ e) : OwnE e sz enc B x a n F := by
  rcases hb with ⟨cs, hb⟩ | hb
  · exact h.kind hs hb hT
  · exact h.sole hs fun g ha hn => by
      obtain ⟨g', e, _, hg⟩ := h.lt hn
      rw [ha] at e; cases e; omega
theorem NoteOwn.lines {B : Nat} {w x : World} {h : H2} {n : N2} {g : Nat} (H : NoteOwn B w h n) (hs : Sole g w x) (hb : Kin w g 29) (hne : ∀ g', h.la = some ⟨g', 0, none⟩ → 0 < n.l.length → g' ≠ g) : NoteOwn B x h n := by
  obtain ⟨h1, h2, h3', h4, h5, h6, h7, h8⟩ := H
  exact ⟨h1, h2, h3', h4, h5.sole hs hne, h6, h7.kin hs hb (by decide), h8⟩
theorem lines_sole {B : Nat} {w x : World} {a : Option Addr} {L : List Int} {F : Nat → Int} (hO : OwnE 29 1 encZ B w a L.length F) (hB : B ≤ w.heap.size) (hS : ∀ g, a = some ⟨g, 0, none⟩ ∨ L = [] → Sole g w x) :
    ∃ g, Sole g w x ∧ Kin w g 29 ∧ B ≤ g ∧ (a = some ⟨g, 0, none⟩ ∧ L ≠ [] ∨ w.heap.size ≤ g) := by
  rcases hO with h | ⟨g, cur, h1, h2, h3, h4⟩
  · have e : L = [] := List.eq_nil_of_length_eq_zero h
    exact ⟨w.heap.size, hS _ (.inr e), .inr (Nat.le_refl _), hB, .inr (Nat.le_refl _)⟩
  · by_cases e : L = []
    · exact ⟨w.heap.size, hS _ (.inr e), .inr (Nat.le_refl _), hB, .inr (Nat.le_refl _)⟩
    · exact ⟨g, hS g (.inl h1), .inl ⟨cur, h3⟩, h2, .inl ⟨h1, e⟩⟩
/-- The first k are turned. -/
def upto {α : Type} (f : α → α) (F : Nat → α) (k : Nat) : Nat → α := fun m => if m < k then f (F m) else F m
theorem upto_lt {α : Type} {f : α → α} {F : Nat → α} {k m : Nat} (h : m < k) : upto f F k m = f (F m) := if_pos h
theorem upto_ge {α : Type} {f : α → α} {F : Nat → α} {k m : Nat} (h : ¬ m < k) : upto f F k m = F m := if_neg h
theorem upto_zero {α : Type} (f : α → α) (F : Nat → α) : upto f F 0 = F := funext fun m => upto_ge (by omega)
theorem upto_succ {α : Type} (f : α → α) (F : Nat → α) (k : Nat) : (fun m => if m = k then f (F k) else upto f F k m) = upto f F (k + 1) := funext fun m => by
  by_cases h : m = k
  · subst h; rw [if_pos rfl, upto_lt (by omega)]
  · rw [if_neg h]
    by_cases h' : m < k
    · rw [upto_lt h', upto_lt (by omega)]
    · rw [upto_ge h', upto_ge (by omega)]
theorem lists_own {B : Nat} {w : World} {j : J4} {s : S3} {hs : Nat → H2} (I : OwnE 39 7 encI B w s.ia j.items.length fun k => j.items.getD k zeroI) (H : OwnE 54 2 encH B w s.na j.notes.length hs) (N : ∀ i, i < j.notes.length → NoteOwn B w (hs i) (j.notes.getD i zeroN)) (E : OwnE 42 3 encF B w s.fa j.floats.length fun k => j.floats.getD k zeroF)
    (hin : inJ j) (hc : (j.items.length ≤ s.ic ∧ s.ic ≤ maxLen) ∧ (j.notes.length ≤ s.nc ∧ s.nc ≤ maxLen) ∧ (j.floats.length ≤ s.fc ∧ s.fc ≤ maxLen)) : Lists w j s :=
  ⟨hin, I.els, ⟨hs, H.els, fun k hk => (N k hk).ok⟩, E.els, hc.1, hc.2.1, hc.2.2⟩
theorem snapI_in {s : Int} {x : I7} (h : inI x) : inI (snapI s x) := by
  obtain ⟨h0, h1, h2, h3, h4, h5, h6⟩ := h
  have z : inR 0 := by decide
  unfold snapI
  split
  · exact ⟨h0, upZ_in h1, h2, h3, h4, h5, h6⟩
  · split
    · exact ⟨h0, nearZ_in h1, h2, z, z, z, h6⟩
    · exact ⟨h0, h1, h2, h3, h4, h5, h6⟩
theorem snapG_in {g : G19} {s : Int} (h : inE g) : inE (snapG g s) := by
  obtain ⟨h0, h1, h2, h3, h4, h5, h6, h7, h8, h9, h10, h11, h12, h13, h14, h15, h16, h17⟩ := h
  exact ⟨h0, h1, h2, downZ_in h3, downZ_in h4, h5, upZ_in h6, upZ_in h7, h8, h9, h10, h11, h12, h13, h14, h15, h16, h17⟩
theorem zero_in (k : Nat) : inI zeroI ∧ inF zeroF := by
  have z : inR 0 := by decide
  exact ⟨⟨z, z, z, z, z, z, z⟩, ⟨z, z, z⟩⟩
theorem getD_none {α : Type} {l : List α} {d : α} {k : Nat} (hk : l.length ≤ k) : l.getD k d = d := by
  rw [List.getD_eq_getElem?_getD, List.getElem?_eq_none hk]; rfl
theorem inJ_snap {j : J4} (h : inJ j) : inJ (snapJ j) := by
  obtain ⟨hg, hi, hf⟩ := h
  unfold snapJ
  split
  · exact ⟨hg, hi, hf⟩
  · refine ⟨snapG_in hg, fun k => ?_, fun k => ?_⟩
    · rcases Nat.lt_or_ge k j.items.length with hk | hk
      · rw [map_getD _ _ zeroI _ hk]; exact snapI_in (hi k)
      · rw [getD_none (by simpa using hk)]; exact (zero_in 0).1
    · rcases Nat.lt_or_ge k j.floats.length with hk | hk
      · rw [map_getD _ _ zeroF _ hk]; exact ⟨(hf k).1, upZ_in (hf k).2.1, (hf k).2.2⟩
      · rw [getD_none (by simpa using hk)]; exact (zero_in 0).2
set_option maxHeartbeats 4000000 in
theorem snap_any (j : J4) (s : S3) (w : World) (hL : Lists w j s) (hf : Few j) :
    Calls Try.prog 51 #[.agg (jobC j s)] w fun e w' => ∃ s', e = .returned (.agg (jobC (snapJ j) s')) ∧ Lists w' (snapJ j) s' ∧ Below w.heap.size w w' := by
  have hin := Lib.hid hL.ins
  have hfew := Lib.hid hf
  obtain ⟨f1, f2, f3, f4⟩ := hf
  have C : ClS w ((w.alloc (.cells (jobC j s) 35)).alloc (.cells (jobC zeroJ zeroS4) 35)) j s :=
    ⟨(job_new w j s).old (tbel1 _ _), blk_two w _ _ _, tbel2 w _ _, by simp⟩
  have HL := Lib.hid hL
  clear hL
  go_enter Try.func51, Try.ntmps51
  go_upto_region 1 with (fail)
  change Code.wp _ _ _ _ ((w.alloc (.cells (jobC j s) 35)).alloc (.cells (jobC zeroJ zeroS4) 35))
  generalize (w.alloc _).alloc _ = U at *
  refine wp_region_lit ?_
  refine wpl_load_job rfl (.tmp 1) rfl rfl C.job ?_
  simp only [Act.put, List.getElem_toArray, List.getElem_cons_succ, List.getElem_cons_zero, List.setIfInBounds_toArray, List.set_cons_zero, List.set_cons_succ]
  refine wpl_call (V := fun v y => ∃ s' hs, v = .agg (jobC j s') ∧ OwnJ (w.heap.size + 2) y j s' j.notes.length hs ∧ Below U.heap.size U y) rfl (by kernel_rfl) ((clone_any j s U (HL.out.carry C.bel) hfew.out).mono fun e y h => by obtain ⟨s', hs, r1, r2, r3⟩ := h; exact ⟨_, r1, s', hs, rfl, r2.mono C.size, r3⟩) ?_
  rintro v w1 ⟨s', hs, rfl, O, b1⟩
  simp only [Act.put, List.getElem_toArray, List.getElem_cons_succ, List.getElem_cons_zero, List.setIfInBounds_toArray, List.set_cons_zero, List.set_cons_succ]
  replace C := C.old b1
  refine store_job (j := j) (s := s') rfl (.tmp 1) (.tmp 8) rfl rfl rfl C.job ?_
  have hz : w.heap.size < w.heap.size + 2 := by omega
  have HO : Hid (SnI w (w1.setRow w.heap.size (jobC j s')) j s' hs j.items.length j.notes.length j.floats.length (fun k => j.items.getD k zeroI) (fun k => j.notes.getD k zeroN) (fun k => j.floats.getD k zeroF)) :=
    Lib.hid ⟨C.row, O.items.row hz _, O.heads.row hz _, fun i hi => (O.notes.each i hi).row hz _, O.floats.row hz _⟩
  have HA := Lib.hid O.notes.apart
  have HC := Lib.hid (And.intro O.ic (And.intro O.nc O.fc))
  clear C O b1 HL
  simp only [Act.put, List.getElem_toArray, List.getElem_cons_succ, List.getElem_cons_zero, List.setIfInBounds_toArray, List.set_cons_zero, List.set_cons_succ]
  go_upto_region 2 with (fail)
  generalize w1.setRow _ _ = V at *
  clear w1 U
  have C := HO.out.1
  have q5 := C.job.geo.2.2.2.2.2.1
  clear C
  by_cases hg : j.g.grid < 1
  · have eJ : snapJ j = j := by unfold snapJ; rw [if_pos hg]
    go_upto_region 4 with (fail)
    have C := HO.out.1
    (refine wp_region_plain (Old V) 1 (Below.refl _ V) ?_; simp only [List.take_succ_cons, List.take_zero, List.drop_succ_cons, List.drop_zero])
    (refine Text.val (fun x hx => load_job (.tmp 1) rfl rfl (C.job.old hx)) (by kernel_rfl) ?_; simp only [Act.put, List.getElem_toArray, List.getElem_cons_succ, List.getElem_cons_zero, List.setIfInBounds_toArray, List.set_cons_zero, List.set_cons_succ])
    intro x hx
    refine store_job (j := j) (s := s') rfl (.tmp 2) (.tmp 14) rfl rfl (by kernel_rfl) ((C.old hx).room) ?_
    go_wp2
    refine bodyPost_ret (v := .agg (jobC j s')) ?_ rfl ?_
    · exact results_cell_row Try.results51 _ _ _ 35 _ _ _ rfl ((C.old hx).room.row j s') Try.underlying35 rfl info29
    · obtain ⟨_, I1, I2, IN, I3⟩ := HO.out
      have hz : w.heap.size + 1 < w.heap.size + 2 := by omega
      rw [eJ]
      exact ⟨s', rfl, lists_own ((I1.old hx).row hz _) ((I2.old hx).row hz _) (fun i hi => ((IN i hi).old hx).row hz _) ((I3.old hx).row hz _) hin.out HC.out, below_row (C.old hx).bel (by omega) _⟩
  · have hg' : 1 ≤ j.g.grid := by omega
    have tin : inR j.g.grid := hin.out.1.2.2.2.2.2.1
    have C := HO.out.1
    have cs := snapGeom_any w.heap.size j s' j.g.grid V hin.out.1 tin C.job
    clear C
    have eJ : Hid (snapJ j = ⟨snapG j.g j.g.grid, j.items.map (snapI j.g.grid), j.notes.map (snapN j.g.grid), j.floats.map (snapF j.g.grid)⟩) := Lib.hid (by unfold snapJ; rw [if_neg hg])
    obtain ⟨t, ht⟩ : ∃ t, t = j.g.grid := ⟨_, rfl⟩
    rw [← ht] at cs hg hg' tin q5 eJ
    have HT := Lib.hid ht
    clear ht
    go_upto_region 5 with (fail)
    go_wp2_with fail
    refine cs.mono ?_
    rintro e w1 ⟨rfl, S, J1⟩
    clear cs q5
    have hz : w.heap.size < w.heap.size + 2 := by omega
    replace HO : Hid (SnI w w1 { j with g := snapG j.g t } s' hs j.items.length j.notes.length j.floats.length (fun k => j.items.getD k zeroI) (fun k => j.notes.getD k zeroN) (fun k => j.floats.getD k zeroF)) :=
      Lib.hid ⟨HO.out.1.geo S J1, HO.out.2.1.low S hz, HO.out.2.2.1.low S hz, fun i hi => (HO.out.2.2.2.1 i hi).low S hz, HO.out.2.2.2.2.low S hz⟩
    clear S
    obtain ⟨t19, t20, t21⟩ := J1.three
    clear J1
    go_wp2_with fail
    go_loopw [21] (fun i wr => ∃ k : Nat, k ≤ j.items.length ∧ i = .int .i64 k ∧ Hid (SnI w wr { j with g := snapG j.g t } s' hs j.items.length j.notes.length j.floats.length (upto (snapI t) (fun k => j.items.getD k zeroI) k) (fun k => j.notes.getD k zeroN) (fun k => j.floats.getD k zeroF))) (fun i _ => j.items.length - (intOf i).toNat)
    case atStart => exact ⟨0, Nat.zero_le _, rfl, by rw [upto_zero]; exact HO⟩
    case round =>
      obtain ⟨k, hk, rfl, HI⟩ := hrel
      clear HO t19 t20 t21
      by_cases hlt : k < j.items.length
      · obtain ⟨C, I1, I2, IN, I3⟩ := HI.out
        obtain ⟨t19, t20, t21⟩ := C.job.three
        have HW := Lib.hid (And.intro C (And.intro I2 (And.intro IN I3)))
        obtain ⟨g, cur, hia, hg2, hB, hc⟩ : ∃ g cur, s'.ia = some ⟨g, 0, none⟩ ∧ w.heap.size + 2 ≤ g ∧ Blk wr g cur 39 ∧ ∀ m j', m < j.items.length → j' < 7 → cur[m * 7 + j']? = (encI (upto (snapI t) (fun k => j.items.getD k zeroI) k m))[j']? := by
          rcases I1 with h | ⟨g, cur, h⟩
          · omega
          · exact ⟨g, cur, h⟩
        have c := snapItem_any (j.items.getD k zeroI) t g (k * 7) cur wr (hin.out.2.1 k) tin hB (fun j' hj' => by have := hc k j' hlt hj'; rwa [upto_ge (by omega)] at this)
        have HB := Lib.hid (And.intro hB hc)
        have HIA := Lib.hid hia
        rw [hia] at t19
        dsimp only at t19 t20 t21
        clear C I1 I2 IN I3 HI hB hc hia
        go_wp2_with fail
        refine c.mono ?_
        rintro e w2 ⟨rfl, S, cur', hB', hout, hin'⟩
        clear c t19 t20 t21
        have HN : Hid (SnI w w2 { j with g := snapG j.g t } s' hs j.items.length j.notes.length j.floats.length (upto (snapI t) (fun k => j.items.getD k zeroI) (k + 1)) (fun k => j.notes.getD k zeroN) (fun k => j.floats.getD k zeroF)) := Lib.hid (by
          obtain ⟨C, I2, IN, I3⟩ := HW.out
          obtain ⟨hB, hc⟩ := HB.out
          refine ⟨C.sole S hg2, ?_, I2.kind S hB (by decide), fun i hi => (IN i hi).kind S hB (by decide) (by decide), I3.kind S hB (by decide)⟩
          rw [← upto_succ]
          exact .inr ⟨g, cur', HIA.out, hg2, hB', turned (y := snapI t (j.items.getD k zeroI)) hlt encI_len hc hout hin'⟩)
        clear S hB' hout hin'
        go_wp2
        go_roundw
        case rel => exact ⟨k + 1, by omega, by go_num, HN⟩
        case measure => simp [intOf]; omega
      · obtain rfl : k = j.items.length := by omega
        clear hk hlt
        obtain ⟨t19, t20, t21⟩ := HI.out.1.job.three
        dsimp only at t19 t20 t21
        go_wp2_with fail
        have HO2 : Hid (SnI w wr { j with g := snapG j.g t } s' hs j.items.length j.notes.length j.floats.length (upto (snapI t) (fun k => j.items.getD k zeroI) j.items.length) (upto (snapN t) (fun k => j.notes.getD k zeroN) 0) (fun k => j.floats.getD k zeroF)) := Lib.hid (by rw [upto_zero]; exact HI.out)
        clear HI
        go_loopw [34] (fun i wr => ∃ k : Nat, k ≤ j.notes.length ∧ i = .int .i64 k ∧ Hid (SnI w wr { j with g := snapG j.g t } s' hs j.items.length j.notes.length j.floats.length (upto (snapI t) (fun k => j.items.getD k zeroI) j.items.length) (upto (snapN t) (fun k => j.notes.getD k zeroN) k) (fun k => j.floats.getD k zeroF))) (fun i _ => j.notes.length - (intOf i).toNat)
        case atStart => exact ⟨0, Nat.zero_le _, rfl, HO2⟩
        case round =>
          clear HO2 t19 t20 t21
          obtain ⟨k, hk, rfl, HI⟩ := hrel
          by_cases hlt : k < j.notes.length
          · obtain ⟨C, I1, I2, IN, I3⟩ := HI.out
            obtain ⟨t19, t20, t21⟩ := C.job.three
            obtain ⟨g, cur, hia, hg2, hB, hc⟩ : ∃ g cur, s'.na = some ⟨g, 0, none⟩ ∧ w.heap.size + 2 ≤ g ∧ Blk wr g cur 54 ∧ ∀ m j', m < j.notes.length → j' < 2 → cur[m * 2 + j']? = (encH (hs m))[j']? := by
              rcases I2 with h | ⟨g, cur, h⟩
              · omega
              · exact ⟨g, cur, h⟩
            have q0 := (hB.cell (k * 2)).trans (hc k 0 hlt (by omega))
            simp only [encH, List.getElem?_cons_zero] at q0
            obtain ⟨N, hN⟩ : ∃ N, N = j.notes.getD k zeroN := ⟨_, rfl⟩
            have hNo := IN k hlt
            rw [upto_ge (by omega)] at hNo
            rw [← hN] at hNo
            have l1 := (f4 k).1
            rw [← hN] at l1
            have HNN := Lib.hid hN
            have HNo := Lib.hid hNo
            obtain ⟨n1, n2, n3, n4, n5, n6, n7, n8⟩ := hNo
            rw [n1] at q0
            have c := snapLines_any N.l t (hs k).la (hs k).lc (w.heap.size + 2) wr (by omega) n6 tin n5
            have HW := Lib.hid (And.intro C (And.intro I1 (And.intro I2 (And.intro IN I3))))
            have HIA := Lib.hid hia
            rw [hia] at t20
            dsimp only at t19 t20 t21
            clear C I1 I2 IN I3 HI hB hc hia hN n1 n2 n3 n4 n5 n6 n7 n8
            go_wp2_with fail
            refine c.mono ?_
            rintro e w2 ⟨rfl, hS, hO⟩
            clear c t19 t20 t21 q0
            have HN : Hid (SnI w w2 { j with g := snapG j.g t } s' hs j.items.length j.notes.length j.floats.length (upto (snapI t) (fun k => j.items.getD k zeroI) j.items.length) (upto (snapN t) (fun k => j.notes.getD k zeroN) (k + 1)) (fun k => j.floats.getD k zeroF)) := Lib.hid (by
              obtain ⟨C, I1, I2, IN, I3⟩ := HW.out
              obtain ⟨n1, n2, n3, n4, n5, n6, n7, n8⟩ := HNo.out
              obtain ⟨g', S, K, hgB, hla⟩ := lines_sole n5 C.size hS
              refine ⟨C.sole S hgB, I1.kin S K (by decide), I2.kin S K (by decide), fun i hi => ?_, I3.kin S K (by decide)⟩
              by_cases e : i = k
              · subst e
                rw [upto_lt (by omega), ← HNN.out]
                refine ⟨by rw [n1]; simp [snapN], n2, n3, n4, ?_, fun m => ?_, n7.kin S K (by decide), n8⟩
                · simp only [snapN, List.length_map]
                  exact hO.congr fun m hm => (map_getD (fun x => upZ x t) N.l 0 0 hm).symm
                · rcases Nat.lt_or_ge m N.l.length with h | h
                  · simp only [snapN]; rw [map_getD _ _ 0 _ h]; exact upZ_in (n6 m)
                  · rw [getD_none (by simpa [snapN] using h)]; decide
              · have e1 : upto (snapN t) (fun k => j.notes.getD k zeroN) (k + 1) i = upto (snapN t) (fun k => j.notes.getD k zeroN) k i := by
                  rw [← upto_succ]; simp only [if_neg e]
                rw [e1]
                refine (IN i hi).lines S K fun g2 ha hn => ?_
                rintro rfl
                have hlt2 : g2 < wr.heap.size := by
                  obtain ⟨_, _, _, _, q5, _⟩ := IN i hi
                  obtain ⟨g3, e3, _, h3⟩ := q5.lt hn
                  rw [ha] at e3; cases e3; exact h3
                rcases hla with ⟨hla, hne⟩ | hla
                case inr => omega
                have hni : (j.notes.getD i zeroN).l ≠ [] := by
                  intro h0
                  by_cases hik : i < k
                  · rw [upto_lt hik] at hn; simp only [snapN, List.length_map] at hn; rw [h0] at hn; simp at hn
                  · rw [upto_ge hik] at hn; rw [h0] at hn; simp at hn
                rcases Nat.lt_or_gt_of_ne e with h | h
                · exact HA.out i k h hlt hni (by rw [← HNN.out]; exact hne) (by rw [ha, hla])
                · exact HA.out k i h hi (by rw [← HNN.out]; exact hne) hni (by rw [ha, hla]))
            clear hS hO
            go_wp2
            go_roundw
            case rel => exact ⟨k + 1, by omega, by go_num, HN⟩
            case measure => simp [intOf]; omega
          · obtain rfl : k = j.notes.length := by omega
            clear hk hlt
            obtain ⟨t19, t20, t21⟩ := HI.out.1.job.three
            dsimp only at t19 t20 t21
            go_wp2_with fail
            have HO3 : Hid (SnI w wr { j with g := snapG j.g t } s' hs j.items.length j.notes.length j.floats.length (upto (snapI t) (fun k => j.items.getD k zeroI) j.items.length) (upto (snapN t) (fun k => j.notes.getD k zeroN) j.notes.length) (upto (snapF t) (fun k => j.floats.getD k zeroF) 0)) := Lib.hid (by rw [upto_zero]; exact HI.out)
            clear HI
            go_loopw [49] (fun i wr => ∃ k : Nat, k ≤ j.floats.length ∧ i = .int .i64 k ∧ Hid (SnI w wr { j with g := snapG j.g t } s' hs j.items.length j.notes.length j.floats.length (upto (snapI t) (fun k => j.items.getD k zeroI) j.items.length) (upto (snapN t) (fun k => j.notes.getD k zeroN) j.notes.length) (upto (snapF t) (fun k => j.floats.getD k zeroF) k))) (fun i _ => j.floats.length - (intOf i).toNat)
            case atStart => exact ⟨0, Nat.zero_le _, rfl, HO3⟩
            case round =>
              clear HO3 t19 t20 t21
              obtain ⟨k, hk, rfl, HI⟩ := hrel
              by_cases hlt : k < j.floats.length
              · obtain ⟨C, I1, I2, IN, I3⟩ := HI.out
                obtain ⟨t19, t20, t21⟩ := C.job.three
                obtain ⟨g, cur, hia, hg2, hB, hc⟩ : ∃ g cur, s'.fa = some ⟨g, 0, none⟩ ∧ w.heap.size + 2 ≤ g ∧ Blk wr g cur 42 ∧ ∀ m j', m < j.floats.length → j' < 3 → cur[m * 3 + j']? = (encF (upto (snapF t) (fun k => j.floats.getD k zeroF) k m))[j']? := by
                  rcases I3 with h | ⟨g, cur, h⟩
                  · omega
                  · exact ⟨g, cur, h⟩
                have q1 := hc k 1 hlt (by omega)
                have q0 := hc k 0 hlt (by omega)
                have q2 := hc k 2 hlt (by omega)
                rw [upto_ge (by omega)] at q0 q1 q2
                have hx0 := (hin.out.2.2 k).2.1
                obtain ⟨x0, ex⟩ : ∃ x0, x0 = j.floats.getD k zeroF := ⟨_, rfl⟩
                rw [← ex] at q0 q1 q2 hx0
                have HEX := Lib.hid ex
                clear ex
                have c := raise_any g (k * 3 + 1) x0.h t wr hx0 tin ((hB.cell (k * 3 + 1)).trans q1) (hB.free _)
                have HW := Lib.hid (And.intro C (And.intro I1 (And.intro I2 (And.intro IN (And.intro hB (And.intro hc (And.intro q0 (And.intro q1 q2))))))))
                have HIA := Lib.hid hia
                rw [hia] at t21
                dsimp only at t19 t20 t21
                clear C I1 I2 IN I3 HI hB hc hia q0 q1 q2
                go_wp2_with fail
                refine c.mono ?_
                rintro e w2 ⟨rfl, rfl⟩
                clear c t19 t20 t21
                have HN : Hid (SnI w (wr.setCell ⟨g, k * 3 + 1, none⟩ (.int .i64 (upZ x0.h t))) { j with g := snapG j.g t } s' hs j.items.length j.notes.length j.floats.length (upto (snapI t) (fun k => j.items.getD k zeroI) j.items.length) (upto (snapN t) (fun k => j.notes.getD k zeroN) j.notes.length) (upto (snapF t) (fun k => j.floats.getD k zeroF) (k + 1))) := Lib.hid (by
                  obtain ⟨C, I1, I2, IN, hB, hc, q0, q1, q2⟩ := HW.out
                  have S := Sole.set (g := g) wr (k * 3 + 1) (.int .i64 (upZ x0.h t))
                  refine ⟨C.sole S hg2, I1.kind S hB (by decide), I2.kind S hB (by decide), fun i hi => (IN i hi).kind S hB (by decide) (by decide), ?_⟩
                  rw [← upto_succ]
                  simp only [← HEX.out]
                  refine .inr ⟨g, _, HIA.out, hg2, hB.set _ _, turned (y := snapF t x0) hlt encF_len hc (fun m hm => set_out (by omega)) fun i hi => ?_⟩
                  rcases (show i = 0 ∨ i = 1 ∨ i = 2 by omega) with rfl | rfl | rfl
                  · rw [set_out (by omega)]; exact q0
                  · exact set_in q1
                  · rw [set_out (by omega)]; exact q2)
                go_wp2
                go_roundw
                case rel => exact ⟨k + 1, by omega, by go_num, HN⟩
                case measure => simp [intOf]; omega
              · obtain rfl : k = j.floats.length := by omega
                clear hk hlt
                have C := HI.out.1
                go_upto_region 21 with (fail)
                (refine wp_region_plain (Old wr) 1 (Below.refl _ wr) ?_; simp only [List.take_succ_cons, List.take_zero, List.drop_succ_cons, List.drop_zero])
                (refine Text.val (fun x hx => load_job (.tmp 1) rfl rfl (C.job.old hx)) (by kernel_rfl) ?_; simp only [Act.put, List.getElem_toArray, List.getElem_cons_succ, List.getElem_cons_zero, List.setIfInBounds_toArray, List.set_cons_zero, List.set_cons_succ])
                intro x hx
                refine store_job (j := { j with g := snapG j.g t }) (s := s') rfl (.tmp 2) (.tmp 60) rfl rfl (by kernel_rfl) ((C.old hx).room) ?_
                go_wp2
                refine bodyPost_ret (v := .agg (jobC { j with g := snapG j.g t } s')) ?_ rfl ?_
                · exact results_cell_row Try.results51 _ _ _ 35 _ _ _ rfl ((C.old hx).room.row { j with g := snapG j.g t } s') Try.underlying35 rfl info29
                · obtain ⟨_, I1, I2, IN, I3⟩ := HI.out
                  have hz : w.heap.size + 1 < w.heap.size + 2 := by omega
                  rw [eJ.out]
                  have ec : jobC { j with g := snapG j.g t } s' = jobC ⟨snapG j.g t, j.items.map (snapI t), j.notes.map (snapN t), j.floats.map (snapF t)⟩ s' := by
                    unfold jobC
                    simp only [List.length_map]
                  rw [ec]
                  have hii := inJ_snap hin.out
                  rw [eJ.out] at hii
                  refine ⟨s', rfl, lists_own (B := w.heap.size + 2) (hs := hs) ?_ ?_ ?_ ?_ hii ?_, below_row (C.old hx).bel (by omega) _⟩
                  · rw [List.length_map]
                    exact ((I1.old hx).row hz _).congr fun m hm => by rw [upto_lt hm, map_getD _ _ zeroI _ hm]
                  · rw [List.length_map]
                    exact (I2.old hx).row hz _
                  · intro i hi
                    rw [List.length_map] at hi
                    rw [map_getD _ _ zeroN _ hi]
                    have := IN i hi
                    rw [upto_lt hi] at this
                    exact (this.old hx).row hz _
                  · rw [List.length_map]
                    exact ((I3.old hx).row hz _).congr fun m hm => by rw [upto_lt hm, map_getD _ _ zeroF _ hm]
                  · simp only [List.length_map]
                    exact HC.out
end Go.Proofs.Ythcgncgnbjhniaa
