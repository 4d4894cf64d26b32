/- Plain mathematics for stage 9: setting totals to a height. The small functions of package gset: fits, sound, Right, unsound, widen, narrow, Of. -/
import Derived.Test.YtojphpncidjdiaaTMath
import Derived.Test.YtojphpncidjdiaaBMath
import Derived.Test.YtojphpncidjdiaaSMath
import Derived.Test.YtojphpncidjdiaaTSm
namespace Go.Proofs.Ytojphpncidjdiaa
open Go.RowKit

/-- A length that may be set. -/
def fitB (a : Int) : Bool := decide (0 ≤ a) && decide (a ≤ 1125899906842624)
/-- A total that may be set. -/
def soundT (t : T6) : Bool := fitB t.s0 && fitB t.s1 && fitB t.s2 && fitB t.s3 && fitB t.n && fitB t.h
/-- A total that is admissible with a height. -/
def rightG (t : T6) (high : Int) : Bool := soundT t && decide (-1125899906842624 ≤ high) && decide (high ≤ 1125899906842624)
/-- A setting: How, Ord, By, Of, Left. -/
structure S5 where
  how : Int
  ord : Int
  bye : Int
  off : Int
  left : Int
/-- A setting by value. -/
def stg (s : S5) : Value := .agg #[.int .i64 s.how, .int .i64 s.ord, .int .i64 s.bye, .int .i64 s.off, .int .i64 s.left]
def zeroS : S5 := ⟨0, 0, 0, 0, 0⟩
def inS (s : S5) : Prop := inR s.how ∧ inR s.ord ∧ inR s.bye ∧ inR s.off ∧ inR s.left
/-- The stretch of an order. -/
def strT (t : T6) (o : Int) : Int := if o = 0 then t.s0 else if o = 1 then t.s1 else if o = 2 then t.s2 else if o = 3 then t.s3 else 0
def widenG (t : T6) (need : Int) (last : Bool) : S5 :=
  if 0 < ordT t ∨ (0 < t.s0 ∧ last = false) then ⟨1, ordT t, need, strT t (ordT t), 0⟩ else ⟨0, 0, 0, 0, need⟩
def narrowG (t : T6) (need : Int) : S5 := if need ≤ t.h then ⟨2, 0, need, t.h, 0⟩ else ⟨3, 0, t.h, t.h, t.h - need⟩
/-- How a total is set to a height. -/
def ofG (t : T6) (high : Int) (last : Bool) : S5 :=
  bif rightG t high then
    (if 0 < high - t.n then widenG t (high - t.n) last else if high - t.n < 0 then narrowG t (-(high - t.n)) else zeroS)
  else zeroS
/-- What is spare. -/
def spareG (x : Int) : Int := if x < 0 then 0 else if x ≤ 1125899906842624 then x else 1125899906842624
/-- How bad a setting is. -/
def badG (s : S5) (spare : Int) (last : Bool) : Int :=
  if s.how = 0 then (if s.left = 0 ∨ last = true then 0 else ofR s.left (spareG spare))
  else if s.how = 1 then (if 0 < s.ord then 0 else ofR s.bye (s.off + spareG spare))
  else if s.how = 2 then ofR s.bye s.off
  else 10000
/-- By what a setting shares. -/
def partG (s : S5) (l : List T6) : List Int := if s.how = 1 then l.map (fun t => strT t s.ord) else l.map (fun t => t.h)
/-- The size of the k-th glue. -/
def sizeK (s : S5) (l : List T6) (k : Nat) : Int :=
  if s.how = 1 then (l.getD k zeroT).n + (shareL s.bye (partG s l)).getD k 0
  else if s.how = 2 then (l.getD k zeroT).n - (shareL s.bye (partG s l)).getD k 0
  else if s.how = 3 then (l.getD k zeroT).n - (l.getD k zeroT).h
  else (l.getD k zeroT).n
def okG (s : S5) (l : List T6) : Bool := fitB s.bye && l.all soundT && decide (0 ≤ s.how) && decide (s.how ≤ 3)
/-- The sizes of glues. -/
def sizesG (s : S5) (l : List T6) : List Int := bif okG s l then uptoS (sizeK s l) l.length else []
theorem fitB_true {a : Int} (h : fitB a = true) : 0 ≤ a ∧ a ≤ 1125899906842624 := by simpa [fitB] using h
theorem fitB_false {a : Int} (h : fitB a = false) : a < 0 ∨ 1125899906842624 < a := by
  simp [fitB] at h; omega
theorem fitB_yes {a : Int} (h0 : 0 ≤ a) (h1 : a ≤ 1125899906842624) : fitB a = true := by simp [fitB]; omega
theorem fitB_no {a : Int} (h : a < 0 ∨ 1125899906842624 < a) : fitB a = false := by simp [fitB]; omega
theorem soundT_true {t : T6} (h : soundT t = true) : fitB t.s0 = true ∧ fitB t.s1 = true ∧ fitB t.s2 = true ∧ fitB t.s3 = true ∧ fitB t.n = true ∧ fitB t.h = true := by
  simp [soundT] at h; obtain ⟨⟨⟨⟨⟨a, b⟩, c⟩, d⟩, e⟩, f⟩ := h; exact ⟨a, b, c, d, e, f⟩
theorem spareG_bd (x : Int) : 0 ≤ spareG x ∧ spareG x ≤ 1125899906842624 := by unfold spareG; split <;> (try split) <;> omega
theorem ordT_cases (t : T6) : (ordT t = 0 ∧ strT t (ordT t) = t.s0) ∨ (ordT t = 1 ∧ strT t (ordT t) = t.s1) ∨ (ordT t = 2 ∧ strT t (ordT t) = t.s2) ∨ (ordT t = 3 ∧ strT t (ordT t) = t.s3) := by
  unfold ordT
  split
  · simp [strT]
  · split
    · simp [strT]
    · split
      · simp [strT]
      · simp [strT]
end Go.Proofs.Ytojphpncidjdiaa
namespace Go.Proofs.Ytojphpncidjdiaa
open Go.RowKit
set_option maxRecDepth 20000
set_option linter.unusedVariables false
set_option linter.unusedSimpArgs false

theorem fits_any (a : Int) (w : World) : Calls Try.prog 25 #[.int .i64 a] w fun e w' => e = .returned (.bool (fitB a)) ∧ w' = w := by
  by_cases h0 : 0 ≤ a
  · by_cases h1 : a ≤ 1125899906842624
    · rw [fitB_yes h0 h1]
      go_enter Try.func25, Try.ntmps25
      go_wp2
      go_ret
      exact ⟨rfl, rfl⟩
    · rw [fitB_no (by omega)]
      go_enter Try.func25, Try.ntmps25
      go_wp2
      go_ret
      exact ⟨rfl, rfl⟩
  · rw [fitB_no (by omega)]
    go_enter Try.func25, Try.ntmps25
    go_wp2
    go_ret
    exact ⟨rfl, rfl⟩
set_option maxHeartbeats 1000000 in
theorem sound_0 (n s0 s1 s2 s3 h : Int) (w : World)  (h0 : fitB s0 = false) : Calls Try.prog 18 #[.agg #[.int .i64 n, .int .i64 s0, .int .i64 s1, .int .i64 s2, .int .i64 s3, .int .i64 h]] w fun e w' => e = .returned (.bool false) ∧ Below w.heap.size w w' := by
  have c0 := fits_any s0
  rw [h0] at c0
  clear h0
  obtain ⟨a0, a1, a2, a3⟩ := at4 (.int .i64 s0) (.int .i64 s1) (.int .i64 s2) (.int .i64 s3)
  go_enter Try.func18, Try.ntmps18
  go_wp2
  refine wp_loop_rounds 5 ?_
  rw [rounds_succ]
  go_wp2_with (with_reducible refine (c0 _).mono ?_; rintro e w' ⟨rfl, rfl⟩)
  go_ret
  exact ⟨rfl, tbel1 w _⟩
set_option maxHeartbeats 1000000 in
theorem sound_1 (n s0 s1 s2 s3 h : Int) (w : World) (h0 : fitB s0 = true) (h1 : fitB s1 = false) : Calls Try.prog 18 #[.agg #[.int .i64 n, .int .i64 s0, .int .i64 s1, .int .i64 s2, .int .i64 s3, .int .i64 h]] w fun e w' => e = .returned (.bool false) ∧ Below w.heap.size w w' := by
  have c0 := fits_any s0
  rw [h0] at c0
  clear h0
  have c1 := fits_any s1
  rw [h1] at c1
  clear h1
  obtain ⟨a0, a1, a2, a3⟩ := at4 (.int .i64 s0) (.int .i64 s1) (.int .i64 s2) (.int .i64 s3)
  go_enter Try.func18, Try.ntmps18
  go_wp2
  refine wp_loop_rounds 5 ?_
  rw [rounds_succ]
  go_wp2_with (with_reducible refine (c0 _).mono ?_; rintro e w' ⟨rfl, rfl⟩)
  rw [rounds_succ]
  go_wp2_with (with_reducible refine (c1 _).mono ?_; rintro e w' ⟨rfl, rfl⟩)
  go_ret
  exact ⟨rfl, tbel1 w _⟩
set_option maxHeartbeats 1000000 in
theorem sound_2 (n s0 s1 s2 s3 h : Int) (w : World) (h0 : fitB s0 = true) (h1 : fitB s1 = true) (h2 : fitB s2 = false) : Calls Try.prog 18 #[.agg #[.int .i64 n, .int .i64 s0, .int .i64 s1, .int .i64 s2, .int .i64 s3, .int .i64 h]] w fun e w' => e = .returned (.bool false) ∧ Below w.heap.size w w' := by
  have c0 := fits_any s0
  rw [h0] at c0
  clear h0
  have c1 := fits_any s1
  rw [h1] at c1
  clear h1
  have c2 := fits_any s2
  rw [h2] at c2
  clear h2
  obtain ⟨a0, a1, a2, a3⟩ := at4 (.int .i64 s0) (.int .i64 s1) (.int .i64 s2) (.int .i64 s3)
  go_enter Try.func18, Try.ntmps18
  go_wp2
  refine wp_loop_rounds 5 ?_
  rw [rounds_succ]
  go_wp2_with (with_reducible refine (c0 _).mono ?_; rintro e w' ⟨rfl, rfl⟩)
  rw [rounds_succ]
  go_wp2_with (with_reducible refine (c1 _).mono ?_; rintro e w' ⟨rfl, rfl⟩)
  rw [rounds_succ]
  go_wp2_with (with_reducible refine (c2 _).mono ?_; rintro e w' ⟨rfl, rfl⟩)
  go_ret
  exact ⟨rfl, tbel1 w _⟩
set_option maxHeartbeats 1000000 in
theorem sound_3 (n s0 s1 s2 s3 h : Int) (w : World) (h0 : fitB s0 = true) (h1 : fitB s1 = true) (h2 : fitB s2 = true) (h3 : fitB s3 = false) : Calls Try.prog 18 #[.agg #[.int .i64 n, .int .i64 s0, .int .i64 s1, .int .i64 s2, .int .i64 s3, .int .i64 h]] w fun e w' => e = .returned (.bool false) ∧ Below w.heap.size w w' := by
  have c0 := fits_any s0
  rw [h0] at c0
  clear h0
  have c1 := fits_any s1
  rw [h1] at c1
  clear h1
  have c2 := fits_any s2
  rw [h2] at c2
  clear h2
  have c3 := fits_any s3
  rw [h3] at c3
  clear h3
  obtain ⟨a0, a1, a2, a3⟩ := at4 (.int .i64 s0) (.int .i64 s1) (.int .i64 s2) (.int .i64 s3)
  go_enter Try.func18, Try.ntmps18
  go_wp2
  refine wp_loop_rounds 5 ?_
  rw [rounds_succ]
  go_wp2_with (with_reducible refine (c0 _).mono ?_; rintro e w' ⟨rfl, rfl⟩)
  rw [rounds_succ]
  go_wp2_with (with_reducible refine (c1 _).mono ?_; rintro e w' ⟨rfl, rfl⟩)
  rw [rounds_succ]
  go_wp2_with (with_reducible refine (c2 _).mono ?_; rintro e w' ⟨rfl, rfl⟩)
  rw [rounds_succ]
  go_wp2_with (with_reducible refine (c3 _).mono ?_; rintro e w' ⟨rfl, rfl⟩)
  go_ret
  exact ⟨rfl, tbel1 w _⟩
set_option maxHeartbeats 1000000 in
theorem sound_4 (n s0 s1 s2 s3 h : Int) (fn fh : Bool) (w : World) (h0 : fitB s0 = true) (h1 : fitB s1 = true) (h2 : fitB s2 = true) (h3 : fitB s3 = true) (hn : fitB n = fn) (hh : fitB h = fh) : Calls Try.prog 18 #[.agg #[.int .i64 n, .int .i64 s0, .int .i64 s1, .int .i64 s2, .int .i64 s3, .int .i64 h]] w fun e w' => e = .returned (.bool (fn && fh)) ∧ Below w.heap.size w w' := by
  have c0 := fits_any s0
  rw [h0] at c0
  have c1 := fits_any s1
  rw [h1] at c1
  have c2 := fits_any s2
  rw [h2] at c2
  have c3 := fits_any s3
  rw [h3] at c3
  have c4 := fits_any n
  rw [hn] at c4
  have c5 := fits_any h
  rw [hh] at c5
  clear h0 h1 h2 h3 hn hh
  obtain ⟨a0, a1, a2, a3⟩ := at4 (.int .i64 s0) (.int .i64 s1) (.int .i64 s2) (.int .i64 s3)
  cases fn <;> cases fh
  all_goals
    go_enter Try.func18, Try.ntmps18
    go_wp2
    refine wp_loop_rounds 5 ?_
    rw [rounds_succ]
    go_wp2_with (with_reducible refine (c0 _).mono ?_; rintro e w' ⟨rfl, rfl⟩)
    rw [rounds_succ]
    go_wp2_with (with_reducible refine (c1 _).mono ?_; rintro e w' ⟨rfl, rfl⟩)
    rw [rounds_succ]
    go_wp2_with (with_reducible refine (c2 _).mono ?_; rintro e w' ⟨rfl, rfl⟩)
    rw [rounds_succ]
    go_wp2_with (with_reducible refine (c3 _).mono ?_; rintro e w' ⟨rfl, rfl⟩)
    rw [rounds_succ]
    go_wp2_with (first | (with_reducible refine (c4 _).mono ?_; rintro e w' ⟨rfl, rfl⟩) | (with_reducible refine (c5 _).mono ?_; rintro e w' ⟨rfl, rfl⟩))
    go_ret
    exact ⟨rfl, tbel1 w _⟩
theorem sound_any (t : T6) (w : World) : Calls Try.prog 18 #[tot t] w fun e w' => e = .returned (.bool (soundT t)) ∧ Below w.heap.size w w' := by
  obtain ⟨n, s0, s1, s2, s3, h⟩ := t
  unfold soundT
  dsimp only
  cases h0 : fitB s0
  · exact sound_0 n s0 s1 s2 s3 h w h0
  cases h1 : fitB s1
  · exact sound_1 n s0 s1 s2 s3 h w h0 h1
  cases h2 : fitB s2
  · exact sound_2 n s0 s1 s2 s3 h w h0 h1 h2
  cases h3 : fitB s3
  · exact sound_3 n s0 s1 s2 s3 h w h0 h1 h2 h3
  exact sound_4 n s0 s1 s2 s3 h _ _ w h0 h1 h2 h3 rfl rfl
theorem unsound_any (t : T6) (w : World) : Calls Try.prog 27 #[tot t] w fun e w' => e = .returned (.bool (!soundT t)) ∧ Below w.heap.size w w' := by
  have c := sound_any t
  generalize soundT t = b at c ⊢
  obtain ⟨n, s0, s1, s2, s3, h⟩ := t
  unfold tot at c ⊢
  cases b
  all_goals
    go_enter Try.func27, Try.ntmps27
    go_wp2_with (with_reducible refine (c _).mono ?_; rintro e w1 ⟨rfl, b1⟩)
    go_ret
    exact ⟨rfl, tstep (tbel1 w _) b1 (by simp)⟩
theorem right_any (t : T6) (high : Int) (w : World) : Calls Try.prog 7 #[tot t, .int .i64 high] w fun e w' => e = .returned (.bool (rightG t high)) ∧ Below w.heap.size w w' := by
  unfold rightG
  have c := sound_any t
  generalize soundT t = b at c ⊢
  obtain ⟨n, s0, s1, s2, s3, h⟩ := t
  unfold tot at c ⊢
  dsimp only at c ⊢
  cases b
  · go_enter Try.func7, Try.ntmps7
    go_wp2_with (with_reducible refine (c _).mono ?_; rintro e w1 ⟨rfl, b1⟩)
    go_ret
    exact ⟨rfl, tstep (tbel1 w _) b1 (by simp)⟩
  · by_cases h1 : -1125899906842624 ≤ high
    · rw [decide_eq_true h1]
      go_enter Try.func7, Try.ntmps7
      go_wp2_with (with_reducible refine (c _).mono ?_; rintro e w1 ⟨rfl, b1⟩)
      go_ret
      exact ⟨rfl, tstep (tbel1 w _) b1 (by simp)⟩
    · rw [decide_eq_false h1]
      go_enter Try.func7, Try.ntmps7
      go_wp2_with (with_reducible refine (c _).mono ?_; rintro e w1 ⟨rfl, b1⟩)
      go_ret
      exact ⟨rfl, tstep (tbel1 w _) b1 (by simp)⟩
theorem narrow_any (t : T6) (need : Int) (w : World) (h0 : 0 ≤ t.h) (h1 : t.h ≤ 1125899906842624) (h2 : 0 < need) (h3 : need ≤ 2251799813685248) : Calls Try.prog 20 #[tot t, .int .i64 need] w fun e w' => e = .returned (stg (narrowG t need)) ∧ Below w.heap.size w w' := by
  obtain ⟨n, s0, s1, s2, s3, h⟩ := t
  unfold tot stg narrowG
  dsimp only at h0 h1 ⊢
  by_cases hc : need ≤ h
  · rw [if_pos hc]
    go_enter Try.func20, Try.ntmps20
    go_wp2
    exact bodyPost_ret (v := .agg #[.int .i64 2, .int .i64 0, .int .i64 need, .int .i64 h, .int .i64 0]) (by simp [results, Try.results20, go_sem]) rfl ⟨rfl, tbel2 w _ _⟩
  · rw [if_neg hc]
    go_enter Try.func20, Try.ntmps20
    go_wp2
    exact bodyPost_ret (v := .agg #[.int .i64 3, .int .i64 0, .int .i64 h, .int .i64 h, .int .i64 (h - need)]) (by simp [results, Try.results20, go_sem]) rfl ⟨rfl, tbel2 w _ _⟩
theorem Blk.five {w : World} {g : Nat} {T : TypeId} {v0 v1 v2 v3 v4 : Value} (h : Blk w g #[v0, v1, v2, v3, v4] T) : w.cell? ⟨g, 0, none⟩ = some v0 ∧ w.cell? ⟨g, 1, none⟩ = some v1 ∧ w.cell? ⟨g, 2, none⟩ = some v2 ∧ w.cell? ⟨g, 3, none⟩ = some v3 ∧ w.cell? ⟨g, 4, none⟩ = some v4 := by
  unfold Blk at h
  simp [World.cell?, h]
theorem Blk.five_free {w : World} {g : Nat} {T : TypeId} {v0 v1 v2 v3 v4 : Value} (h : Blk w g #[v0, v1, v2, v3, v4] T) : w.frozen? ⟨g, 0, none⟩ = false ∧ w.frozen? ⟨g, 1, none⟩ = false ∧ w.frozen? ⟨g, 2, none⟩ = false ∧ w.frozen? ⟨g, 3, none⟩ = false ∧ w.frozen? ⟨g, 4, none⟩ = false := by
  unfold Blk at h
  simp [World.frozen?, h]
theorem Blk.set5 {w : World} {g : Nat} {T : TypeId} {u0 u1 u2 u3 u4 : Value} (h : Blk w g #[u0, u1, u2, u3, u4] T) (v0 v1 v2 v3 v4 : Value) : Blk (((((w.setCell ⟨g, 0, none⟩ v0).setCell ⟨g, 1, none⟩ v1).setCell ⟨g, 2, none⟩ v2).setCell ⟨g, 3, none⟩ v3).setCell ⟨g, 4, none⟩ v4) g #[v0, v1, v2, v3, v4] T := by
  simpa using ((((h.set 0 v0).set 1 v1).set 2 v2).set 3 v3).set 4 v4
theorem Below.new5 {w w' : World} {B b : Nat} (h : Below B w w') (hb : B ≤ b) (v0 v1 v2 v3 v4 : Value) : Below B w (((((w'.setCell ⟨b, 0, none⟩ v0).setCell ⟨b, 1, none⟩ v1).setCell ⟨b, 2, none⟩ v2).setCell ⟨b, 3, none⟩ v3).setCell ⟨b, 4, none⟩ v4) :=
  ((((h.setCell (p := ⟨b, 0, none⟩) hb v0).setCell (p := ⟨b, 1, none⟩) hb v1).setCell (p := ⟨b, 2, none⟩) hb v2).setCell (p := ⟨b, 3, none⟩) hb v3).setCell (p := ⟨b, 4, none⟩) hb v4
end Go.Proofs.Ytojphpncidjdiaa
