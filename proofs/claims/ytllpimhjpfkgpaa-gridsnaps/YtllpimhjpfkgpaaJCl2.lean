/- clone of package grid. -/
import Derived.Test.YtllpimhjpfkgpaaJCln
import Derived.Test.YtllpimhjpfkgpaaDetY
namespace Go.Proofs.Ytllpimhjpfkgpaa
open Go.RowKit
set_option maxRecDepth 20000
set_option linter.unusedVariables false
set_option linter.unusedSimpArgs false

theorem OwnE.other {α : Type} {e : TypeId} {sz : Nat} {enc : α → List Value} {B : Nat} {w : World} {a : Option Addr} {n : Nat} {F : Nat → α} (h : OwnE e sz enc B w a n F) {b : Nat} (hb : b < B) (i : Nat) (v : Value) : OwnE e sz enc B (w.setCell ⟨b, i, none⟩ v) a n F := by
  rcases h with h | ⟨g, cur, h1, h2, h3, h4⟩
  · exact .inl h
  · exact .inr ⟨g, cur, h1, h2, h3.other (by omega) i v, h4⟩
theorem OwnE.sole {α : Type} {e : TypeId} {sz : Nat} {enc : α → List Value} {B : Nat} {w x : World} {a : Option Addr} {n : Nat} {F : Nat → α} (h : OwnE e sz enc B w a n F) {b : Nat} (hs : Sole b w x) (hb : ∀ g, a = some ⟨g, 0, none⟩ → 0 < n → g ≠ b) : OwnE e sz enc B x a n F := by
  rcases h with h | ⟨g, cur, h1, h2, h3, h4⟩
  · exact .inl h
  · rcases Nat.eq_zero_or_pos n with h0 | h0
    · exact .inl h0
    · exact .inr ⟨g, cur, h1, h2, h3.sole hs (hb g h1 h0), h4⟩
theorem OwnE.kind {α : Type} {e : TypeId} {sz : Nat} {enc : α → List Value} {B : Nat} {w x : World} {a : Option Addr} {n : Nat} {F : Nat → α} (h : OwnE e sz enc B w a n F) {b : Nat} {cs : Array Value} {T : TypeId} (hs : Sole b w x) (hb : Blk w b cs T) (hT : T ≠ e) : OwnE e sz enc B x a n F :=
  h.sole hs fun g ha hn => by
    rcases h with h | ⟨g', cur, h1, h2, h3, h4⟩
    · omega
    · rw [ha] at h1
      cases h1
      rintro rfl
      unfold Blk at h3 hb
      rw [hb] at h3
      simp only [Option.some.injEq, Obj.cells.injEq] at h3
      exact hT h3.2.1
theorem JobAt.other {w : World} {b c : Nat} {j : J4} {s : S3} (H : JobAt w b j s) (hb : b ≠ c) (i : Nat) (v : Value) : JobAt (w.setCell ⟨c, i, none⟩ v) b j s := Blk.other H hb i v
theorem JobAt.set19 {w : World} {b : Nat} {j : J4} {s : S3} (h : JobAt w b j s) (a : Option Addr) (c : Nat) : JobAt (w.setCell ⟨b, 19, none⟩ (.slice a j.items.length c)) b j { s with ia := a, ic := c } := Blk.set h 19 _
theorem JobAt.set20 {w : World} {b : Nat} {j : J4} {s : S3} (h : JobAt w b j s) (a : Option Addr) (c : Nat) : JobAt (w.setCell ⟨b, 20, none⟩ (.slice a j.notes.length c)) b j { s with na := a, nc := c } := Blk.set h 20 _
theorem JobAt.set21 {w : World} {b : Nat} {j : J4} {s : S3} (h : JobAt w b j s) (a : Option Addr) (c : Nat) : JobAt (w.setCell ⟨b, 21, none⟩ (.slice a j.floats.length c)) b j { s with fa := a, fc := c } := Blk.set h 21 _
/-- A list's elements by a function. -/
theorem range_get {α : Type} (F : Nat → α) (d : α) {n k : Nat} (hk : k < n) : ((List.range n).map F).getD k d = F k := by simp [hk]
theorem Els.list {α : Type} {sz : Nat} {enc : α → List Value} {w : World} {a : Option Addr} {n : Nat} {F : Nat → α} (d : α) (h : Els sz enc w a n F) : Els sz enc w a ((List.range n).map F).length fun k => ((List.range n).map F).getD k d := by
  rw [List.length_map, List.length_range]
  exact h.congr fun k hk => (range_get F d hk).symm
theorem clone_N (a : Option Addr) (cap n : Nat) (F : Nat → H2) (w : World) (hn : n ≤ 1000000) (hr : Els 2 encH w a n F) :
    Calls Try.prog 43 #[.slice a n cap] w fun e w' => ∃ v, e = .returned v ∧ Cloned 37 2 encH w.heap.size n F v w' ∧ Below w.heap.size w w' := by
  have c := clone_H a cap ((List.range n).map F) w (by simpa using hn) (hr.list zeroH)
  rw [List.length_map, List.length_range] at c
  refine c.mono ?_
  rintro e w' ⟨v, rfl, ⟨a', cap', rfl, h1, h2, h3⟩, hb⟩
  exact ⟨_, rfl, ⟨a', cap', rfl, h1, h2, h3.congr fun k hk => range_get F zeroH hk⟩, hb⟩
theorem Cloned.old {α : Type} {e : TypeId} {sz : Nat} {enc : α → List Value} {B n : Nat} {F : Nat → α} {v : Value} {w x : World} (h : Cloned e sz enc B n F v w) (hx : Old w x) : Cloned e sz enc B n F v x := by
  obtain ⟨a, cap, h1, h2, h3, h4⟩ := h
  exact ⟨a, cap, h1, h2, h3, h4.old hx⟩
/-- A note whose numbers are the call's own. -/
def NoteOwn (B : Nat) (w : World) (h : H2) (n : N2) : Prop := h.ll = n.l.length ∧ h.pl = n.p.length ∧ (h.ll ≤ h.lc ∧ h.lc ≤ maxLen) ∧ (h.pl ≤ h.pc ∧ h.pc ≤ maxLen) ∧ (OwnE 22 1 encZ B w h.la n.l.length fun k => n.l.getD k 0) ∧ (∀ k, inR (n.l.getD k 0)) ∧ (OwnE 3 1 encZ B w h.pa n.p.length fun k => n.p.getD k 0) ∧ ∀ k, inR (n.p.getD k 0)
theorem IRow.els {B : Nat} {w : World} {a : Option Addr} {l : List Int} (h : IRow B w a l) (hB : B ≤ w.heap.size) : Els 1 encZ w a l.length fun k => l.getD k 0 := fun k j hk hj => by
  obtain rfl : j = 0 := by omega
  obtain ⟨_, b, off, e, hb, hc⟩ := h k hk
  exact ⟨b, off, e, by omega, by rw [Nat.mul_one, Nat.add_zero]; exact hc⟩
theorem IRow.ins {B : Nat} {w : World} {a : Option Addr} {l : List Int} (h : IRow B w a l) : ∀ k, inR (l.getD k 0) := fun k => by
  rcases Nat.lt_or_ge k l.length with hk | hk
  · exact (h k hk).1
  · rw [List.getD_eq_getElem?_getD, List.getElem?_eq_none hk]
    simp [inR]
theorem Els.irow {w : World} {a : Option Addr} {l : List Int} (h : Els 1 encZ w a l.length fun k => l.getD k 0) (hi : ∀ k, inR (l.getD k 0)) : IRow w.heap.size w a l := fun k hk => by
  obtain ⟨b, off, e, hb, hc⟩ := h k 0 hk (by omega)
  rw [Nat.mul_one, Nat.add_zero] at hc
  exact ⟨hi k, b, off, e, hb, hc⟩
theorem NoteOwn.ok {B : Nat} {w : World} {h : H2} {n : N2} (H : NoteOwn B w h n) : NoteOk w h n := by
  obtain ⟨h1, h2, h3, h4, h5, h6, h7, h8⟩ := H
  exact ⟨h1, h2, h3, h4, h5.els.irow h6, h7.els.irow h8⟩
theorem NoteOwn.old {B : Nat} {w x : World} {h : H2} {n : N2} (H : NoteOwn B w h n) (hx : Old w x) : NoteOwn B x h n := by
  obtain ⟨h1, h2, h3, h4, h5, h6, h7, h8⟩ := H
  exact ⟨h1, h2, h3, h4, h5.old hx, h6, h7.old hx, h8⟩
/-- The notes of a clone: the first k have numbers of their own. -/
structure NotesOwn (B : Nat) (w : World) (k : Nat) (hs : Nat → H2) (l : List N2) : Prop where
  each : ∀ i, i < k → NoteOwn B w (hs i) (l.getD i zeroN)
  apart : ∀ i i', i < i' → i' < k → (l.getD i zeroN).l ≠ [] → (l.getD i' zeroN).l ≠ [] → (hs i).la ≠ (hs i').la
/-- A job that is the call's own. -/
structure OwnJ (B : Nat) (w : World) (j : J4) (s : S3) (k : Nat) (hs : Nat → H2) : Prop where
  items : OwnE 39 7 encI B w s.ia j.items.length fun k => j.items.getD k zeroI
  heads : OwnE 37 2 encH B w s.na j.notes.length hs
  notes : NotesOwn B w k hs j.notes
  floats : OwnE 41 3 encF B w s.fa j.floats.length fun k => j.floats.getD k zeroF
  ic : j.items.length ≤ s.ic ∧ s.ic ≤ maxLen
  nc : j.notes.length ≤ s.nc ∧ s.nc ≤ maxLen
  fc : j.floats.length ≤ s.fc ∧ s.fc ≤ maxLen
theorem NoteOwn.kind {B : Nat} {w x : World} {h : H2} {n : N2} (H : NoteOwn B w h n) {b : Nat} {cs : Array Value} {T : TypeId} (hs : Sole b w x) (hb : Blk w b cs T) (h22 : T ≠ 22) (h3 : T ≠ 3) : NoteOwn B x h n := by
  obtain ⟨h1, h2, h3', h4, h5, h6, h7, h8⟩ := H
  exact ⟨h1, h2, h3', h4, h5.kind hs hb h22, h6, h7.kind hs hb h3, h8⟩
theorem OwnE.lt {α : Type} {e : TypeId} {sz : Nat} {enc : α → List Value} {B : Nat} {w : World} {a : Option Addr} {n : Nat} {F : Nat → α} (h : OwnE e sz enc B w a n F) (hn : 0 < n) : ∃ g, a = some ⟨g, 0, none⟩ ∧ B ≤ g ∧ g < w.heap.size := by
  rcases h with h | ⟨g, cur, h1, h2, h3, h4⟩
  · omega
  · exact ⟨g, h1, h2, h3.lt⟩
/-- One more note has numbers of its own. -/
theorem NotesOwn.snoc {B k : Nat} {w x : World} {hs : Nat → H2} {l : List N2} {h : H2} (H : NotesOwn B w k hs l) (hall : ∀ i, i < k → NoteOwn B x (hs i) (l.getD i zeroN)) (hn : NoteOwn w.heap.size x h (l.getD k zeroN)) (hB : B ≤ w.heap.size) : NotesOwn B x (k + 1) (fun i => if i = k then h else hs i) l := by
  refine ⟨fun i hi => ?_, fun i i' hi hi' h1 h2 => ?_⟩
  · by_cases e : i = k
    · subst e
      obtain ⟨q1, q2, q3, q4, q5, q6, q7, q8⟩ := hn
      simp only [if_true]
      exact ⟨q1, q2, q3, q4, q5.mono hB, q6, q7.mono hB, q8⟩
    · simp only [if_neg e]
      exact hall i (by omega)
  · by_cases e : i' = k
    · subst e
      simp only [if_neg (show ¬ i = i' by omega), if_true]
      obtain ⟨_, _, _, _, q5, _⟩ := H.each i hi
      obtain ⟨_, _, _, _, q5', _⟩ := hn
      obtain ⟨g, e1, _, e2⟩ := q5.lt (List.length_pos_iff.2 h1)
      obtain ⟨g', e3, e4, _⟩ := q5'.lt (List.length_pos_iff.2 h2)
      rw [e1, e3]
      intro hh
      cases hh
      omega
    · simp only [if_neg e, if_neg (show ¬ i = k by omega)]
      exact H.apart i i' hi (by omega) h1 h2
theorem OwnE.row {α : Type} {e : TypeId} {sz : Nat} {enc : α → List Value} {B : Nat} {w : World} {a : Option Addr} {n : Nat} {F : Nat → α} (h : OwnE e sz enc B w a n F) {b : Nat} (hb : b < B) (cs : Array Value) : OwnE e sz enc B (w.setRow b cs) a n F := by
  rcases h with h | ⟨g, cur, h1, h2, h3, h4⟩
  · exact .inl h
  · exact .inr ⟨g, cur, h1, h2, h3.row_other (by omega) cs, h4⟩
theorem NoteOwn.row {B : Nat} {w : World} {h : H2} {n : N2} (H : NoteOwn B w h n) {b : Nat} (hb : b < B) (cs : Array Value) : NoteOwn B (w.setRow b cs) h n := by
  obtain ⟨h1, h2, h3', h4, h5, h6, h7, h8⟩ := H
  exact ⟨h1, h2, h3', h4, h5.row hb cs, h6, h7.row hb cs, h8⟩
theorem NoteOwn.mono {B B' : Nat} {w : World} {h : H2} {n : N2} (H : NoteOwn B w h n) (hB : B' ≤ B) : NoteOwn B' w h n := by
  obtain ⟨h1, h2, h3', h4, h5, h6, h7, h8⟩ := H
  exact ⟨h1, h2, h3', h4, h5.mono hB, h6, h7.mono hB, h8⟩
/-- What stands while clone goes on: the copy of the job, and room for what it hands back. -/
structure ClS (w V : World) (j : J4) (s : S3) : Prop where
  job : JobAt V w.heap.size j s
  room : JobAt V (w.heap.size + 1) zeroJ zeroS
  bel : Below w.heap.size w V
  size : w.heap.size + 2 ≤ V.heap.size
theorem ClS.old {w V x : World} {j : J4} {s : S3} (h : ClS w V j s) (hx : Old V x) : ClS w x j s :=
  ⟨h.job.old hx, h.room.old hx, tstep h.bel hx h.bel.size, Nat.le_trans h.size hx.size⟩
theorem ClS.set19 {w V : World} {j : J4} {s : S3} (h : ClS w V j s) (a : Option Addr) (c : Nat) : ClS w (V.setCell ⟨w.heap.size, 19, none⟩ (.slice a j.items.length c)) j { s with ia := a, ic := c } :=
  ⟨h.job.set19 a c, h.room.other (by omega) _ _, h.bel.setCell (p := ⟨w.heap.size, 19, none⟩) (Nat.le_refl _) _, by simpa using h.size⟩
theorem ClS.set20 {w V : World} {j : J4} {s : S3} (h : ClS w V j s) (a : Option Addr) (c : Nat) : ClS w (V.setCell ⟨w.heap.size, 20, none⟩ (.slice a j.notes.length c)) j { s with na := a, nc := c } :=
  ⟨h.job.set20 a c, h.room.other (by omega) _ _, h.bel.setCell (p := ⟨w.heap.size, 20, none⟩) (Nat.le_refl _) _, by simpa using h.size⟩
theorem ClS.set21 {w V : World} {j : J4} {s : S3} (h : ClS w V j s) (a : Option Addr) (c : Nat) : ClS w (V.setCell ⟨w.heap.size, 21, none⟩ (.slice a j.floats.length c)) j { s with fa := a, fc := c } :=
  ⟨h.job.set21 a c, h.room.other (by omega) _ _, h.bel.setCell (p := ⟨w.heap.size, 21, none⟩) (Nat.le_refl _) _, by simpa using h.size⟩
theorem ClS.sole {w V x : World} {j : J4} {s : S3} (h : ClS w V j s) {g : Nat} (hx : Sole g V x) (hg : w.heap.size + 2 ≤ g) : ClS w x j s :=
  ⟨Blk.sole h.job hx (by omega), Blk.sole h.room hx (by omega), Sole.below h.bel hx (by omega), by rw [hx.size]; exact h.size⟩
/-- What stands in the loop over the notes. -/
def ClI (w wr : World) (j : J4) (s : S3) (hs0 : Nat → H2) (k : Nat) : Prop :=
  ClS w wr j s ∧ (OwnE 39 7 encI (w.heap.size + 2) wr s.ia j.items.length fun k => j.items.getD k zeroI) ∧ (OwnE 41 3 encF (w.heap.size + 2) wr s.fa j.floats.length fun k => j.floats.getD k zeroF) ∧
    ∃ hs, OwnE 37 2 encH (w.heap.size + 2) wr s.na j.notes.length hs ∧ NotesOwn (w.heap.size + 2) wr k hs j.notes ∧ ∀ i, k ≤ i → hs i = hs0 i
set_option maxHeartbeats 2000000 in
theorem clone_any (j : J4) (s : S3) (w : World) (hL : Lists w j s) (hf : Few j) :
    Calls Try.prog 17 #[.agg (jobC j s)] w fun e w' => ∃ s' hs, e = .returned (.agg (jobC j s')) ∧ OwnJ w.heap.size w' j s' j.notes.length hs ∧ Below w.heap.size w w' := by
  obtain ⟨f1, f2, f3, f4⟩ := hf
  have C : ClS w ((w.alloc (.cells (jobC j s) 29)).alloc (.cells (jobC zeroJ zeroS) 29)) j s :=
    ⟨(job_new w j s).old (tbel1 _ _), blk_two w _ _ _, tbel2 w _ _, by simp⟩
  obtain ⟨hs0, hH, hN⟩ := hL.notes
  have HN := Lib.hid hN
  have HE := Lib.hid hH
  have hLI := Lib.hid hL.items
  have hLF := Lib.hid hL.floats
  clear hL hN hH
  go_enter Try.func17, Try.ntmps17
  go_upto_region 1 with (fail)
  change Code.wp _ _ _ _ ((w.alloc (.cells (jobC j s) 29)).alloc (.cells (jobC zeroJ zeroS) 29))
  generalize (w.alloc _).alloc _ = U at *
  obtain ⟨t19, t20, t21⟩ := C.job.three
  go_wp2_with fail
  refine (clone_I s.ia s.ic j.items U (by omega) (hLI.out.carry C.bel)).mono ?_
  rintro e w1 ⟨_, rfl, ⟨a1, c1, rfl, hc1, hm1, o1⟩, b1⟩
  clear t19 t20 t21 hLI
  replace o1 := o1.mono C.size
  replace C := C.old b1
  obtain ⟨t19, t20, t21⟩ := C.job.three
  have f19 := Blk.free C.job 19
  go_wp2_with fail
  replace o1 := o1.other (b := w.heap.size) (by omega) 19 (.slice a1 j.items.length c1)
  replace C := C.set19 a1 c1
  clear t19 t20 t21 f19 b1
  generalize w1.setCell _ _ = V1 at *
  refine (clone_N s.na s.nc j.notes.length hs0 V1 (by omega) (HE.out.carry C.bel)).mono ?_
  rintro e w2 ⟨_, rfl, ⟨a2, c2, rfl, hc2, hm2, o2⟩, b2⟩
  clear HE
  replace o2 := o2.mono C.size
  replace o1 := o1.old b2
  replace C := C.old b2
  obtain ⟨t19, t20, t21⟩ := C.job.three
  have f20 := Blk.free C.job 20
  go_wp2_with fail
  replace o1 := o1.other (b := w.heap.size) (by omega) 20 (.slice a2 j.notes.length c2)
  replace o2 := o2.other (b := w.heap.size) (by omega) 20 (.slice a2 j.notes.length c2)
  replace C := C.set20 a2 c2
  clear t19 t20 t21 f20 b2
  generalize w2.setCell _ _ = V2 at *
  refine (clone_F s.fa s.fc j.floats V2 (by omega) (hLF.out.carry C.bel)).mono ?_
  rintro e w3 ⟨_, rfl, ⟨a3, c3, rfl, hc3, hm3, o3⟩, b3⟩
  clear hLF
  replace o3 := o3.mono C.size
  replace o1 := o1.old b3
  replace o2 := o2.old b3
  replace C := C.old b3
  obtain ⟨t19, t20, t21⟩ := C.job.three
  have f21 := Blk.free C.job 21
  go_upto_region 4 with (fail)
  replace o1 := o1.other (b := w.heap.size) (by omega) 21 (.slice a3 j.floats.length c3)
  replace o2 := o2.other (b := w.heap.size) (by omega) 21 (.slice a3 j.floats.length c3)
  replace o3 := o3.other (b := w.heap.size) (by omega) 21 (.slice a3 j.floats.length c3)
  replace C := C.set21 a3 c3
  clear t19 t20 t21 f21 b3
  generalize w3.setCell _ _ = V3 at *
  clear w1 w2 w3
  have H1 := Lib.hid o1
  have H2 := Lib.hid o2
  have H3 := Lib.hid o3
  clear o1 o2 o3
  obtain ⟨s', hs', e1, e2, e3, e4, e5, e6⟩ : ∃ s' : S3, s' = ⟨a1, c1, a2, c2, a3, c3⟩ ∧ s'.ia = a1 ∧ s'.ic = c1 ∧ s'.na = a2 ∧ s'.nc = c2 ∧ s'.fa = a3 ∧ s'.fc = c3 := ⟨_, rfl, rfl, rfl, rfl, rfl, rfl, rfl⟩
  change ClS w V3 j ⟨a1, c1, a2, c2, a3, c3⟩ at C
  rw [← hs'] at C
  obtain ⟨t19, t20, t21⟩ := C.job.three
  rw [e3, e4] at t20
  go_wp2_with fail
  go_loopw [20] (fun i wr => ∃ k : Nat, k ≤ j.notes.length ∧ i = .int .i64 k ∧ Hid (ClI w wr j s' hs0 k)) (fun i _ => j.notes.length - (intOf i).toNat)
  case atStart => exact ⟨0, Nat.zero_le _, rfl, Lib.hid ⟨C, by rw [e1]; exact H1.out, by rw [e5]; exact H3.out, hs0, by rw [e3]; exact H2.out, ⟨fun i hi => by omega, fun i i' _ hi => by omega⟩, fun i _ => rfl⟩⟩
  case round =>
    obtain ⟨k, hk, rfl, HI⟩ := hrel
    clear C t19 t20 t21
    by_cases hlt : k < j.notes.length
    · have I := HI.out
      obtain ⟨C, I1, I3, hs, I2, IN, IS⟩ := I
      obtain ⟨t19, t20, t21⟩ := C.job.three
      rw [e3, e4] at t20
      rw [e3] at I2
      have I2' := Lib.hid I2
      obtain ⟨g, cur, rfl, hg, hB, hc⟩ : ∃ g cur, a2 = some ⟨g, 0, none⟩ ∧ w.heap.size + 2 ≤ g ∧ Blk wr g cur 37 ∧ ∀ k j', k < j.notes.length → j' < 2 → cur[k * 2 + j']? = (encH (hs k))[j']? := by
        rcases I2 with h | ⟨g, cur, h⟩
        · omega
        · exact ⟨g, cur, h⟩
      have q0 := (hB.cell (k * 2)).trans (hc k 0 hlt (by omega))
      have q1 := (hB.cell (k * 2 + 1)).trans (hc k 1 hlt (by omega))
      have p0 := hB.free (k * 2)
      have p1 := hB.free (k * 2 + 1)
      rw [IS k (Nat.le_refl _)] at q0 q1
      obtain ⟨n1, n2, n3, n4, n5, n6⟩ := (HN.out k hlt).carry C.bel
      simp only [encH, List.getElem?_cons_zero, List.getElem?_cons_succ] at q0 q1
      rw [n1] at q0 n3
      rw [n2] at q1 n4
      have l1 := (f4 k).1
      have l2 := (f4 k).2
      obtain ⟨N, hN⟩ : ∃ N, N = j.notes.getD k zeroN := ⟨_, rfl⟩
      rw [← hN] at l1 l2 n3 n4 n5 n6 q0 q1
      have HNN := Lib.hid hN
      clear hN
      have CE := Lib.hid fun x (hx : Old wr x) => And.intro ((hB.old hx).cell (k * 2) |>.trans ((hB.cell (k * 2)).symm.trans q0)) ((hB.old hx).cell (k * 2 + 1) |>.trans ((hB.cell (k * 2 + 1)).symm.trans q1))
      have M1 := Lib.hid fun x (hx : Old wr x) => clone_Z (hs0 k).la (hs0 k).lc N.l x (by omega) ((n5.els (Nat.le_refl _)).carry hx)
      have M2 := Lib.hid fun x (hx : Old wr x) => clone_P (hs0 k).pa (hs0 k).pc N.p x (by omega) ((n6.els (Nat.le_refl _)).carry hx)
      have HW := Lib.hid (And.intro C (And.intro I1 (And.intro I3 (And.intro IN (And.intro hB (And.intro hc (And.intro IS (And.intro n5.ins n6.ins))))))))
      clear C I1 I3 I2 IN HI hB hc IS n5 n6 n1 n2
      go_wp2_with fail
      (refine wp_region_planY 15 [(0, 0), (1, 0), (2, 0), (3, 0), (4, 0), (5, 1), (7, 0), (8, 0), (9, 0), (10, 1), (6, 2), (11, 2), (12, 0), (13, 0), (14, 3)] (by kernel_rfl) (by kernel_rfl) ?_; simp only [pickY, List.getElem?_cons_succ, List.getElem?_cons_zero, List.drop_succ_cons, List.drop_zero])
      repeat (apply TextY.pure (hw := by kernel_rfl); (focus (intro x K hK; go_simp; exact hK)); simp only [Act.put, List.getElem_toArray, List.getElem_cons_succ, List.getElem_cons_zero, List.setIfInBounds_toArray, List.set_cons_zero, List.set_cons_succ])
      repeat (apply TextY.sees (hw := by kernel_rfl); (focus (intro x hx K hK; have hc := CE.out x hx; go_simp; exact hK)); simp only [Act.put, List.getElem_toArray, List.getElem_cons_succ, List.getElem_cons_zero, List.setIfInBounds_toArray, List.set_cons_zero, List.set_cons_succ])
      repeat (apply TextY.pure (hw := by kernel_rfl); (focus (intro x K hK; go_simp; exact hK)); simp only [Act.put, List.getElem_toArray, List.getElem_cons_succ, List.getElem_cons_zero, List.setIfInBounds_toArray, List.set_cons_zero, List.set_cons_succ])
      repeat (apply TextY.sees (hw := by kernel_rfl); (focus (intro x hx K hK; have hc := CE.out x hx; go_simp; exact hK)); simp only [Act.put, List.getElem_toArray, List.getElem_cons_succ, List.getElem_cons_zero, List.setIfInBounds_toArray, List.set_cons_zero, List.set_cons_succ])
      (refine TextY.loud (V := fun v y => Cloned 22 1 encZ wr.heap.size N.l.length (fun i => N.l.getD i 0) v y) (fun x hx => (M1.out x hx).mono fun e y h => by obtain ⟨v, r1, ⟨a, cap, r2, r3, r4, r5⟩, r6⟩ := h; exact ⟨v, r1, ⟨a, cap, r2, r3, r4, r5.mono hx.size⟩, r6⟩) (by kernel_rfl) (fun _ => by kernel_rfl) (fun v1 y1 hv1 hy1 => ?_); simp only [Act.put, List.getElem_toArray, List.getElem_cons_succ, List.getElem_cons_zero, List.setIfInBounds_toArray, List.set_cons_zero, List.set_cons_succ])
      (refine TextY.loud (V := fun v y => Cloned 3 1 encZ wr.heap.size N.p.length (fun i => N.p.getD i 0) v y) (fun x hx => (M2.out x (hy1.old hx)).mono fun e y h => by obtain ⟨v, r1, ⟨a, cap, r2, r3, r4, r5⟩, r6⟩ := h; exact ⟨v, r1, ⟨a, cap, r2, r3, r4, r5.mono (hy1.old hx).size⟩, r6⟩) (by kernel_rfl) (fun _ => by kernel_rfl) (fun v2 y2 hv2 hy2 => ?_); simp only [Act.put, List.getElem_toArray, List.getElem_cons_succ, List.getElem_cons_zero, List.setIfInBounds_toArray, List.set_cons_zero, List.set_cons_succ])
      repeat (apply TextY.pure (hw := by kernel_rfl); (focus (intro x K hK; go_simp; exact hK)); simp only [Act.put, List.getElem_toArray, List.getElem_cons_succ, List.getElem_cons_zero, List.setIfInBounds_toArray, List.set_cons_zero, List.set_cons_succ])
      obtain ⟨a4, c4, rfl, h41, h42, o4⟩ := hv1
      obtain ⟨a5, c5, rfl, h51, h52, o5⟩ := hv2
      have CW := Lib.hid fun x (hx : Old y2 x) => And.intro (CE.out x ((hy1.old hy2).old hx)).1 (And.intro (Blk.free (HW.out.2.2.2.2.1.old ((hy1.old hy2).old hx)) (k * 2)) (Blk.free (HW.out.2.2.2.2.1.old ((hy1.old hy2).old hx)) (k * 2 + 1)))
      (apply TextY.store (fun x y => y = x.setCell ⟨g, k * 2, none⟩ (.slice a4 N.l.length c4)) (hw := by kernel_rfl); (focus (intro x hx K hK; have hc := CW.out x hx; go_simp; exact hK _ rfl)); simp only [Act.put, List.getElem_toArray, List.getElem_cons_succ, List.getElem_cons_zero, List.setIfInBounds_toArray, List.set_cons_zero, List.set_cons_succ])
      intro x y hx hy z hz
      subst hy
      have hxx := hx
      replace hx := (hy1.old hy2).old hx
      have B1 := HW.out.2.2.2.2.1.old hx
      have S1 := Sole.set (g := g) x (k * 2) (.slice a4 N.l.length c4)
      have B2 := (B1.set (k * 2) (.slice a4 N.l.length c4)).old hz
      have S2 := Sole.set (g := g) z (k * 2 + 1) (.slice a5 N.p.length c5)
      have B3 := B2.set (k * 2 + 1) (.slice a5 N.p.length c5)
      have fz := B2.free (k * 2 + 1)
      have cz := (B2.cell (k * 2 + 1)).trans ((set_out (by omega)).trans (((HW.out.2.2.2.2.1.cell (k * 2 + 1)).symm).trans q1))
      have HX := Lib.hid (And.intro hx (And.intro hz (And.intro B1 (And.intro S1 (And.intro B2 (And.intro S2 B3))))))
      have HO := Lib.hid (And.intro (o4.old (hy2.old hxx)) (o5.old hxx))
      clear hx hz B1 S1 B2 S2 B3 o4 o5
      go_wp2
      go_roundw
      case rel =>
        refine ⟨k + 1, by omega, by go_num, Lib.hid ?_⟩
        obtain ⟨C, I1, I3, IN, hB, hc, IS, n5, n6⟩ := HW.out
        obtain ⟨hx, hz, B1, S1, B2, S2, B3⟩ := HX.out
        obtain ⟨o4, o5⟩ := HO.out
        have n37 : ∀ {T : TypeId}, (37 : TypeId) ≠ T → (37 : TypeId) ≠ T := fun h => h
        have K39 : (37 : TypeId) ≠ 39 := by decide
        have K41 : (37 : TypeId) ≠ 41 := by decide
        have K22 : (37 : TypeId) ≠ 22 := by decide
        have K3 : (37 : TypeId) ≠ 3 := by decide
        have eN := HNN.out
        refine ⟨(((C.old hx).sole S1 hg).old hz).sole S2 hg, (((I1.old hx).kind S1 B1 K39).old hz).kind S2 B2 K39, (((I3.old hx).kind S1 B1 K41).old hz).kind S2 B2 K41, fun i => if i = k then ⟨a4, N.l.length, c4, a5, N.p.length, c5⟩ else hs i, ?_, ?_, fun i hi => ?_⟩
        · rw [e3]
          refine .inr ⟨g, _, rfl, hg, B3, turned (F := hs) hlt encH_len hc (fun m hm => ?_) fun i hi => ?_⟩
          · rw [set_out (by omega), set_out (by omega)]
          · rcases (show i = 0 ∨ i = 1 by omega) with rfl | rfl
            · rw [set_out (by omega), Nat.add_zero]
              exact set_in ((hB.cell (k * 2)).symm.trans q0)
            · exact set_in ((set_out (by omega)).trans ((hB.cell (k * 2 + 1)).symm.trans q1))
        · have hsz := C.size
          have hsx := hx.size
          refine NotesOwn.snoc (w := wr) IN (fun i hi => (((IN.each i hi).old hx).kind S1 B1 K22 K3 |>.old hz).kind S2 B2 K22 K3) ?_ hsz
          rw [← eN]
          exact ⟨rfl, rfl, ⟨h41, h42⟩, ⟨h51, h52⟩, ((o4.kind S1 B1 K22).old hz).kind S2 B2 K22, n5, ((o5.kind S1 B1 K3).old hz).kind S2 B2 K3, n6⟩
        · simp only [if_neg (show ¬ i = k by omega)]
          exact IS i (by omega)
      case measure => simp [intOf]; omega
    · obtain rfl : k = j.notes.length := by omega
      obtain ⟨C, I1, I3, hs, I2, IN, IS⟩ := HI.out
      have HR := Lib.hid (And.intro I1 (And.intro I3 (And.intro I2 IN)))
      clear HI I1 I2 I3 IN IS
      go_upto_region 10 with (fail)
      (refine wp_region_plain (Old wr) 1 (Below.refl _ wr) ?_; simp only [List.take_succ_cons, List.take_zero, List.drop_succ_cons, List.drop_zero])
      (refine Text.val (fun x hx => load_job (.tmp 1) rfl rfl (C.job.old hx)) (by kernel_rfl) ?_; simp only [Act.put, List.getElem_toArray, List.getElem_cons_succ, List.getElem_cons_zero, List.setIfInBounds_toArray, List.set_cons_zero, List.set_cons_succ])
      intro x hx
      refine store_job (j := j) (s := s') rfl (.tmp 2) (.tmp 44) rfl rfl (by kernel_rfl) ((C.old hx).room) ?_
      go_wp2
      refine bodyPost_ret (v := .agg (jobC j s')) ?_ rfl ?_
      · exact results_cell_row Try.results17 _ _ _ 29 _ _ _ rfl ((C.old hx).room.row j s') Try.underlying29 rfl info29
      · obtain ⟨I1, I3, I2, IN⟩ := HR.out
        have hz : w.heap.size + 1 < w.heap.size + 2 := by omega
        have hm : w.heap.size ≤ w.heap.size + 2 := by omega
        exact ⟨s', hs, rfl, ⟨((I1.old hx).row hz _).mono hm, ((I2.old hx).row hz _).mono hm, ⟨fun i hi => (((IN.each i hi).old hx).row hz _).mono hm, IN.apart⟩, ((I3.old hx).row hz _).mono hm, by rw [e2]; exact ⟨hc1, hm1⟩, by rw [e4]; exact ⟨hc2, hm2⟩, by rw [e6]; exact ⟨hc3, hm3⟩⟩, below_row (C.old hx).bel (by omega) _⟩
end Go.Proofs.Ytllpimhjpfkgpaa
