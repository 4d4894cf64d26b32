/- slices.Clone; clone of package grid. clone of package grid. Snap of package grid. -/
import Derived.Test.YtjfjekncmejfpaaJPut
import Derived.Test.YtjfjekncmejfpaaDetY
namespace Go.Proofs.Ytjfjekncmejfpaa
open Go.RowKit
set_option maxRecDepth 20000
set_option linter.unusedVariables false
set_option linter.unusedSimpArgs false

def zeroH : H2 := ⟨none, 0, 0, none, 0, 0⟩
/-- What Clone hands back. -/
def Cloned {α : Type} (e : TypeId) (sz : Nat) (enc : α → List Value) (B n : Nat) (F : Nat → α) (v : Value) (w : World) : Prop := ∃ a cap, v = .slice a n cap ∧ n ≤ cap ∧ cap ≤ maxLen ∧ OwnE e sz enc B w a n F
theorem none_nil {α : Type} {sz : Nat} {enc : α → List Value} {w : World} {n : Nat} {F : Nat → α} (h : Els sz enc w none n F) (hsz : 0 < sz) : n = 0 := by
  rcases Nat.eq_zero_or_pos n with h0 | h0
  · exact h0
  · obtain ⟨b, off, e, _⟩ := h 0 0 h0 hsz
    cases e
theorem nil_no {t : TypeId} (h : t = 27 ∨ t = 28 ∨ t = 29 ∨ t = 73 ∨ t = 74) (ad : Addr) (n c : Nat) : ∀ w, Sem.run Try.prog (binOp BinOp.eql t (.slice (some ad) n c) (.slice none 0 0)) w = .ok (.bool false) w := by
  rcases h with rfl | rfl | rfl | rfl | rfl <;> exact fun w => by kernel_rfl
theorem nil_yes {t : TypeId} (h : t = 27 ∨ t = 28 ∨ t = 29 ∨ t = 73 ∨ t = 74) (n c : Nat) : ∀ w, Sem.run Try.prog (binOp BinOp.eql t (.slice none n c) (.slice none 0 0)) w = .ok (.bool true) w := by
  rcases h with rfl | rfl | rfl | rfl | rfl <;> exact fun w => by kernel_rfl
theorem own_new (w : World) (e : TypeId) (sz : Nat) : (w.alloc (.cells #[] e)).ownsRow w.heap.size e sz (.slice (some ⟨w.heap.size, 0, none⟩) 0 0) 0 [] :=
  ⟨by simp, .inr ⟨w.heap.size, 0, #[], rfl, Nat.le_refl _, blk_new w #[] e, Nat.le_refl _, by decide, by simp, by simp⟩⟩
theorem infoI7 : (Try.prog.info? 49).map (fun i => (i.zero, i.size, i.bytes)) = some (some (.agg #[.int .i64 0, .int .i64 0, .int .i64 0, .int .i64 0, .int .i64 0, .int .i64 0, .int .i64 0]), 7, 56) := by kernel_rfl
theorem infoH2 : (Try.prog.info? 76).map (fun i => (i.zero, i.size, i.bytes)) = some (some (.agg #[.slice none 0 0, .slice none 0 0]), 2, 48) := by kernel_rfl
theorem infoF3 : (Try.prog.info? 90).map (fun i => (i.zero, i.size, i.bytes)) = some (some (.agg #[.int .i64 0, .int .i64 0, .int .i64 0]), 3, 24) := by kernel_rfl
theorem infoZ22 : (Try.prog.info? 24).map (fun i => (i.zero, i.size, i.bytes)) = some (some (.int .i64 0), 1, 8) := by kernel_rfl
theorem infoZ3 : (Try.prog.info? 3).map (fun i => (i.zero, i.size, i.bytes)) = some (some (.int .i64 0), 1, 8) := by kernel_rfl
end Go.Proofs.Ytjfjekncmejfpaa
namespace Go.Proofs.Ytjfjekncmejfpaa
open Go.RowKit
set_option maxRecDepth 20000
set_option linter.unusedVariables false
set_option linter.unusedSimpArgs false

theorem OwnE.other {α : Type} {e : TypeId} {sz : Nat} {enc : α → List Value} {B : Nat} {w : World} {a : Option Addr} {n : Nat} {F : Nat → α} (h : OwnE e sz enc B w a n F) {b : Nat} (hb : b < B) (i : Nat) (v : Value) : OwnE e sz enc B (w.setCell ⟨b, i, none⟩ v) a n F := by
  rcases h with h | ⟨g, cur, h1, h2, h3, h4⟩
  · exact .inl h
  · exact .inr ⟨g, cur, h1, h2, h3.other (by omega) i v, h4⟩
theorem OwnE.sole {α : Type} {e : TypeId} {sz : Nat} {enc : α → List Value} {B : Nat} {w x : World} {a : Option Addr} {n : Nat} {F : Nat → α} (h : OwnE e sz enc B w a n F) {b : Nat} (hs : Sole b w x) (hb : ∀ g, a = some ⟨g, 0, none⟩ → 0 < n → g ≠ b) : OwnE e sz enc B x a n F := by
  rcases h with h | ⟨g, cur, h1, h2, h3, h4⟩
  · exact .inl h
  · rcases Nat.eq_zero_or_pos n with h0 | h0
    · exact .inl h0
    · exact .inr ⟨g, cur, h1, h2, h3.sole hs (hb g h1 h0), h4⟩
theorem OwnE.kind {α : Type} {e : TypeId} {sz : Nat} {enc : α → List Value} {B : Nat} {w x : World} {a : Option Addr} {n : Nat} {F : Nat → α} (h : OwnE e sz enc B w a n F) {b : Nat} {cs : Array Value} {T : TypeId} (hs : Sole b w x) (hb : Blk w b cs T) (hT : T ≠ e) : OwnE e sz enc B x a n F :=
  h.sole hs fun g ha hn => by
    rcases h with h | ⟨g', cur, h1, h2, h3, h4⟩
    · omega
    · rw [ha] at h1
      cases h1
      rintro rfl
      unfold Blk at h3 hb
      rw [hb] at h3
      simp only [Option.some.injEq, Obj.cells.injEq] at h3
      exact hT h3.2.1
theorem JobAt.other {w : World} {b c : Nat} {j : J4} {s : S3} (H : JobAt w b j s) (hb : b ≠ c) (i : Nat) (v : Value) : JobAt (w.setCell ⟨c, i, none⟩ v) b j s := Blk.other H hb i v
theorem JobAt.set19 {w : World} {b : Nat} {j : J4} {s : S3} (h : JobAt w b j s) (a : Option Addr) (c : Nat) : JobAt (w.setCell ⟨b, 19, none⟩ (.slice a j.items.length c)) b j { s with ia := a, ic := c } := Blk.set h 19 _
theorem JobAt.set20 {w : World} {b : Nat} {j : J4} {s : S3} (h : JobAt w b j s) (a : Option Addr) (c : Nat) : JobAt (w.setCell ⟨b, 20, none⟩ (.slice a j.notes.length c)) b j { s with na := a, nc := c } := Blk.set h 20 _
theorem JobAt.set21 {w : World} {b : Nat} {j : J4} {s : S3} (h : JobAt w b j s) (a : Option Addr) (c : Nat) : JobAt (w.setCell ⟨b, 21, none⟩ (.slice a j.floats.length c)) b j { s with fa := a, fc := c } := Blk.set h 21 _
/-- A list's elements by a function. -/
theorem range_get {α : Type} (F : Nat → α) (d : α) {n k : Nat} (hk : k < n) : ((List.range n).map F).getD k d = F k := by simp [hk]
theorem Els.list {α : Type} {sz : Nat} {enc : α → List Value} {w : World} {a : Option Addr} {n : Nat} {F : Nat → α} (d : α) (h : Els sz enc w a n F) : Els sz enc w a ((List.range n).map F).length fun k => ((List.range n).map F).getD k d := by
  rw [List.length_map, List.length_range]
  exact h.congr fun k hk => (range_get F d hk).symm
theorem Cloned.old {α : Type} {e : TypeId} {sz : Nat} {enc : α → List Value} {B n : Nat} {F : Nat → α} {v : Value} {w x : World} (h : Cloned e sz enc B n F v w) (hx : Old w x) : Cloned e sz enc B n F v x := by
  obtain ⟨a, cap, h1, h2, h3, h4⟩ := h
  exact ⟨a, cap, h1, h2, h3, h4.old hx⟩
/-- A note whose numbers are the call's own. -/
def NoteOwn (B : Nat) (w : World) (h : H2) (n : N2) : Prop := h.ll = n.l.length ∧ h.pl = n.p.length ∧ (h.ll ≤ h.lc ∧ h.lc ≤ maxLen) ∧ (h.pl ≤ h.pc ∧ h.pc ≤ maxLen) ∧ (OwnE 24 1 encZ B w h.la n.l.length fun k => n.l.getD k 0) ∧ (∀ k, inR (n.l.getD k 0)) ∧ (OwnE 3 1 encZ B w h.pa n.p.length fun k => n.p.getD k 0) ∧ ∀ k, inR (n.p.getD k 0)
theorem IRow.els {B : Nat} {w : World} {a : Option Addr} {l : List Int} (h : IRow B w a l) (hB : B ≤ w.heap.size) : Els 1 encZ w a l.length fun k => l.getD k 0 := fun k j hk hj => by
  obtain rfl : j = 0 := by omega
  obtain ⟨_, b, off, e, hb, hc⟩ := h k hk
  exact ⟨b, off, e, by omega, by rw [Nat.mul_one, Nat.add_zero]; exact hc⟩
theorem IRow.ins {B : Nat} {w : World} {a : Option Addr} {l : List Int} (h : IRow B w a l) : ∀ k, inR (l.getD k 0) := fun k => by
  rcases Nat.lt_or_ge k l.length with hk | hk
  · exact (h k hk).1
  · rw [List.getD_eq_getElem?_getD, List.getElem?_eq_none hk]
    simp [inR]
theorem Els.irow {w : World} {a : Option Addr} {l : List Int} (h : Els 1 encZ w a l.length fun k => l.getD k 0) (hi : ∀ k, inR (l.getD k 0)) : IRow w.heap.size w a l := fun k hk => by
  obtain ⟨b, off, e, hb, hc⟩ := h k 0 hk (by omega)
  rw [Nat.mul_one, Nat.add_zero] at hc
  exact ⟨hi k, b, off, e, hb, hc⟩
theorem NoteOwn.ok {B : Nat} {w : World} {h : H2} {n : N2} (H : NoteOwn B w h n) : NoteOk w h n := by
  obtain ⟨h1, h2, h3, h4, h5, h6, h7, h8⟩ := H
  exact ⟨h1, h2, h3, h4, h5.els.irow h6, h7.els.irow h8⟩
theorem NoteOwn.old {B : Nat} {w x : World} {h : H2} {n : N2} (H : NoteOwn B w h n) (hx : Old w x) : NoteOwn B x h n := by
  obtain ⟨h1, h2, h3, h4, h5, h6, h7, h8⟩ := H
  exact ⟨h1, h2, h3, h4, h5.old hx, h6, h7.old hx, h8⟩
/-- The notes of a clone: the first k have numbers of their own. -/
structure NotesOwn (B : Nat) (w : World) (k : Nat) (hs : Nat → H2) (l : List N2) : Prop where
  each : ∀ i, i < k → NoteOwn B w (hs i) (l.getD i zeroN)
  apart : ∀ i i', i < i' → i' < k → (l.getD i zeroN).l ≠ [] → (l.getD i' zeroN).l ≠ [] → (hs i).la ≠ (hs i').la
/-- A job that is the call's own. -/
structure OwnJ (B : Nat) (w : World) (j : J4) (s : S3) (k : Nat) (hs : Nat → H2) : Prop where
  items : OwnE 49 7 encI B w s.ia j.items.length fun k => j.items.getD k zeroI
  heads : OwnE 76 2 encH B w s.na j.notes.length hs
  notes : NotesOwn B w k hs j.notes
  floats : OwnE 90 3 encF B w s.fa j.floats.length fun k => j.floats.getD k zeroF
  ic : j.items.length ≤ s.ic ∧ s.ic ≤ maxLen
  nc : j.notes.length ≤ s.nc ∧ s.nc ≤ maxLen
  fc : j.floats.length ≤ s.fc ∧ s.fc ≤ maxLen
theorem NoteOwn.kind {B : Nat} {w x : World} {h : H2} {n : N2} (H : NoteOwn B w h n) {b : Nat} {cs : Array Value} {T : TypeId} (hs : Sole b w x) (hb : Blk w b cs T) (h22 : T ≠ 24) (h3 : T ≠ 3) : NoteOwn B x h n := by
  obtain ⟨h1, h2, h3', h4, h5, h6, h7, h8⟩ := H
  exact ⟨h1, h2, h3', h4, h5.kind hs hb h22, h6, h7.kind hs hb h3, h8⟩
theorem OwnE.lt {α : Type} {e : TypeId} {sz : Nat} {enc : α → List Value} {B : Nat} {w : World} {a : Option Addr} {n : Nat} {F : Nat → α} (h : OwnE e sz enc B w a n F) (hn : 0 < n) : ∃ g, a = some ⟨g, 0, none⟩ ∧ B ≤ g ∧ g < w.heap.size := by
  rcases h with h | ⟨g, cur, h1, h2, h3, h4⟩
  · omega
  · exact ⟨g, h1, h2, h3.lt⟩
/-- One more note has numbers of its own. -/
theorem NotesOwn.snoc {B k : Nat} {w x : World} {hs : Nat → H2} {l : List N2} {h : H2} (H : NotesOwn B w k hs l) (hall : ∀ i, i < k → NoteOwn B x (hs i) (l.getD i zeroN)) (hn : NoteOwn w.heap.size x h (l.getD k zeroN)) (hB : B ≤ w.heap.size) : NotesOwn B x (k + 1) (fun i => if i = k then h else hs i) l := by
  refine ⟨fun i hi => ?_, fun i i' hi hi' h1 h2 => ?_⟩
  · by_cases e : i = k
    · subst e
      obtain ⟨q1, q2, q3, q4, q5, q6, q7, q8⟩ := hn
      simp only [if_true]
      exact ⟨q1, q2, q3, q4, q5.mono hB, q6, q7.mono hB, q8⟩
    · simp only [if_neg e]
      exact hall i (by omega)
  · by_cases e : i' = k
    · subst e
      simp only [if_neg (show ¬ i = i' by omega), if_true]
      obtain ⟨_, _, _, _, q5, _⟩ := H.each i hi
      obtain ⟨_, _, _, _, q5', _⟩ := hn
      obtain ⟨g, e1, _, e2⟩ := q5.lt (List.length_pos_iff.2 h1)
      obtain ⟨g', e3, e4, _⟩ := q5'.lt (List.length_pos_iff.2 h2)
      rw [e1, e3]
      intro hh
      cases hh
      omega
    · simp only [if_neg e, if_neg (show ¬ i = k by omega)]
      exact H.apart i i' hi (by omega) h1 h2
theorem OwnE.row {α : Type} {e : TypeId} {sz : Nat} {enc : α → List Value} {B : Nat} {w : World} {a : Option Addr} {n : Nat} {F : Nat → α} (h : OwnE e sz enc B w a n F) {b : Nat} (hb : b < B) (cs : Array Value) : OwnE e sz enc B (w.setRow b cs) a n F := by
  rcases h with h | ⟨g, cur, h1, h2, h3, h4⟩
  · exact .inl h
  · exact .inr ⟨g, cur, h1, h2, h3.row_other (by omega) cs, h4⟩
theorem NoteOwn.row {B : Nat} {w : World} {h : H2} {n : N2} (H : NoteOwn B w h n) {b : Nat} (hb : b < B) (cs : Array Value) : NoteOwn B (w.setRow b cs) h n := by
  obtain ⟨h1, h2, h3', h4, h5, h6, h7, h8⟩ := H
  exact ⟨h1, h2, h3', h4, h5.row hb cs, h6, h7.row hb cs, h8⟩
theorem NoteOwn.mono {B B' : Nat} {w : World} {h : H2} {n : N2} (H : NoteOwn B w h n) (hB : B' ≤ B) : NoteOwn B' w h n := by
  obtain ⟨h1, h2, h3', h4, h5, h6, h7, h8⟩ := H
  exact ⟨h1, h2, h3', h4, h5.mono hB, h6, h7.mono hB, h8⟩
/-- What stands while clone goes on: the copy of the job, and room for what it hands back. -/
structure ClS (w V : World) (j : J4) (s : S3) : Prop where
  job : JobAt V w.heap.size j s
  room : JobAt V (w.heap.size + 1) zeroJ zeroS4
  bel : Below w.heap.size w V
  size : w.heap.size + 2 ≤ V.heap.size
theorem ClS.old {w V x : World} {j : J4} {s : S3} (h : ClS w V j s) (hx : Old V x) : ClS w x j s :=
  ⟨h.job.old hx, h.room.old hx, tstep h.bel hx h.bel.size, Nat.le_trans h.size hx.size⟩
theorem ClS.set19 {w V : World} {j : J4} {s : S3} (h : ClS w V j s) (a : Option Addr) (c : Nat) : ClS w (V.setCell ⟨w.heap.size, 19, none⟩ (.slice a j.items.length c)) j { s with ia := a, ic := c } :=
  ⟨h.job.set19 a c, h.room.other (by omega) _ _, h.bel.setCell (p := ⟨w.heap.size, 19, none⟩) (Nat.le_refl _) _, by simpa using h.size⟩
theorem ClS.set20 {w V : World} {j : J4} {s : S3} (h : ClS w V j s) (a : Option Addr) (c : Nat) : ClS w (V.setCell ⟨w.heap.size, 20, none⟩ (.slice a j.notes.length c)) j { s with na := a, nc := c } :=
  ⟨h.job.set20 a c, h.room.other (by omega) _ _, h.bel.setCell (p := ⟨w.heap.size, 20, none⟩) (Nat.le_refl _) _, by simpa using h.size⟩
theorem ClS.set21 {w V : World} {j : J4} {s : S3} (h : ClS w V j s) (a : Option Addr) (c : Nat) : ClS w (V.setCell ⟨w.heap.size, 21, none⟩ (.slice a j.floats.length c)) j { s with fa := a, fc := c } :=
  ⟨h.job.set21 a c, h.room.other (by omega) _ _, h.bel.setCell (p := ⟨w.heap.size, 21, none⟩) (Nat.le_refl _) _, by simpa using h.size⟩
theorem ClS.sole {w V x : World} {j : J4} {s : S3} (h : ClS w V j s) {g : Nat} (hx : Sole g V x) (hg : w.heap.size + 2 ≤ g) : ClS w x j s :=
  ⟨Blk.sole h.job hx (by omega), Blk.sole h.room hx (by omega), Sole.below h.bel hx (by omega), by rw [hx.size]; exact h.size⟩
/-- What stands in the loop over the notes. -/
def ClI (w wr : World) (j : J4) (s : S3) (hs0 : Nat → H2) (k : Nat) : Prop :=
  ClS w wr j s ∧ (OwnE 49 7 encI (w.heap.size + 2) wr s.ia j.items.length fun k => j.items.getD k zeroI) ∧ (OwnE 90 3 encF (w.heap.size + 2) wr s.fa j.floats.length fun k => j.floats.getD k zeroF) ∧
    ∃ hs, OwnE 76 2 encH (w.heap.size + 2) wr s.na j.notes.length hs ∧ NotesOwn (w.heap.size + 2) wr k hs j.notes ∧ ∀ i, k ≤ i → hs i = hs0 i
end Go.Proofs.Ytjfjekncmejfpaa
namespace Go.Proofs.Ytjfjekncmejfpaa
open Go.RowKit
set_option maxRecDepth 20000
set_option linter.unusedVariables false
set_option linter.unusedSimpArgs false

/-- A call in a plain statement whose answer hangs on the world. -/
theorem wpl_call {P : Program} {ops : Array Oper} {rest : List Oper} {o : Oper} {a : Act} {w : World} {Q : Exit → Act → World → Prop} {F : Nat} {args : Array Value} {V : Value → World → Prop} (hgd : o.guard = none)
    (he : (execOp a.eval o).run P w = .ok (.enter F args) w) (c : Calls P F args w fun e y => ∃ v, e = .returned v ∧ V v y) (h : ∀ v y, V v y → wpList P ops Q rest (a.put o.dst v) y) : wpList P ops Q (o :: rest) a w :=
  wpList_plain hgd fun K hK => by
    unfold Oper.wp
    rw [he]
    exact Calls.mono c fun e y hy => by obtain ⟨v, rfl, hy⟩ := hy; exact hK _ _ (h v y hy)
theorem wpl_load_job {ops : Array Oper} {rest : List Oper} {o : Oper} {a : Act} {w : World} {Q : Exit → Act → World → Prop} {j : J4} {s : S3} {b : Nat} (hgd : o.guard = none) (x : Operand) (ho : o.op = .load 31 x) (hx : a.eval x = .pointer (some ⟨b, 0, none⟩)) (h : JobAt w b j s)
    (hk : wpList Try.prog ops Q rest (a.put o.dst (.agg (jobC j s))) w) : wpList Try.prog ops Q (o :: rest) a w :=
  wpList_plain hgd fun K hK => by
    unfold Oper.wp
    rw [load_job x ho hx h]
    exact hK _ _ hk
theorem JobAt.high {w : World} {b : Nat} {j : J4} {s : S3} (h : JobAt w b j s) (v : Int) : JobAt (w.setCell ⟨b, 3, none⟩ (.int .i64 v)) b { j with g := { j.g with high := v } } s := Blk.set h 3 _
theorem JobAt.first {w : World} {b : Nat} {j : J4} {s : S3} (h : JobAt w b j s) (v : Int) : JobAt (w.setCell ⟨b, 4, none⟩ (.int .i64 v)) b { j with g := { j.g with first := v } } s := Blk.set h 4 _
theorem JobAt.rule {w : World} {b : Nat} {j : J4} {s : S3} (h : JobAt w b j s) (v : Int) : JobAt (w.setCell ⟨b, 6, none⟩ (.int .i64 v)) b { j with g := { j.g with rule := v } } s := Blk.set h 6 _
theorem JobAt.sep {w : World} {b : Nat} {j : J4} {s : S3} (h : JobAt w b j s) (v : Int) : JobAt (w.setCell ⟨b, 7, none⟩ (.int .i64 v)) b { j with g := { j.g with sep := v } } s := Blk.set h 7 _
theorem ClS.row {w V : World} {j j' : J4} {s s' : S3} (h : ClS w V j s) : ClS w (V.setRow w.heap.size (jobC j' s')) j' s' :=
  ⟨h.job.row j' s', h.room.row_other (by omega) _, below_row h.bel (Nat.le_refl _) _, by simpa using h.size⟩
theorem ClS.geo {w V x : World} {j j' : J4} {s : S3} (h : ClS w V j s) (hs : Sole w.heap.size V x) (hj : JobAt x w.heap.size j' s) : ClS w x j' s :=
  ⟨hj, Blk.sole h.room hs (by omega), Sole.below h.bel hs (Nat.le_refl _), by rw [hs.size]; exact h.size⟩
theorem NotesOwn.mono {B B' : Nat} {w : World} {k : Nat} {hs : Nat → H2} {l : List N2} (h : NotesOwn B w k hs l) (hB : B' ≤ B) : NotesOwn B' w k hs l := ⟨fun i hi => (h.each i hi).mono hB, h.apart⟩
theorem OwnJ.mono {B B' : Nat} {w : World} {j : J4} {s : S3} {k : Nat} {hs : Nat → H2} (h : OwnJ B w j s k hs) (hB : B' ≤ B) : OwnJ B' w j s k hs :=
  ⟨h.items.mono hB, h.heads.mono hB, h.notes.mono hB, h.floats.mono hB, h.ic, h.nc, h.fc⟩
/-- What stands while Snap goes on: items F, notes G, floats E. -/
def SnI (w wr : World) (j : J4) (s : S3) (hs : Nat → H2) (ni nn nf : Nat) (F : Nat → I7) (G : Nat → N2) (E : Nat → F3) : Prop :=
  ClS w wr j s ∧ OwnE 49 7 encI (w.heap.size + 2) wr s.ia ni F ∧ OwnE 76 2 encH (w.heap.size + 2) wr s.na nn hs ∧ (∀ i, i < nn → NoteOwn (w.heap.size + 2) wr (hs i) (G i)) ∧ OwnE 90 3 encF (w.heap.size + 2) wr s.fa nf E
theorem NoteOwn.low {B : Nat} {w x : World} {h : H2} {n : N2} (H : NoteOwn B w h n) {b : Nat} (hs : Sole b w x) (hb : b < B) : NoteOwn B x h n := by
  obtain ⟨h1, h2, h3', h4, h5, h6, h7, h8⟩ := H
  refine ⟨h1, h2, h3', h4, h5.sole hs ?_, h6, h7.sole hs ?_, h8⟩
  · intro g ha hn
    obtain ⟨g', e, hg, _⟩ := h5.lt hn
    rw [ha] at e; cases e; omega
  · intro g ha hn
    obtain ⟨g', e, hg, _⟩ := h7.lt hn
    rw [ha] at e; cases e; omega
theorem OwnE.low {α : Type} {e : TypeId} {sz : Nat} {enc : α → List Value} {B : Nat} {w x : World} {a : Option Addr} {n : Nat} {F : Nat → α} (h : OwnE e sz enc B w a n F) {b : Nat} (hs : Sole b w x) (hb : b < B) : OwnE e sz enc B x a n F :=
  h.sole hs fun g ha hn => by
    obtain ⟨g', e, hg, _⟩ := h.lt hn
    rw [ha] at e; cases e; omega
theorem mem_getD {α : Type} {l : List α} {d : α} {k : Nat} (hk : k < l.length) : l.getD k d ∈ l := by
  rw [List.getD_eq_getElem?_getD, List.getElem?_eq_getElem hk]
  exact List.getElem_mem hk
theorem map_getD {α β : Type} (f : α → β) (l : List α) (d : α) (d' : β) {k : Nat} (hk : k < l.length) : (l.map f).getD k d' = f (l.getD k d) := by simp [hk]
/-- A block that holds numbers of type T, or none at all. -/
def Kin (w : World) (g : Nat) (T : TypeId) : Prop := (∃ cs, Blk w g cs T) ∨ w.heap.size ≤ g
theorem OwnE.kin {α : Type} {e : TypeId} {sz : Nat} {enc : α → List Value} {B : Nat} {w x : World} {a : Option Addr} {n : Nat} {F : Nat → α} (h : OwnE e sz enc B w a n F) {b : Nat} {T : TypeId} (hs : Sole b w x) (hb : Kin w b T) (hT : T ≠ e) : OwnE e sz enc B x a n F := by
  rcases hb with ⟨cs, hb⟩ | hb
  · exact h.kind hs hb hT
  · exact h.sole hs fun g ha hn => by
      obtain ⟨g', e, _, hg⟩ := h.lt hn
      rw [ha] at e; cases e; omega
theorem NoteOwn.lines {B : Nat} {w x : World} {h : H2} {n : N2} {g : Nat} (H : NoteOwn B w h n) (hs : Sole g w x) (hb : Kin w g 24) (hne : ∀ g', h.la = some ⟨g', 0, none⟩ → 0 < n.l.length → g' ≠ g) : NoteOwn B x h n := by
  obtain ⟨h1, h2, h3', h4, h5, h6, h7, h8⟩ := H
  exact ⟨h1, h2, h3', h4, h5.sole hs hne, h6, h7.kin hs hb (by decide), h8⟩
theorem lines_sole {B : Nat} {w x : World} {a : Option Addr} {L : List Int} {F : Nat → Int} (hO : OwnE 24 1 encZ B w a L.length F) (hB : B ≤ w.heap.size) (hS : ∀ g, a = some ⟨g, 0, none⟩ ∨ L = [] → Sole g w x) :
    ∃ g, Sole g w x ∧ Kin w g 24 ∧ B ≤ g ∧ (a = some ⟨g, 0, none⟩ ∧ L ≠ [] ∨ w.heap.size ≤ g) := by
  rcases hO with h | ⟨g, cur, h1, h2, h3, h4⟩
  · have e : L = [] := List.eq_nil_of_length_eq_zero h
    exact ⟨w.heap.size, hS _ (.inr e), .inr (Nat.le_refl _), hB, .inr (Nat.le_refl _)⟩
  · by_cases e : L = []
    · exact ⟨w.heap.size, hS _ (.inr e), .inr (Nat.le_refl _), hB, .inr (Nat.le_refl _)⟩
    · exact ⟨g, hS g (.inl h1), .inl ⟨cur, h3⟩, h2, .inl ⟨h1, e⟩⟩
/-- The first k are turned. -/
def upto {α : Type} (f : α → α) (F : Nat → α) (k : Nat) : Nat → α := fun m => if m < k then f (F m) else F m
theorem upto_lt {α : Type} {f : α → α} {F : Nat → α} {k m : Nat} (h : m < k) : upto f F k m = f (F m) := if_pos h
theorem upto_ge {α : Type} {f : α → α} {F : Nat → α} {k m : Nat} (h : ¬ m < k) : upto f F k m = F m := if_neg h
theorem upto_zero {α : Type} (f : α → α) (F : Nat → α) : upto f F 0 = F := funext fun m => upto_ge (by omega)
theorem upto_succ {α : Type} (f : α → α) (F : Nat → α) (k : Nat) : (fun m => if m = k then f (F k) else upto f F k m) = upto f F (k + 1) := funext fun m => by
  by_cases h : m = k
  · subst h; rw [if_pos rfl, upto_lt (by omega)]
  · rw [if_neg h]
    by_cases h' : m < k
    · rw [upto_lt h', upto_lt (by omega)]
    · rw [upto_ge h', upto_ge (by omega)]
theorem lists_own {B : Nat} {w : World} {j : J4} {s : S3} {hs : Nat → H2} (I : OwnE 49 7 encI B w s.ia j.items.length fun k => j.items.getD k zeroI) (H : OwnE 76 2 encH B w s.na j.notes.length hs) (N : ∀ i, i < j.notes.length → NoteOwn B w (hs i) (j.notes.getD i zeroN)) (E : OwnE 90 3 encF B w s.fa j.floats.length fun k => j.floats.getD k zeroF)
    (hin : inJ j) (hc : (j.items.length ≤ s.ic ∧ s.ic ≤ maxLen) ∧ (j.notes.length ≤ s.nc ∧ s.nc ≤ maxLen) ∧ (j.floats.length ≤ s.fc ∧ s.fc ≤ maxLen)) : Lists w j s :=
  ⟨hin, I.els, ⟨hs, H.els, fun k hk => (N k hk).ok⟩, E.els, hc.1, hc.2.1, hc.2.2⟩
theorem snapI_in {s : Int} {x : I7} (h : inI x) : inI (snapI s x) := by
  obtain ⟨h0, h1, h2, h3, h4, h5, h6⟩ := h
  have z : inR 0 := by decide
  unfold snapI
  split
  · exact ⟨h0, upZ_in h1, h2, h3, h4, h5, h6⟩
  · split
    · exact ⟨h0, nearZ_in h1, h2, z, z, z, h6⟩
    · exact ⟨h0, h1, h2, h3, h4, h5, h6⟩
theorem snapG_in {g : G19} {s : Int} (h : inE g) : inE (snapG g s) := by
  obtain ⟨h0, h1, h2, h3, h4, h5, h6, h7, h8, h9, h10, h11, h12, h13, h14, h15, h16, h17⟩ := h
  exact ⟨h0, h1, h2, downZ_in h3, downZ_in h4, h5, upZ_in h6, upZ_in h7, h8, h9, h10, h11, h12, h13, h14, h15, h16, h17⟩
theorem zero_in (k : Nat) : inI zeroI ∧ inF zeroF := by
  have z : inR 0 := by decide
  exact ⟨⟨z, z, z, z, z, z, z⟩, ⟨z, z, z⟩⟩
theorem getD_none {α : Type} {l : List α} {d : α} {k : Nat} (hk : l.length ≤ k) : l.getD k d = d := by
  rw [List.getD_eq_getElem?_getD, List.getElem?_eq_none hk]; rfl
theorem inJ_snap {j : J4} (h : inJ j) : inJ (snapJ j) := by
  obtain ⟨hg, hi, hf⟩ := h
  unfold snapJ
  split
  · exact ⟨hg, hi, hf⟩
  · refine ⟨snapG_in hg, fun k => ?_, fun k => ?_⟩
    · rcases Nat.lt_or_ge k j.items.length with hk | hk
      · rw [map_getD _ _ zeroI _ hk]; exact snapI_in (hi k)
      · rw [getD_none (by simpa using hk)]; exact (zero_in 0).1
    · rcases Nat.lt_or_ge k j.floats.length with hk | hk
      · rw [map_getD _ _ zeroF _ hk]; exact ⟨(hf k).1, upZ_in (hf k).2.1, (hf k).2.2⟩
      · rw [getD_none (by simpa using hk)]; exact (zero_in 0).2
end Go.Proofs.Ytjfjekncmejfpaa
