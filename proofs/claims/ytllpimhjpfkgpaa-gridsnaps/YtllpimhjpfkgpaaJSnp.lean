/- Snap of package grid. -/
import Derived.Test.YtllpimhjpfkgpaaJCl2
namespace Go.Proofs.Ytllpimhjpfkgpaa
open Go.RowKit
set_option maxRecDepth 20000
set_option linter.unusedVariables false
set_option linter.unusedSimpArgs false

/-- A call in a plain statement whose answer hangs on the world. -/
theorem wpl_call {P : Program} {ops : Array Oper} {rest : List Oper} {o : Oper} {a : Act} {w : World} {Q : Exit → Act → World → Prop} {F : Nat} {args : Array Value} {V : Value → World → Prop} (hgd : o.guard = none)
    (he : (execOp a.eval o).run P w = .ok (.enter F args) w) (c : Calls P F args w fun e y => ∃ v, e = .returned v ∧ V v y) (h : ∀ v y, V v y → wpList P ops Q rest (a.put o.dst v) y) : wpList P ops Q (o :: rest) a w :=
  wpList_plain hgd fun K hK => by
    unfold Oper.wp
    rw [he]
    exact Calls.mono c fun e y hy => by obtain ⟨v, rfl, hy⟩ := hy; exact hK _ _ (h v y hy)
theorem wpl_load_job {ops : Array Oper} {rest : List Oper} {o : Oper} {a : Act} {w : World} {Q : Exit → Act → World → Prop} {j : J4} {s : S3} {b : Nat} (hgd : o.guard = none) (x : Operand) (ho : o.op = .load 29 x) (hx : a.eval x = .pointer (some ⟨b, 0, none⟩)) (h : JobAt w b j s)
    (hk : wpList Try.prog ops Q rest (a.put o.dst (.agg (jobC j s))) w) : wpList Try.prog ops Q (o :: rest) a w :=
  wpList_plain hgd fun K hK => by
    unfold Oper.wp
    rw [load_job x ho hx h]
    exact hK _ _ hk
theorem JobAt.high {w : World} {b : Nat} {j : J4} {s : S3} (h : JobAt w b j s) (v : Int) : JobAt (w.setCell ⟨b, 3, none⟩ (.int .i64 v)) b { j with g := { j.g with high := v } } s := Blk.set h 3 _
theorem JobAt.first {w : World} {b : Nat} {j : J4} {s : S3} (h : JobAt w b j s) (v : Int) : JobAt (w.setCell ⟨b, 4, none⟩ (.int .i64 v)) b { j with g := { j.g with first := v } } s := Blk.set h 4 _
theorem JobAt.rule {w : World} {b : Nat} {j : J4} {s : S3} (h : JobAt w b j s) (v : Int) : JobAt (w.setCell ⟨b, 6, none⟩ (.int .i64 v)) b { j with g := { j.g with rule := v } } s := Blk.set h 6 _
theorem JobAt.sep {w : World} {b : Nat} {j : J4} {s : S3} (h : JobAt w b j s) (v : Int) : JobAt (w.setCell ⟨b, 7, none⟩ (.int .i64 v)) b { j with g := { j.g with sep := v } } s := Blk.set h 7 _
theorem snapGeom_any (b : Nat) (j : J4) (s : S3) (t : Int) (w : World) (hj : inE j.g) (ht : inR t) (D : JobAt w b j s) :
    Calls Try.prog 18 #[.pointer (some ⟨b, 0, none⟩), .int .i64 t] w fun e w' => e = .returned (.tuple #[]) ∧ Sole b w w' ∧ JobAt w' b { j with g := snapG j.g t } s := by
  obtain ⟨g, is, ns, fs⟩ := j
  obtain ⟨_, _, _, i3, i4, _, i6, i7, _⟩ := hj
  have c1 := lower_any b 3 g.high t w i3 ht D.geo.2.2.2.1 (Blk.free D 3)
  have D1 := D.high (downZ g.high t)
  have c2 := lower_any b 4 g.first t _ i4 ht D1.geo.2.2.2.2.1 (Blk.free D1 4)
  have D2 := D1.first (downZ g.first t)
  have c3 := raise_any b 6 g.rule t _ i6 ht D2.geo.2.2.2.2.2.2.1 (Blk.free D2 6)
  have D3 := D2.rule (upZ g.rule t)
  have c4 := raise_any b 7 g.sep t _ i7 ht D3.geo.2.2.2.2.2.2.2.1 (Blk.free D3 7)
  have D4 := D3.sep (upZ g.sep t)
  have HD := Lib.hid D4
  have S := (((Sole.set (g := b) w 3 (.int .i64 (downZ g.high t))).trans (Sole.set _ 4 (.int .i64 (downZ g.first t)))).trans (Sole.set _ 6 (.int .i64 (upZ g.rule t)))).trans (Sole.set _ 7 (.int .i64 (upZ g.sep t)))
  clear D D1 D2 D3 D4
  dsimp only at c1 c2 c3 c4 HD
  go_enter Try.func18, Try.ntmps18
  go_wp2_with fail
  refine c1.mono ?_
  rintro e w1 ⟨rfl, rfl⟩
  clear c1
  go_wp2_with fail
  refine c2.mono ?_
  rintro e w1 ⟨rfl, rfl⟩
  clear c2
  go_wp2_with fail
  refine c3.mono ?_
  rintro e w1 ⟨rfl, rfl⟩
  clear c3
  go_wp2_with fail
  refine c4.mono ?_
  rintro e w1 ⟨rfl, rfl⟩
  clear c4
  go_wp2
  go_end0
  exact ⟨rfl, S, HD.out⟩
theorem ClS.row {w V : World} {j j' : J4} {s s' : S3} (h : ClS w V j s) : ClS w (V.setRow w.heap.size (jobC j' s')) j' s' :=
  ⟨h.job.row j' s', h.room.row_other (by omega) _, below_row h.bel (Nat.le_refl _) _, by simpa using h.size⟩
theorem ClS.geo {w V x : World} {j j' : J4} {s : S3} (h : ClS w V j s) (hs : Sole w.heap.size V x) (hj : JobAt x w.heap.size j' s) : ClS w x j' s :=
  ⟨hj, Blk.sole h.room hs (by omega), Sole.below h.bel hs (Nat.le_refl _), by rw [hs.size]; exact h.size⟩
theorem NotesOwn.mono {B B' : Nat} {w : World} {k : Nat} {hs : Nat → H2} {l : List N2} (h : NotesOwn B w k hs l) (hB : B' ≤ B) : NotesOwn B' w k hs l := ⟨fun i hi => (h.each i hi).mono hB, h.apart⟩
theorem OwnJ.mono {B B' : Nat} {w : World} {j : J4} {s : S3} {k : Nat} {hs : Nat → H2} (h : OwnJ B w j s k hs) (hB : B' ≤ B) : OwnJ B' w j s k hs :=
  ⟨h.items.mono hB, h.heads.mono hB, h.notes.mono hB, h.floats.mono hB, h.ic, h.nc, h.fc⟩
/-- What stands while Snap goes on: items F, notes G, floats E. -/
def SnI (w wr : World) (j : J4) (s : S3) (hs : Nat → H2) (ni nn nf : Nat) (F : Nat → I7) (G : Nat → N2) (E : Nat → F3) : Prop :=
  ClS w wr j s ∧ OwnE 39 7 encI (w.heap.size + 2) wr s.ia ni F ∧ OwnE 37 2 encH (w.heap.size + 2) wr s.na nn hs ∧ (∀ i, i < nn → NoteOwn (w.heap.size + 2) wr (hs i) (G i)) ∧ OwnE 41 3 encF (w.heap.size + 2) wr s.fa nf E
theorem NoteOwn.low {B : Nat} {w x : World} {h : H2} {n : N2} (H : NoteOwn B w h n) {b : Nat} (hs : Sole b w x) (hb : b < B) : NoteOwn B x h n := by
  obtain ⟨h1, h2, h3', h4, h5, h6, h7, h8⟩ := H
  refine ⟨h1, h2, h3', h4, h5.sole hs ?_, h6, h7.sole hs ?_, h8⟩
  · intro g ha hn
    obtain ⟨g', e, hg, _⟩ := h5.lt hn
    rw [ha] at e; cases e; omega
  · intro g ha hn
    obtain ⟨g', e, hg, _⟩ := h7.lt hn
    rw [ha] at e; cases e; omega
theorem OwnE.low {α : Type} {e : TypeId} {sz : Nat} {enc : α → List Value} {B : Nat} {w x : World} {a : Option Addr} {n : Nat} {F : Nat → α} (h : OwnE e sz enc B w a n F) {b : Nat} (hs : Sole b w x) (hb : b < B) : OwnE e sz enc B x a n F :=
  h.sole hs fun g ha hn => by
    obtain ⟨g', e, hg, _⟩ := h.lt hn
    rw [ha] at e; cases e; omega
theorem mem_getD {α : Type} {l : List α} {d : α} {k : Nat} (hk : k < l.length) : l.getD k d ∈ l := by
  rw [List.getD_eq_getElem?_getD, List.getElem?_eq_getElem hk]
  exact List.getElem_mem hk
theorem map_getD {α β : Type} (f : α → β) (l : List α) (d : α) (d' : β) {k : Nat} (hk : k < l.length) : (l.map f).getD k d' = f (l.getD k d) := by simp [hk]
/-- A block that holds numbers of type T, or none at all. -/
def Kin (w : World) (g : Nat) (T : TypeId) : Prop := (∃ cs, Blk w g cs T) ∨ w.heap.size ≤ g
theorem OwnE.kin {α : Type} {e : TypeId} {sz : Nat} {enc : α → List Value} {B : Nat} {w x : World} {a : Option Addr} {n : Nat} {F : Nat → α} (h : OwnE e sz enc B w a n F) {b : Nat} {T : TypeId} (hs : Sole b w x) (hb : Kin w b T) (hT : T ≠ e) : OwnE e sz enc B x a n F := by
  rcases hb with ⟨cs, hb⟩ | hb
  · exact h.kind hs hb hT
  · exact h.sole hs fun g ha hn => by
      obtain ⟨g', e, _, hg⟩ := h.lt hn
      rw [ha] at e; cases e; omega
theorem NoteOwn.lines {B : Nat} {w x : World} {h : H2} {n : N2} {g : Nat} (H : NoteOwn B w h n) (hs : Sole g w x) (hb : Kin w g 22) (hne : ∀ g', h.la = some ⟨g', 0, none⟩ → 0 < n.l.length → g' ≠ g) : NoteOwn B x h n := by
  obtain ⟨h1, h2, h3', h4, h5, h6, h7, h8⟩ := H
  exact ⟨h1, h2, h3', h4, h5.sole hs hne, h6, h7.kin hs hb (by decide), h8⟩
theorem lines_sole {B : Nat} {w x : World} {a : Option Addr} {L : List Int} {F : Nat → Int} (hO : OwnE 22 1 encZ B w a L.length F) (hB : B ≤ w.heap.size) (hS : ∀ g, a = some ⟨g, 0, none⟩ ∨ L = [] → Sole g w x) :
    ∃ g, Sole g w x ∧ Kin w g 22 ∧ B ≤ g ∧ (a = some ⟨g, 0, none⟩ ∧ L ≠ [] ∨ w.heap.size ≤ g) := by
  rcases hO with h | ⟨g, cur, h1, h2, h3, h4⟩
  · have e : L = [] := List.eq_nil_of_length_eq_zero h
    exact ⟨w.heap.size, hS _ (.inr e), .inr (Nat.le_refl _), hB, .inr (Nat.le_refl _)⟩
  · by_cases e : L = []
    · exact ⟨w.heap.size, hS _ (.inr e), .inr (Nat.le_refl _), hB, .inr (Nat.le_refl _)⟩
    · exact ⟨g, hS g (.inl h1), .inl ⟨cur, h3⟩, h2, .inl ⟨h1, e⟩⟩
/-- The first k are turned. -/
def upto {α : Type} (f : α → α) (F : Nat → α) (k : Nat) : Nat → α := fun m => if m < k then f (F m) else F m
theorem upto_lt {α : Type} {f : α → α} {F : Nat → α} {k m : Nat} (h : m < k) : upto f F k m = f (F m) := if_pos h
theorem upto_ge {α : Type} {f : α → α} {F : Nat → α} {k m : Nat} (h : ¬ m < k) : upto f F k m = F m := if_neg h
theorem upto_zero {α : Type} (f : α → α) (F : Nat → α) : upto f F 0 = F := funext fun m => upto_ge (by omega)
theorem upto_succ {α : Type} (f : α → α) (F : Nat → α) (k : Nat) : (fun m => if m = k then f (F k) else upto f F k m) = upto f F (k + 1) := funext fun m => by
  by_cases h : m = k
  · subst h; rw [if_pos rfl, upto_lt (by omega)]
  · rw [if_neg h]
    by_cases h' : m < k
    · rw [upto_lt h', upto_lt (by omega)]
    · rw [upto_ge h', upto_ge (by omega)]
theorem lists_own {B : Nat} {w : World} {j : J4} {s : S3} {hs : Nat → H2} (I : OwnE 39 7 encI B w s.ia j.items.length fun k => j.items.getD k zeroI) (H : OwnE 37 2 encH B w s.na j.notes.length hs) (N : ∀ i, i < j.notes.length → NoteOwn B w (hs i) (j.notes.getD i zeroN)) (E : OwnE 41 3 encF B w s.fa j.floats.length fun k => j.floats.getD k zeroF)
    (hin : inJ j) (hc : (j.items.length ≤ s.ic ∧ s.ic ≤ maxLen) ∧ (j.notes.length ≤ s.nc ∧ s.nc ≤ maxLen) ∧ (j.floats.length ≤ s.fc ∧ s.fc ≤ maxLen)) : Lists w j s :=
  ⟨hin, I.els, ⟨hs, H.els, fun k hk => (N k hk).ok⟩, E.els, hc.1, hc.2.1, hc.2.2⟩
theorem snapI_in {s : Int} {x : I7} (h : inI x) : inI (snapI s x) := by
  obtain ⟨h0, h1, h2, h3, h4, h5, h6⟩ := h
  have z : inR 0 := by decide
  unfold snapI
  split
  · exact ⟨h0, upZ_in h1, h2, h3, h4, h5, h6⟩
  · split
    · exact ⟨h0, nearZ_in h1, h2, z, z, z, h6⟩
    · exact ⟨h0, h1, h2, h3, h4, h5, h6⟩
theorem snapG_in {g : G19} {s : Int} (h : inE g) : inE (snapG g s) := by
  obtain ⟨h0, h1, h2, h3, h4, h5, h6, h7, h8, h9, h10, h11, h12, h13, h14, h15, h16, h17⟩ := h
  exact ⟨h0, h1, h2, downZ_in h3, downZ_in h4, h5, upZ_in h6, upZ_in h7, h8, h9, h10, h11, h12, h13, h14, h15, h16, h17⟩
theorem zero_in (k : Nat) : inI zeroI ∧ inF zeroF := by
  have z : inR 0 := by decide
  exact ⟨⟨z, z, z, z, z, z, z⟩, ⟨z, z, z⟩⟩
theorem getD_none {α : Type} {l : List α} {d : α} {k : Nat} (hk : l.length ≤ k) : l.getD k d = d := by
  rw [List.getD_eq_getElem?_getD, List.getElem?_eq_none hk]; rfl
theorem inJ_snap {j : J4} (h : inJ j) : inJ (snapJ j) := by
  obtain ⟨hg, hi, hf⟩ := h
  unfold snapJ
  split
  · exact ⟨hg, hi, hf⟩
  · refine ⟨snapG_in hg, fun k => ?_, fun k => ?_⟩
    · rcases Nat.lt_or_ge k j.items.length with hk | hk
      · rw [map_getD _ _ zeroI _ hk]; exact snapI_in (hi k)
      · rw [getD_none (by simpa using hk)]; exact (zero_in 0).1
    · rcases Nat.lt_or_ge k j.floats.length with hk | hk
      · rw [map_getD _ _ zeroF _ hk]; exact ⟨(hf k).1, upZ_in (hf k).2.1, (hf k).2.2⟩
      · rw [getD_none (by simpa using hk)]; exact (zero_in 0).2
set_option maxHeartbeats 4000000 in
theorem snap_any (j : J4) (s : S3) (w : World) (hL : Lists w j s) (hf : Few j) :
    Calls Try.prog 8 #[.agg (jobC j s)] w fun e w' => ∃ s', e = .returned (.agg (jobC (snapJ j) s')) ∧ Lists w' (snapJ j) s' ∧ Below w.heap.size w w' := by
  have hin := Lib.hid hL.ins
  have hfew := Lib.hid hf
  obtain ⟨f1, f2, f3, f4⟩ := hf
  have C : ClS w ((w.alloc (.cells (jobC j s) 29)).alloc (.cells (jobC zeroJ zeroS) 29)) j s :=
    ⟨(job_new w j s).old (tbel1 _ _), blk_two w _ _ _, tbel2 w _ _, by simp⟩
  have HL := Lib.hid hL
  clear hL
  go_enter Try.func8, Try.ntmps8
  go_upto_region 1 with (fail)
  change Code.wp _ _ _ _ ((w.alloc (.cells (jobC j s) 29)).alloc (.cells (jobC zeroJ zeroS) 29))
  generalize (w.alloc _).alloc _ = U at *
  refine wp_region_lit ?_
  refine wpl_load_job rfl (.tmp 1) rfl rfl C.job ?_
  simp only [Act.put, List.getElem_toArray, List.getElem_cons_succ, List.getElem_cons_zero, List.setIfInBounds_toArray, List.set_cons_zero, List.set_cons_succ]
  refine wpl_call (V := fun v y => ∃ s' hs, v = .agg (jobC j s') ∧ OwnJ (w.heap.size + 2) y j s' j.notes.length hs ∧ Below U.heap.size U y) rfl (by kernel_rfl) ((clone_any j s U (HL.out.carry C.bel) hfew.out).mono fun e y h => by obtain ⟨s', hs, r1, r2, r3⟩ := h; exact ⟨_, r1, s', hs, rfl, r2.mono C.size, r3⟩) ?_
  rintro v w1 ⟨s', hs, rfl, O, b1⟩
  simp only [Act.put, List.getElem_toArray, List.getElem_cons_succ, List.getElem_cons_zero, List.setIfInBounds_toArray, List.set_cons_zero, List.set_cons_succ]
  replace C := C.old b1
  refine store_job (j := j) (s := s') rfl (.tmp 1) (.tmp 8) rfl rfl rfl C.job ?_
  have hz : w.heap.size < w.heap.size + 2 := by omega
  have HO : Hid (SnI w (w1.setRow w.heap.size (jobC j s')) j s' hs j.items.length j.notes.length j.floats.length (fun k => j.items.getD k zeroI) (fun k => j.notes.getD k zeroN) (fun k => j.floats.getD k zeroF)) :=
    Lib.hid ⟨C.row, O.items.row hz _, O.heads.row hz _, fun i hi => (O.notes.each i hi).row hz _, O.floats.row hz _⟩
  have HA := Lib.hid O.notes.apart
  have HC := Lib.hid (And.intro O.ic (And.intro O.nc O.fc))
  clear C O b1 HL
  simp only [Act.put, List.getElem_toArray, List.getElem_cons_succ, List.getElem_cons_zero, List.setIfInBounds_toArray, List.set_cons_zero, List.set_cons_succ]
  go_upto_region 2 with (fail)
  generalize w1.setRow _ _ = V at *
  clear w1 U
  have C := HO.out.1
  have q5 := C.job.geo.2.2.2.2.2.1
  clear C
  by_cases hg : j.g.grid < 1
  · have eJ : snapJ j = j := by unfold snapJ; rw [if_pos hg]
    go_upto_region 4 with (fail)
    have C := HO.out.1
    (refine wp_region_plain (Old V) 1 (Below.refl _ V) ?_; simp only [List.take_succ_cons, List.take_zero, List.drop_succ_cons, List.drop_zero])
    (refine Text.val (fun x hx => load_job (.tmp 1) rfl rfl (C.job.old hx)) (by kernel_rfl) ?_; simp only [Act.put, List.getElem_toArray, List.getElem_cons_succ, List.getElem_cons_zero, List.setIfInBounds_toArray, List.set_cons_zero, List.set_cons_succ])
    intro x hx
    refine store_job (j := j) (s := s') rfl (.tmp 2) (.tmp 14) rfl rfl (by kernel_rfl) ((C.old hx).room) ?_
    go_wp2
    refine bodyPost_ret (v := .agg (jobC j s')) ?_ rfl ?_
    · exact results_cell_row Try.results8 _ _ _ 29 _ _ _ rfl ((C.old hx).room.row j s') Try.underlying29 rfl info29
    · obtain ⟨_, I1, I2, IN, I3⟩ := HO.out
      have hz : w.heap.size + 1 < w.heap.size + 2 := by omega
      rw [eJ]
      exact ⟨s', rfl, lists_own ((I1.old hx).row hz _) ((I2.old hx).row hz _) (fun i hi => ((IN i hi).old hx).row hz _) ((I3.old hx).row hz _) hin.out HC.out, below_row (C.old hx).bel (by omega) _⟩
  · have hg' : 1 ≤ j.g.grid := by omega
    have tin : inR j.g.grid := hin.out.1.2.2.2.2.2.1
    have C := HO.out.1
    have cs := snapGeom_any w.heap.size j s' j.g.grid V hin.out.1 tin C.job
    clear C
    have eJ : Hid (snapJ j = ⟨snapG j.g j.g.grid, j.items.map (snapI j.g.grid), j.notes.map (snapN j.g.grid), j.floats.map (snapF j.g.grid)⟩) := Lib.hid (by unfold snapJ; rw [if_neg hg])
    obtain ⟨t, ht⟩ : ∃ t, t = j.g.grid := ⟨_, rfl⟩
    rw [← ht] at cs hg hg' tin q5 eJ
    have HT := Lib.hid ht
    clear ht
    go_upto_region 5 with (fail)
    go_wp2_with fail
    refine cs.mono ?_
    rintro e w1 ⟨rfl, S, J1⟩
    clear cs q5
    have hz : w.heap.size < w.heap.size + 2 := by omega
    replace HO : Hid (SnI w w1 { j with g := snapG j.g t } s' hs j.items.length j.notes.length j.floats.length (fun k => j.items.getD k zeroI) (fun k => j.notes.getD k zeroN) (fun k => j.floats.getD k zeroF)) :=
      Lib.hid ⟨HO.out.1.geo S J1, HO.out.2.1.low S hz, HO.out.2.2.1.low S hz, fun i hi => (HO.out.2.2.2.1 i hi).low S hz, HO.out.2.2.2.2.low S hz⟩
    clear S
    obtain ⟨t19, t20, t21⟩ := J1.three
    clear J1
    go_wp2_with fail
    go_loopw [21] (fun i wr => ∃ k : Nat, k ≤ j.items.length ∧ i = .int .i64 k ∧ Hid (SnI w wr { j with g := snapG j.g t } s' hs j.items.length j.notes.length j.floats.length (upto (snapI t) (fun k => j.items.getD k zeroI) k) (fun k => j.notes.getD k zeroN) (fun k => j.floats.getD k zeroF))) (fun i _ => j.items.length - (intOf i).toNat)
    case atStart => exact ⟨0, Nat.zero_le _, rfl, by rw [upto_zero]; exact HO⟩
    case round =>
      obtain ⟨k, hk, rfl, HI⟩ := hrel
      clear HO t19 t20 t21
      by_cases hlt : k < j.items.length
      · obtain ⟨C, I1, I2, IN, I3⟩ := HI.out
        obtain ⟨t19, t20, t21⟩ := C.job.three
        have HW := Lib.hid (And.intro C (And.intro I2 (And.intro IN I3)))
        obtain ⟨g, cur, hia, hg2, hB, hc⟩ : ∃ g cur, s'.ia = some ⟨g, 0, none⟩ ∧ w.heap.size + 2 ≤ g ∧ Blk wr g cur 39 ∧ ∀ m j', m < j.items.length → j' < 7 → cur[m * 7 + j']? = (encI (upto (snapI t) (fun k => j.items.getD k zeroI) k m))[j']? := by
          rcases I1 with h | ⟨g, cur, h⟩
          · omega
          · exact ⟨g, cur, h⟩
        have c := snapItem_any (j.items.getD k zeroI) t g (k * 7) cur wr (hin.out.2.1 k) tin hB (fun j' hj' => by have := hc k j' hlt hj'; rwa [upto_ge (by omega)] at this)
        have HB := Lib.hid (And.intro hB hc)
        have HIA := Lib.hid hia
        rw [hia] at t19
        dsimp only at t19 t20 t21
        clear C I1 I2 IN I3 HI hB hc hia
        go_wp2_with fail
        refine c.mono ?_
        rintro e w2 ⟨rfl, S, cur', hB', hout, hin'⟩
        clear c t19 t20 t21
        have HN : Hid (SnI w w2 { j with g := snapG j.g t } s' hs j.items.length j.notes.length j.floats.length (upto (snapI t) (fun k => j.items.getD k zeroI) (k + 1)) (fun k => j.notes.getD k zeroN) (fun k => j.floats.getD k zeroF)) := Lib.hid (by
          obtain ⟨C, I2, IN, I3⟩ := HW.out
          obtain ⟨hB, hc⟩ := HB.out
          refine ⟨C.sole S hg2, ?_, I2.kind S hB (by decide), fun i hi => (IN i hi).kind S hB (by decide) (by decide), I3.kind S hB (by decide)⟩
          rw [← upto_succ]
          exact .inr ⟨g, cur', HIA.out, hg2, hB', turned (y := snapI t (j.items.getD k zeroI)) hlt encI_len hc hout hin'⟩)
        clear S hB' hout hin'
        go_wp2
        go_roundw
        case rel => exact ⟨k + 1, by omega, by go_num, HN⟩
        case measure => simp [intOf]; omega
      · obtain rfl : k = j.items.length := by omega
        clear hk hlt
        obtain ⟨t19, t20, t21⟩ := HI.out.1.job.three
        dsimp only at t19 t20 t21
        go_wp2_with fail
        have HO2 : Hid (SnI w wr { j with g := snapG j.g t } s' hs j.items.length j.notes.length j.floats.length (upto (snapI t) (fun k => j.items.getD k zeroI) j.items.length) (upto (snapN t) (fun k => j.notes.getD k zeroN) 0) (fun k => j.floats.getD k zeroF)) := Lib.hid (by rw [upto_zero]; exact HI.out)
        clear HI
        go_loopw [34] (fun i wr => ∃ k : Nat, k ≤ j.notes.length ∧ i = .int .i64 k ∧ Hid (SnI w wr { j with g := snapG j.g t } s' hs j.items.length j.notes.length j.floats.length (upto (snapI t) (fun k => j.items.getD k zeroI) j.items.length) (upto (snapN t) (fun k => j.notes.getD k zeroN) k) (fun k => j.floats.getD k zeroF))) (fun i _ => j.notes.length - (intOf i).toNat)
        case atStart => exact ⟨0, Nat.zero_le _, rfl, HO2⟩
        case round =>
          clear HO2 t19 t20 t21
          obtain ⟨k, hk, rfl, HI⟩ := hrel
          by_cases hlt : k < j.notes.length
          · obtain ⟨C, I1, I2, IN, I3⟩ := HI.out
            obtain ⟨t19, t20, t21⟩ := C.job.three
            obtain ⟨g, cur, hia, hg2, hB, hc⟩ : ∃ g cur, s'.na = some ⟨g, 0, none⟩ ∧ w.heap.size + 2 ≤ g ∧ Blk wr g cur 37 ∧ ∀ m j', m < j.notes.length → j' < 2 → cur[m * 2 + j']? = (encH (hs m))[j']? := by
              rcases I2 with h | ⟨g, cur, h⟩
              · omega
              · exact ⟨g, cur, h⟩
            have q0 := (hB.cell (k * 2)).trans (hc k 0 hlt (by omega))
            simp only [encH, List.getElem?_cons_zero] at q0
            obtain ⟨N, hN⟩ : ∃ N, N = j.notes.getD k zeroN := ⟨_, rfl⟩
            have hNo := IN k hlt
            rw [upto_ge (by omega)] at hNo
            rw [← hN] at hNo
            have l1 := (f4 k).1
            rw [← hN] at l1
            have HNN := Lib.hid hN
            have HNo := Lib.hid hNo
            obtain ⟨n1, n2, n3, n4, n5, n6, n7, n8⟩ := hNo
            rw [n1] at q0
            have c := snapLines_any N.l t (hs k).la (hs k).lc (w.heap.size + 2) wr (by omega) n6 tin n5
            have HW := Lib.hid (And.intro C (And.intro I1 (And.intro I2 (And.intro IN I3))))
            have HIA := Lib.hid hia
            rw [hia] at t20
            dsimp only at t19 t20 t21
            clear C I1 I2 IN I3 HI hB hc hia hN n1 n2 n3 n4 n5 n6 n7 n8
            go_wp2_with fail
            refine c.mono ?_
            rintro e w2 ⟨rfl, hS, hO⟩
            clear c t19 t20 t21 q0
            have HN : Hid (SnI w w2 { j with g := snapG j.g t } s' hs j.items.length j.notes.length j.floats.length (upto (snapI t) (fun k => j.items.getD k zeroI) j.items.length) (upto (snapN t) (fun k => j.notes.getD k zeroN) (k + 1)) (fun k => j.floats.getD k zeroF)) := Lib.hid (by
              obtain ⟨C, I1, I2, IN, I3⟩ := HW.out
              obtain ⟨n1, n2, n3, n4, n5, n6, n7, n8⟩ := HNo.out
              obtain ⟨g', S, K, hgB, hla⟩ := lines_sole n5 C.size hS
              refine ⟨C.sole S hgB, I1.kin S K (by decide), I2.kin S K (by decide), fun i hi => ?_, I3.kin S K (by decide)⟩
              by_cases e : i = k
              · subst e
                rw [upto_lt (by omega), ← HNN.out]
                refine ⟨by rw [n1]; simp [snapN], n2, n3, n4, ?_, fun m => ?_, n7.kin S K (by decide), n8⟩
                · simp only [snapN, List.length_map]
                  exact hO.congr fun m hm => (map_getD (fun x => upZ x t) N.l 0 0 hm).symm
                · rcases Nat.lt_or_ge m N.l.length with h | h
                  · simp only [snapN]; rw [map_getD _ _ 0 _ h]; exact upZ_in (n6 m)
                  · rw [getD_none (by simpa [snapN] using h)]; decide
              · have e1 : upto (snapN t) (fun k => j.notes.getD k zeroN) (k + 1) i = upto (snapN t) (fun k => j.notes.getD k zeroN) k i := by
                  rw [← upto_succ]; simp only [if_neg e]
                rw [e1]
                refine (IN i hi).lines S K fun g2 ha hn => ?_
                rintro rfl
                have hlt2 : g2 < wr.heap.size := by
                  obtain ⟨_, _, _, _, q5, _⟩ := IN i hi
                  obtain ⟨g3, e3, _, h3⟩ := q5.lt hn
                  rw [ha] at e3; cases e3; exact h3
                rcases hla with ⟨hla, hne⟩ | hla
                case inr => omega
                have hni : (j.notes.getD i zeroN).l ≠ [] := by
                  intro h0
                  by_cases hik : i < k
                  · rw [upto_lt hik] at hn; simp only [snapN, List.length_map] at hn; rw [h0] at hn; simp at hn
                  · rw [upto_ge hik] at hn; rw [h0] at hn; simp at hn
                rcases Nat.lt_or_gt_of_ne e with h | h
                · exact HA.out i k h hlt hni (by rw [← HNN.out]; exact hne) (by rw [ha, hla])
                · exact HA.out k i h hi (by rw [← HNN.out]; exact hne) hni (by rw [ha, hla]))
            clear hS hO
            go_wp2
            go_roundw
            case rel => exact ⟨k + 1, by omega, by go_num, HN⟩
            case measure => simp [intOf]; omega
          · obtain rfl : k = j.notes.length := by omega
            clear hk hlt
            obtain ⟨t19, t20, t21⟩ := HI.out.1.job.three
            dsimp only at t19 t20 t21
            go_wp2_with fail
            have HO3 : Hid (SnI w wr { j with g := snapG j.g t } s' hs j.items.length j.notes.length j.floats.length (upto (snapI t) (fun k => j.items.getD k zeroI) j.items.length) (upto (snapN t) (fun k => j.notes.getD k zeroN) j.notes.length) (upto (snapF t) (fun k => j.floats.getD k zeroF) 0)) := Lib.hid (by rw [upto_zero]; exact HI.out)
            clear HI
            go_loopw [49] (fun i wr => ∃ k : Nat, k ≤ j.floats.length ∧ i = .int .i64 k ∧ Hid (SnI w wr { j with g := snapG j.g t } s' hs j.items.length j.notes.length j.floats.length (upto (snapI t) (fun k => j.items.getD k zeroI) j.items.length) (upto (snapN t) (fun k => j.notes.getD k zeroN) j.notes.length) (upto (snapF t) (fun k => j.floats.getD k zeroF) k))) (fun i _ => j.floats.length - (intOf i).toNat)
            case atStart => exact ⟨0, Nat.zero_le _, rfl, HO3⟩
            case round =>
              clear HO3 t19 t20 t21
              obtain ⟨k, hk, rfl, HI⟩ := hrel
              by_cases hlt : k < j.floats.length
              · obtain ⟨C, I1, I2, IN, I3⟩ := HI.out
                obtain ⟨t19, t20, t21⟩ := C.job.three
                obtain ⟨g, cur, hia, hg2, hB, hc⟩ : ∃ g cur, s'.fa = some ⟨g, 0, none⟩ ∧ w.heap.size + 2 ≤ g ∧ Blk wr g cur 41 ∧ ∀ m j', m < j.floats.length → j' < 3 → cur[m * 3 + j']? = (encF (upto (snapF t) (fun k => j.floats.getD k zeroF) k m))[j']? := by
                  rcases I3 with h | ⟨g, cur, h⟩
                  · omega
                  · exact ⟨g, cur, h⟩
                have q1 := hc k 1 hlt (by omega)
                have q0 := hc k 0 hlt (by omega)
                have q2 := hc k 2 hlt (by omega)
                rw [upto_ge (by omega)] at q0 q1 q2
                have hx0 := (hin.out.2.2 k).2.1
                obtain ⟨x0, ex⟩ : ∃ x0, x0 = j.floats.getD k zeroF := ⟨_, rfl⟩
                rw [← ex] at q0 q1 q2 hx0
                have HEX := Lib.hid ex
                clear ex
                have c := raise_any g (k * 3 + 1) x0.h t wr hx0 tin ((hB.cell (k * 3 + 1)).trans q1) (hB.free _)
                have HW := Lib.hid (And.intro C (And.intro I1 (And.intro I2 (And.intro IN (And.intro hB (And.intro hc (And.intro q0 (And.intro q1 q2))))))))
                have HIA := Lib.hid hia
                rw [hia] at t21
                dsimp only at t19 t20 t21
                clear C I1 I2 IN I3 HI hB hc hia q0 q1 q2
                go_wp2_with fail
                refine c.mono ?_
                rintro e w2 ⟨rfl, rfl⟩
                clear c t19 t20 t21
                have HN : Hid (SnI w (wr.setCell ⟨g, k * 3 + 1, none⟩ (.int .i64 (upZ x0.h t))) { j with g := snapG j.g t } s' hs j.items.length j.notes.length j.floats.length (upto (snapI t) (fun k => j.items.getD k zeroI) j.items.length) (upto (snapN t) (fun k => j.notes.getD k zeroN) j.notes.length) (upto (snapF t) (fun k => j.floats.getD k zeroF) (k + 1))) := Lib.hid (by
                  obtain ⟨C, I1, I2, IN, hB, hc, q0, q1, q2⟩ := HW.out
                  have S := Sole.set (g := g) wr (k * 3 + 1) (.int .i64 (upZ x0.h t))
                  refine ⟨C.sole S hg2, I1.kind S hB (by decide), I2.kind S hB (by decide), fun i hi => (IN i hi).kind S hB (by decide) (by decide), ?_⟩
                  rw [← upto_succ]
                  simp only [← HEX.out]
                  refine .inr ⟨g, _, HIA.out, hg2, hB.set _ _, turned (y := snapF t x0) hlt encF_len hc (fun m hm => set_out (by omega)) fun i hi => ?_⟩
                  rcases (show i = 0 ∨ i = 1 ∨ i = 2 by omega) with rfl | rfl | rfl
                  · rw [set_out (by omega)]; exact q0
                  · exact set_in q1
                  · rw [set_out (by omega)]; exact q2)
                go_wp2
                go_roundw
                case rel => exact ⟨k + 1, by omega, by go_num, HN⟩
                case measure => simp [intOf]; omega
              · obtain rfl : k = j.floats.length := by omega
                clear hk hlt
                have C := HI.out.1
                go_upto_region 21 with (fail)
                (refine wp_region_plain (Old wr) 1 (Below.refl _ wr) ?_; simp only [List.take_succ_cons, List.take_zero, List.drop_succ_cons, List.drop_zero])
                (refine Text.val (fun x hx => load_job (.tmp 1) rfl rfl (C.job.old hx)) (by kernel_rfl) ?_; simp only [Act.put, List.getElem_toArray, List.getElem_cons_succ, List.getElem_cons_zero, List.setIfInBounds_toArray, List.set_cons_zero, List.set_cons_succ])
                intro x hx
                refine store_job (j := { j with g := snapG j.g t }) (s := s') rfl (.tmp 2) (.tmp 60) rfl rfl (by kernel_rfl) ((C.old hx).room) ?_
                go_wp2
                refine bodyPost_ret (v := .agg (jobC { j with g := snapG j.g t } s')) ?_ rfl ?_
                · exact results_cell_row Try.results8 _ _ _ 29 _ _ _ rfl ((C.old hx).room.row { j with g := snapG j.g t } s') Try.underlying29 rfl info29
                · obtain ⟨_, I1, I2, IN, I3⟩ := HI.out
                  have hz : w.heap.size + 1 < w.heap.size + 2 := by omega
                  rw [eJ.out]
                  have ec : jobC { j with g := snapG j.g t } s' = jobC ⟨snapG j.g t, j.items.map (snapI t), j.notes.map (snapN t), j.floats.map (snapF t)⟩ s' := by
                    unfold jobC
                    simp only [List.length_map]
                  rw [ec]
                  have hii := inJ_snap hin.out
                  rw [eJ.out] at hii
                  refine ⟨s', rfl, lists_own (B := w.heap.size + 2) (hs := hs) ?_ ?_ ?_ ?_ hii ?_, below_row (C.old hx).bel (by omega) _⟩
                  · rw [List.length_map]
                    exact ((I1.old hx).row hz _).congr fun m hm => by rw [upto_lt hm, map_getD _ _ zeroI _ hm]
                  · rw [List.length_map]
                    exact (I2.old hx).row hz _
                  · intro i hi
                    rw [List.length_map] at hi
                    rw [map_getD _ _ zeroN _ hi]
                    have := IN i hi
                    rw [upto_lt hi] at this
                    exact (this.old hx).row hz _
                  · rw [List.length_map]
                    exact ((I3.old hx).row hz _).congr fun m hm => by rw [upto_lt hm, map_getD _ _ zeroF _ hm]
                  · simp only [List.length_map]
                    exact HC.out
end Go.Proofs.Ytllpimhjpfkgpaa
