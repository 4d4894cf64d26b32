/- Package decode: the parts of a job. Package decode: lists of a job read; read, Job, Where, Begins. -/
import Derived.Test.YtjfjekncmejfpaaRGeo
namespace Go.Proofs.Ytjfjekncmejfpaa
open Go.RowKit
set_option maxRecDepth 20000
set_option linter.unusedVariables false
set_option linter.unusedSimpArgs false

/-- Where the reader is behind the parts, and whether it has stopped. -/
def pos1 (bs : List Int) : Nat × Bool := markR bs 0 false magicS
def rdG (bs : List Int) : G19 × Nat × Bool := geomR bs (pos1 bs).1 (pos1 bs).2
def rdI (bs : List Int) : List I7 × Nat × Bool := listR itemR bs (rdG bs).2.1 (rdG bs).2.2
def rdN (bs : List Int) : List N2 × Nat × Bool := listR noteR bs (rdI bs).2.1 (rdI bs).2.2
def rdF (bs : List Int) : List F3 × Nat × Bool := listR floatR bs (rdN bs).2.1 (rdN bs).2.2
def sixP {α : Type} (a b c d e f : α) : Nat → α
  | 0 => a
  | 1 => b
  | 2 => c
  | 3 => d
  | 4 => e
  | _ => f
section
variable {α : Type} (a b c d e f : α)
theorem six0 : sixP a b c d e f 0 = a := rfl
theorem six1 : sixP a b c d e f 1 = b := rfl
theorem six2 : sixP a b c d e f 2 = c := rfl
theorem six3 : sixP a b c d e f 3 = d := rfl
theorem six4 : sixP a b c d e f 4 = e := rfl
theorem six5 : sixP a b c d e f 5 = f := rfl
end
def posJ (bs : List Int) (k : Nat) : Nat × Bool := sixP (0, false) (pos1 bs) (rdG bs).2 (rdI bs).2 (rdN bs).2 (rdF bs).2 k
theorem posJ0 (bs : List Int) : posJ bs 0 = (0, false) := by rw [posJ, six0]
theorem posJ1 (bs : List Int) : posJ bs 1 = pos1 bs := by rw [posJ, six1]
theorem posJ2 (bs : List Int) : posJ bs 2 = (rdG bs).2 := by rw [posJ, six2]
theorem posJ3 (bs : List Int) : posJ bs 3 = (rdI bs).2 := by rw [posJ, six3]
theorem posJ4 (bs : List Int) : posJ bs 4 = (rdN bs).2 := by rw [posJ, six4]
theorem posJ5 (bs : List Int) : posJ bs 5 = (rdF bs).2 := by rw [posJ, six5]
theorem then5 {A B C D E J : Type} (f : A × B × C × D × E → J) (ra : RdF A) (rb : RdF B) (rc : RdF C) (rd : RdF D) (re : RdF E) (bs : List Int) (p : Nat) (st : Bool) (x : A × Nat × Bool) (y : B × Nat × Bool) (z : C × Nat × Bool) (u : D × Nat × Bool) (v : E × Nat × Bool)
    (hx : ra bs p st = x) (hy : rb bs x.2.1 x.2.2 = y) (hz : rc bs y.2.1 y.2.2 = z) (hu : rd bs z.2.1 z.2.2 = u) (hv : re bs u.2.1 u.2.2 = v) :
    mapR f (thenR ra fun _ => thenR rb fun _ => thenR rc fun _ => thenR rd fun _ => re) bs p st = (f (x.1, y.1, z.1, u.1, v.1), v.2) := by
  subst hx hy hz hu hv
  rfl
theorem jobR_is (bs : List Int) : jobR bs 0 false = (⟨(rdG bs).1, (rdI bs).1, (rdN bs).1, (rdF bs).1⟩, (rdF bs).2) := by
  have h := then5 (fun z : Unit × G19 × List I7 × List N2 × List F3 => (⟨z.2.1, z.2.2.1, z.2.2.2.1, z.2.2.2.2⟩ : J4)) (markF magicS) geomR (listR itemR) (listR noteR) (listR floatR) bs 0 false ((), pos1 bs) (rdG bs) (rdI bs) (rdN bs) (rdF bs) (by rw [markF, pos1]) (by rw [rdG]) (by rw [rdI]) (by rw [rdN]) (by rw [rdF])
  rw [jobR, h]
theorem list_stop {α : Type} (R : RdF α) (bs : List Int) (p : Nat) : (listR R bs p true).2 = (p, true) := by
  unfold listR
  have hc : countR bs p true = (0, p, true) := by
    unfold countR
    split <;> rfl
  rw [hc]
  rfl
theorem pair_true {x : Nat × Bool} (h : x.2 = true) : x = (x.1, true) := by
  obtain ⟨a, b⟩ := x
  cases h
  rfl
theorem next1 (bs : List Int) (h : (pos1 bs).2 = true) : (rdG bs).2 = pos1 bs := by
  unfold rdG
  rw [h, geom_reads.stop]
  exact (pair_true h).symm
theorem next2 (bs : List Int) (h : (rdG bs).2.2 = true) : (rdI bs).2 = (rdG bs).2 := by
  unfold rdI
  rw [h, list_stop]
  exact (pair_true h).symm
theorem next3 (bs : List Int) (h : (rdI bs).2.2 = true) : (rdN bs).2 = (rdI bs).2 := by
  unfold rdN
  rw [h, list_stop]
  exact (pair_true h).symm
theorem next4 (bs : List Int) (h : (rdN bs).2.2 = true) : (rdF bs).2 = (rdN bs).2 := by
  unfold rdF
  rw [h, list_stop]
  exact (pair_true h).symm
theorem partJ_pos (bs : List Int) : partJ bs = if (pos1 bs).2 then 0 else if (rdG bs).2.2 then 1 else if (rdI bs).2.2 then 2 else if (rdN bs).2.2 then 3 else if (rdF bs).2.2 then 4 else 5 := by
  have e1 : (markF magicS bs 0 false).2 = pos1 bs := by rw [markF, pos1]
  unfold partJ
  dsimp only
  rw [e1, ← rdG, ← rdI, ← rdN, ← rdF]
theorem posJ_end (bs : List Int) (k : Nat) (hk : k < 5) (h : (posJ bs (k + 1)).2 = true) : (rdF bs).2 = posJ bs (k + 1) := by
  have n1 := next1 bs
  have n2 := next2 bs
  have n3 := next3 bs
  have n4 := next4 bs
  have : k = 0 ∨ k = 1 ∨ k = 2 ∨ k = 3 ∨ k = 4 := by omega
  rcases this with rfl | rfl | rfl | rfl | rfl
  · rw [Nat.zero_add, posJ1] at h
    rw [Nat.zero_add, posJ1]
    have a := n1 h
    have b := n2 (by rw [a]; exact h)
    have c := n3 (by rw [b, a]; exact h)
    rw [n4 (by rw [c, b, a]; exact h), c, b, a]
  · rw [posJ2] at h
    rw [posJ2]
    have b := n2 h
    have c := n3 (by rw [b]; exact h)
    rw [n4 (by rw [c, b]; exact h), c, b]
  · rw [posJ3] at h
    rw [posJ3]
    have c := n3 h
    rw [n4 (by rw [c]; exact h), c]
  · rw [posJ4] at h
    rw [posJ4]
    exact n4 h
  · rw [posJ5]
theorem partJ_at (bs : List Int) (k : Nat) (hk : k < 5) (h0 : (posJ bs k).2 = false) (h1 : (posJ bs (k + 1)).2 = true) : partJ bs = k := by
  rw [partJ_pos]
  have n1 := next1 bs
  have n2 := next2 bs
  have n3 := next3 bs
  have : k = 0 ∨ k = 1 ∨ k = 2 ∨ k = 3 ∨ k = 4 := by omega
  have f : ∀ x y : Nat × Bool, y.2 = false → (x.2 = true → y = x) → x.2 = false := fun x y h e => by
    cases hm : x.2
    · rfl
    · rw [e hm, hm] at h; cases h
  rcases this with rfl | rfl | rfl | rfl | rfl
  · rw [Nat.zero_add, posJ1] at h1
    rw [if_pos h1]
  · rw [posJ1] at h0
    rw [posJ2] at h1
    simp [h0, h1]
  · rw [posJ2] at h0
    rw [posJ3] at h1
    have a := f _ _ h0 n1
    simp [h0, h1, a]
  · rw [posJ3] at h0
    rw [posJ4] at h1
    have b := f _ _ h0 n2
    have a := f _ _ b n1
    simp [h0, h1, a, b]
  · rw [posJ4] at h0
    rw [posJ5] at h1
    have c := f _ _ h0 n3
    have b := f _ _ c n2
    have a := f _ _ b n1
    simp [h0, h1, a, b, c]
/-- What the parts are called. -/
def nameP : Nat → ByteArray
  | 0 => ⟨#[109, 97, 103, 105, 99]⟩
  | 1 => ⟨#[103, 101, 111, 109, 101, 116, 114, 121]⟩
  | 2 => ⟨#[105, 116, 101, 109, 115]⟩
  | 3 => ⟨#[110, 111, 116, 101, 115]⟩
  | 4 => ⟨#[102, 108, 111, 97, 116, 115]⟩
  | _ => ⟨#[101, 110, 100]⟩
theorem magic_any (bs : List Int) (h g : Nat) (a : Option Addr) (c q : Nat) (st : Bool) (w : World) (H : RdP bs w h g a c q st) :
    Calls Try.prog 58 #[.pointer (some ⟨h, 0, none⟩)] w fun e w' => e = .returned (.tuple #[]) ∧ RdP bs w' h g a c (markR bs q st magicS).1 (markR bs q st magicS).2 ∧ But g w w' := by
  have cm := fun y (hy : RdP bs y h g a c q st) => mark_any g a c bs q st magicS (by decide) hy.le hy.len hy.byt y hy.cd hy.row
  have hle := markR_le bs q st magicS H.le
  have CE := Lib.hid fun y (hy : Old w y) => (H.old hy).ptr
  have cM := fun y (hy : Old w y) => (Magic_any y).mono fun e z (he : e = .returned (.string magicS) ∧ y = z) => (⟨he.1, by rw [he.2]; exact Below.refl _ _⟩ : e = .returned (.string magicS) ∧ Below y.heap.size y z)
  go_enter Try.func58, Try.ntmps58
  go_upto_region 0 with (fail)
  (refine wp_region_text (Old w) 5 (by kernel_rfl) (by kernel_rfl) (Below.refl _ w).drew ?_; simp only [List.take_succ_cons, List.take_zero, List.drop_succ_cons, List.drop_zero])
  repeat (first | (apply Text.sees (hw := by kernel_rfl); (focus (intro x hx K hK; have hc := CE.out x hx; go_simp; exact hK)); simp only [Act.put, List.getElem_toArray, List.getElem_cons_succ, List.getElem_cons_zero, List.setIfInBounds_toArray, List.set_cons_zero, List.set_cons_succ]) | (apply Text.idle; (focus (intro x hx K hK; go_simp; exact hK)); simp only [Act.put, List.getElem_toArray, List.getElem_cons_succ, List.getElem_cons_zero, List.setIfInBounds_toArray, List.set_cons_zero, List.set_cons_succ]))
  (refine Text.call (Old.call fun x hx => cM x hx) (by kernel_rfl) (fun _ => by kernel_rfl) ?_; simp only [Act.put, List.getElem_toArray, List.getElem_cons_succ, List.getElem_cons_zero, List.setIfInBounds_toArray, List.set_cons_zero, List.set_cons_succ])
  repeat (first | (apply Text.sees (hw := by kernel_rfl); (focus (intro x hx K hK; have hc := CE.out x hx; go_simp; exact hK)); simp only [Act.put, List.getElem_toArray, List.getElem_cons_succ, List.getElem_cons_zero, List.setIfInBounds_toArray, List.set_cons_zero, List.set_cons_succ]) | (apply Text.idle; (focus (intro x hx K hK; go_simp; exact hK)); simp only [Act.put, List.getElem_toArray, List.getElem_cons_succ, List.getElem_cons_zero, List.setIfInBounds_toArray, List.set_cons_zero, List.set_cons_succ]))
  intro x hx
  have Hx := H.old hx
  go_wp2_with (refine (cm _ Hx).mono ?_; rintro e w1 ⟨rfl, R1, B1⟩)
  go_end0
  exact ⟨rfl, Hx.but B1 hle.1 R1, But.trans (But.of hx) B1⟩
end Go.Proofs.Ytjfjekncmejfpaa
namespace Go.Proofs.Ytjfjekncmejfpaa
open Go.RowKit
set_option maxRecDepth 20000
set_option linter.unusedVariables false
set_option linter.unusedSimpArgs false

section
variable {w w' : World} {h g b : Nat} {j : J4} {s : S3}
theorem RjAt.set20 (H : RjAt w h g j s) (a : Option Addr) (l : List I7) (c : Nat) : RjAt (w.setCell ⟨h, 20, none⟩ (.slice a l.length c)) h g { j with items := l } { s with ia := a, ic := c } := by
  have := Blk.set H 20 (.slice a l.length c)
  have e : (rdrL g j s).toArray.setIfInBounds 20 (.slice a l.length c) = (rdrL g { j with items := l } { s with ia := a, ic := c }).toArray := by simp [rdrL]
  rw [e] at this
  exact this
theorem RjAt.set21 (H : RjAt w h g j s) (a : Option Addr) (l : List N2) (c : Nat) : RjAt (w.setCell ⟨h, 21, none⟩ (.slice a l.length c)) h g { j with notes := l } { s with na := a, nc := c } := by
  have := Blk.set H 21 (.slice a l.length c)
  have e : (rdrL g j s).toArray.setIfInBounds 21 (.slice a l.length c) = (rdrL g { j with notes := l } { s with na := a, nc := c }).toArray := by simp [rdrL]
  rw [e] at this
  exact this
theorem RjAt.set22 (H : RjAt w h g j s) (a : Option Addr) (l : List F3) (c : Nat) : RjAt (w.setCell ⟨h, 22, none⟩ (.slice a l.length c)) h g { j with floats := l } { s with fa := a, fc := c } := by
  have := Blk.set H 22 (.slice a l.length c)
  have e : (rdrL g j s).toArray.setIfInBounds 22 (.slice a l.length c) = (rdrL g { j with floats := l } { s with fa := a, fc := c }).toArray := by simp [rdrL]
  rw [e] at this
  exact this
end
theorem each_pos {α : Type} (R : RdF α) (bs : List Int) (q : Nat) (st : Bool) : (eachG R bs q st).2 = (listR R bs q st).2 := rfl
theorem each_val {α : Type} (R : RdF α) (bs : List Int) (q : Nat) (st : Bool) (h : (listR R bs q st).2.2 = false) : (eachG R bs q st).1 = (listR R bs q st).1 := by
  unfold eachG
  rw [h]
  rfl
/-- Nothing that stood is turned, but for the blocks g and h. -/
abbrev Two (g h : Nat) : World → World → Prop := Near fun i => i = g ∨ i = h
theorem But.two {g h : Nat} {w w' : World} (H : But g w w') : Two g h w w' := H.near.wide fun _ e => .inl e
theorem Sole.two {g h : Nat} {w w' : World} (S : Sole h w w') : Two g h w w' := ⟨S.os, S.tape, S.output, Nat.le_of_eq S.size.symm, fun i _ hn => S.block i fun e => hn (.inr e)⟩
theorem Two.trans {g h : Nat} {a b c : World} (H : Two g h a b) (K : Two g h b c) : Two g h a c := Near.trans H K fun _ e => e
section
variable {α : Type} {M : Nat → Prop} {e : TypeId} {sz : Nat} {enc : α → List Value} {B n : Nat} {w w' : World} {a : Option Addr} {F : Nat → α}
theorem OwnE.near (h : OwnE e sz enc B w a n F) (hb : Near M w w') (hM : ∀ i, M i → i < B) : OwnE e sz enc B w' a n F := by
  rcases h with h | ⟨b, cur, h1, h2, h3, h4⟩
  · exact .inl h
  · exact .inr ⟨b, cur, h1, h2, h3.near hb (fun hm => by have := hM b hm; omega), h4⟩
theorem NoteOwn.near {h : H2} {n : N2} (H : NoteOwn B w h n) (hb : Near M w w') (hM : ∀ i, M i → i < B) : NoteOwn B w' h n := by
  obtain ⟨h1, h2, h3', h4, h5, h6, h7, h8⟩ := H
  exact ⟨h1, h2, h3', h4, h5.near hb hM, h6, h7.near hb hM, h8⟩
theorem NotesL.near {hl : List H2} {l : List N2} (H : NotesL B w hl l) (hb : Near M w w') (hM : ∀ i, M i → i < B) : NotesL B w' hl l := ⟨H.1, fun i hi => (H.2 i hi).near hb hM⟩
theorem NotesL.mono {B' : Nat} {hl : List H2} {l : List N2} (H : NotesL B w hl l) (hB : B' ≤ B) : NotesL B' w hl l := ⟨H.1, fun i hi => (H.2 i hi).mono hB⟩
end
set_option maxHeartbeats 1000000 in
theorem items_any (bs : List Int) (h g : Nat) (a : Option Addr) (c q : Nat) (st : Bool) (w : World) (j : J4) (s : S3) (H : RdP bs w h g a c q st) (D : RjAt w h g j s) :
    Calls Try.prog 60 #[.pointer (some ⟨h, 0, none⟩)] w fun e w' => e = .returned (.tuple #[]) ∧ RdP bs w' h g a c (listR itemR bs q st).2.1 (listR itemR bs q st).2.2 ∧ Two g h w w' ∧ ∃ a1 k1, RjAt w' h g { j with items := (eachG itemR bs q st).1 } { s with ia := a1, ic := k1 } ∧ ((eachG itemR bs q st).1.length ≤ k1 ∧ k1 ≤ maxLen) ∧ OwnE 49 7 encI w.heap.size w' a1 (eachG itemR bs q st).1.length fun k => (eachG itemR bs q st).1.getD k zeroI := by
  have ce := each_item bs h g a c q st w H
  rw [each_pos] at ce
  have d0 := D.ptr
  have hne := H.ne
  have hlt := H.lt
  have hnl : ¬ w.heap.size ≤ h := by omega
  generalize (eachG itemR bs q st).1 = L at *
  generalize (listR itemR bs q st).2 = P at *
  go_enter Try.func60, Try.ntmps60
  go_wp2_with fail
  refine ce.mono ?_
  rintro e w1 ⟨v, rfl, O1, H1, B1⟩
  obtain ⟨a1, k1, rfl, l1, m1, o1⟩ := own_of (d := zeroI) O1 encI_len
  have D1 := D.but B1 hne
  have p := D1.at 20
  have p' : w1.cell? ⟨h, 20, none⟩ = some (.slice s.ia j.items.length s.ic) := p
  have f := Blk.free D1 20
  clear p O1 ce d0
  have q0 := D1.ptr
  have HP := Lib.hid (And.intro H1 (And.intro D1 (And.intro B1 (And.intro o1 trivial))))
  clear H1 D1 B1 o1
  go_wp2
  go_end0
  obtain ⟨H1, D1, B1, o1, N1⟩ := HP.out
  have E := D1.set20 a1 L k1
  have S := Sole.set (g := h) w1 20 (.slice a1 L.length k1)
  exact ⟨rfl, H1.sole D1 S E.ptr, (B1.two).trans S.two, a1, k1, E, ⟨l1, m1⟩, o1.near (S.two (g := h)) (fun i hi => by omega)⟩
set_option maxHeartbeats 1000000 in
theorem notes_any (bs : List Int) (h g : Nat) (a : Option Addr) (c q : Nat) (st : Bool) (w : World) (j : J4) (s : S3) (H : RdP bs w h g a c q st) (D : RjAt w h g j s) :
    Calls Try.prog 61 #[.pointer (some ⟨h, 0, none⟩)] w fun e w' => e = .returned (.tuple #[]) ∧ RdP bs w' h g a c (listR noteR bs q st).2.1 (listR noteR bs q st).2.2 ∧ Two g h w w' ∧ ∃ a1 k1, RjAt w' h g { j with notes := (eachG noteR bs q st).1 } { s with na := a1, nc := k1 } ∧ ((eachG noteR bs q st).1.length ≤ k1 ∧ k1 ≤ maxLen) ∧ ∃ hl, (OwnE 76 2 encH w.heap.size w' a1 hl.length fun k => hl.getD k zeroH) ∧ NotesL w.heap.size w' hl (eachG noteR bs q st).1 := by
  have ce := each_note bs h g a c q st w H
  rw [each_pos] at ce
  have d0 := D.ptr
  have hne := H.ne
  have hlt := H.lt
  have hnl : ¬ w.heap.size ≤ h := by omega
  generalize (eachG noteR bs q st).1 = L at *
  generalize (listR noteR bs q st).2 = P at *
  go_enter Try.func61, Try.ntmps61
  go_wp2_with fail
  refine ce.mono ?_
  rintro e w1 ⟨v, hl, rfl, O1, N1, H1, B1⟩
  have hll := N1.1
  obtain ⟨a1, k1, rfl, l1, m1, o1⟩ := own_of (d := zeroH) O1 encH_len
  rw [hll] at l1
  have D1 := D.but B1 hne
  have p := D1.at 21
  have p' : w1.cell? ⟨h, 21, none⟩ = some (.slice s.na j.notes.length s.nc) := p
  have f := Blk.free D1 21
  rw [hll]
  clear p O1 ce d0
  have q0 := D1.ptr
  have HP := Lib.hid (And.intro H1 (And.intro D1 (And.intro B1 (And.intro o1 N1))))
  clear H1 D1 B1 o1 N1
  go_wp2
  go_end0
  obtain ⟨H1, D1, B1, o1, N1⟩ := HP.out
  have E := D1.set21 a1 L k1
  have S := Sole.set (g := h) w1 21 (.slice a1 L.length k1)
  exact ⟨rfl, H1.sole D1 S E.ptr, (B1.two).trans S.two, a1, k1, E, ⟨l1, m1⟩, hl, o1.near (S.two (g := h)) (fun i hi => by omega), N1.near (S.two (g := h)) (fun i hi => by omega)⟩
set_option maxHeartbeats 1000000 in
theorem floats_any (bs : List Int) (h g : Nat) (a : Option Addr) (c q : Nat) (st : Bool) (w : World) (j : J4) (s : S3) (H : RdP bs w h g a c q st) (D : RjAt w h g j s) :
    Calls Try.prog 62 #[.pointer (some ⟨h, 0, none⟩)] w fun e w' => e = .returned (.tuple #[]) ∧ RdP bs w' h g a c (listR floatR bs q st).2.1 (listR floatR bs q st).2.2 ∧ Two g h w w' ∧ ∃ a1 k1, RjAt w' h g { j with floats := (eachG floatR bs q st).1 } { s with fa := a1, fc := k1 } ∧ ((eachG floatR bs q st).1.length ≤ k1 ∧ k1 ≤ maxLen) ∧ OwnE 90 3 encF w.heap.size w' a1 (eachG floatR bs q st).1.length fun k => (eachG floatR bs q st).1.getD k zeroF := by
  have ce := each_float bs h g a c q st w H
  rw [each_pos] at ce
  have d0 := D.ptr
  have hne := H.ne
  have hlt := H.lt
  have hnl : ¬ w.heap.size ≤ h := by omega
  generalize (eachG floatR bs q st).1 = L at *
  generalize (listR floatR bs q st).2 = P at *
  go_enter Try.func62, Try.ntmps62
  go_wp2_with fail
  refine ce.mono ?_
  rintro e w1 ⟨v, rfl, O1, H1, B1⟩
  obtain ⟨a1, k1, rfl, l1, m1, o1⟩ := own_of (d := zeroF) O1 encF_len
  have D1 := D.but B1 hne
  have p := D1.at 22
  have p' : w1.cell? ⟨h, 22, none⟩ = some (.slice s.fa j.floats.length s.fc) := p
  have f := Blk.free D1 22
  clear p O1 ce d0
  have q0 := D1.ptr
  have HP := Lib.hid (And.intro H1 (And.intro D1 (And.intro B1 (And.intro o1 trivial))))
  clear H1 D1 B1 o1
  go_wp2
  go_end0
  obtain ⟨H1, D1, B1, o1, N1⟩ := HP.out
  have E := D1.set22 a1 L k1
  have S := Sole.set (g := h) w1 22 (.slice a1 L.length k1)
  exact ⟨rfl, H1.sole D1 S E.ptr, (B1.two).trans S.two, a1, k1, E, ⟨l1, m1⟩, o1.near (S.two (g := h)) (fun i hi => by omega)⟩
end Go.Proofs.Ytjfjekncmejfpaa
