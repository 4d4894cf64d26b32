/- Package codec's Reader: where it lies; Right, At, Stop, left, End, Open. Package codec's Reader: Int, Count. Package codec: Each of integers, Ints. -/
import Derived.Test.YtjfjekncmejfpaaYWr
import Derived.Test.YtjfjekncmejfpaaXRead
import Derived.Test.YtjfjekncmejfpaaVGet
namespace Go.Proofs.Ytjfjekncmejfpaa
open Go.RowKit
set_option maxRecDepth 20000
set_option linter.unusedVariables false
set_option linter.unusedSimpArgs false

/-- A reader of codec lies in block g. -/
def CdAt (w : World) (g : Nat) (a : Option Addr) (c n : Nat) (p : Int) (st : Bool) : Prop := w.heap[g]? = some (.cells #[.slice a n c, .int .i64 p, .bool st] 99 (0, 0))
section
variable {w w' : World} {g : Nat} {a : Option Addr} {c n : Nat} {p : Int} {st : Bool}
theorem CdAt.lt (h : CdAt w g a c n p st) : g < w.heap.size := (Array.getElem?_eq_some_iff.1 h).1
theorem CdAt.c0 (h : CdAt w g a c n p st) : w.cell? ⟨g, 0, none⟩ = some (.slice a n c) := (cell_of_row w g 0 _ _ _ h).trans rfl
theorem CdAt.c1 (h : CdAt w g a c n p st) : w.cell? ⟨g, 1, none⟩ = some (.int .i64 p) := (cell_of_row w g 1 _ _ _ h).trans rfl
theorem CdAt.c2 (h : CdAt w g a c n p st) : w.cell? ⟨g, 2, none⟩ = some (.bool st) := (cell_of_row w g 2 _ _ _ h).trans rfl
theorem CdAt.fr (h : CdAt w g a c n p st) (j : Nat) : w.frozen? ⟨g, j, none⟩ = false := frozen_of_row w g j _ _ h
theorem CdAt.set1 (h : CdAt w g a c n p st) (q : Int) : CdAt (w.setCell ⟨g, 1, none⟩ (.int .i64 q)) g a c n q st := heap_setCell_same w g 1 _ _ _ h
theorem CdAt.set2 (h : CdAt w g a c n p st) (q : Bool) : CdAt (w.setCell ⟨g, 2, none⟩ (.bool q)) g a c n p q := heap_setCell_same w g 2 _ _ _ h
theorem CdAt.below (h : CdAt w g a c n p st) {B : Nat} (hb : Below B w w') (hg : g < B) : CdAt w' g a c n p st := (hb.block g hg).trans h
theorem CdAt.old (h : CdAt w g a c n p st) (hb : Below w.heap.size w w') : CdAt w' g a c n p st := h.below hb h.lt
theorem CdAt.but (h : CdAt w g a c n p st) {g' : Nat} (hb : But g' w w') (hg : g ≠ g') : CdAt w' g a c n p st := (hb.block g h.lt (fun e => hg (by injection e))).trans h
theorem RdAt.but (h : RdAt w g a c n p st) {g' : Nat} (hb : But g' w w') (hg : g ≠ g') : RdAt w' g a c n p st := (hb.block g h.lt (fun e => hg (by injection e))).trans h
theorem RdAt.old (h : RdAt w g a c n p st) (hb : Below w.heap.size w w') : RdAt w' g a c n p st := h.below hb h.lt
end
theorem crow_ne {w : World} {g b o : Nat} {a : Option Addr} {c n : Nat} {p : Int} {st : Bool} {z : Int} (h : CdAt w g a c n p st) (hc : w.cell? ⟨b, o, none⟩ = some (.int .u8 z)) : b ≠ g := by
  rintro rfl
  rw [cell_of_row w b o _ _ _ h] at hc
  match o, hc with
  | 0, hc => simp at hc
  | 1, hc => simp at hc
  | 2, hc => simp at hc
  | o + 3, hc => simp at hc
theorem Row.cbut {w w' : World} {g : Nat} {a a' : Option Addr} {c c' n : Nat} {p : Int} {st : Bool} {l : List Int} (hr : Row w a c l) (h : CdAt w g a' c' n p st) (hb : But g w w') : Row w' a c l := ⟨hr.1, fun k hk => by
  obtain ⟨b, off, rfl, hB, hc⟩ := hr.2 k hk
  have hne := crow_ne h hc
  exact ⟨b, off, rfl, Nat.lt_of_lt_of_le hB hb.size, (World.cell?_of_block (hb.block b hB (fun e => hne (by injection e)))).trans hc⟩⟩
theorem But.step {g : Nat} {w w' w'' : World} (h : But g w w') (k : Below w'.heap.size w' w'') : But g w w'' := But.trans h (But.of k)

theorem open_any (a : Option Addr) (c n : Nat) (w : World) :
    Calls Try.prog 22 #[.slice a n c] w fun e w' => e = .returned (.pointer (some ⟨w.heap.size, 0, none⟩)) ∧ CdAt w' w.heap.size a c n 0 false ∧ Below w.heap.size w w' := by
  go_enter Try.func22, Try.ntmps22
  go_wp2
  go_ret
  exact ⟨rfl, heap_alloc_new _ _, bel1 _ _⟩
theorem right_any (g : Nat) (a : Option Addr) (c n : Nat) (p : Int) (st : Bool) (w : World) (hR : CdAt w g a c n p st) :
    Calls Try.prog 25 #[.pointer (some ⟨g, 0, none⟩)] w fun e w' => e = .returned (.bool (!st)) ∧ w = w' := by
  have c2 := hR.c2
  go_enter Try.func25, Try.ntmps25
  go_wp2
  go_ret
  exact ⟨rfl, rfl⟩
theorem right_nil (w : World) :
    Calls Try.prog 25 #[.pointer none] w fun e w' => e = .returned (.bool false) ∧ w = w' := by
  go_enter Try.func25, Try.ntmps25
  go_wp2
  go_ret
  exact ⟨rfl, rfl⟩
theorem at_any (g : Nat) (a : Option Addr) (c n : Nat) (p : Int) (st : Bool) (w : World) (hR : CdAt w g a c n p st) :
    Calls Try.prog 17 #[.pointer (some ⟨g, 0, none⟩)] w fun e w' => e = .returned (.int .i64 p) ∧ w = w' := by
  have c1 := hR.c1
  go_enter Try.func17, Try.ntmps17
  go_wp2
  go_ret
  exact ⟨rfl, rfl⟩
theorem at_nil (w : World) :
    Calls Try.prog 17 #[.pointer none] w fun e w' => e = .returned (.int .i64 0) ∧ w = w' := by
  go_enter Try.func17, Try.ntmps17
  go_wp2
  go_ret
  exact ⟨rfl, rfl⟩
theorem stop_any (g : Nat) (a : Option Addr) (c n : Nat) (p : Int) (st : Bool) (w : World) (hR : CdAt w g a c n p st) :
    Calls Try.prog 49 #[.pointer (some ⟨g, 0, none⟩)] w fun e w' => e = .returned (.tuple #[]) ∧ CdAt w' g a c n p true ∧ But g w w' := by
  have c2 := hR.c2
  have f2 := hR.fr 2
  go_enter Try.func49, Try.ntmps49
  go_wp2
  go_end0
  exact ⟨rfl, hR.set2 true, (But.refl g w).set 2 _⟩
theorem stop_nil (w : World) :
    Calls Try.prog 49 #[.pointer none] w fun e w' => e = .returned (.tuple #[]) ∧ w = w' := by
  go_enter Try.func49, Try.ntmps49
  go_wp2
  go_end0
  exact ⟨rfl, rfl⟩
theorem left_any (g : Nat) (a : Option Addr) (c n p : Nat) (st : Bool) (hp : p ≤ n) (hn : n ≤ 1000000) (w : World) (hR : CdAt w g a c n p st) :
    Calls Try.prog 37 #[.pointer (some ⟨g, 0, none⟩)] w fun e w' => e = .returned (.int .i64 ((n : Int) - p)) ∧ Below w.heap.size w w' := by
  have c0 := hR.c0
  have c1 := hR.c1
  go_enter Try.func37, Try.ntmps37
  go_wp2_with fail
  go_quiet (fail)
  go_wp2
  go_ret
  exact ⟨rfl, bdrewN (Below.refl _ _) _⟩
def endR (st : Bool) (p n : Nat) : Int := if st = false ∧ p = n then 0 else 2
theorem end_any (g : Nat) (a : Option Addr) (c n p : Nat) (st : Bool) (hp : p ≤ n) (hn : n ≤ 1000000) (w : World) (hR : CdAt w g a c n p st) :
    Calls Try.prog 16 #[.pointer (some ⟨g, 0, none⟩)] w fun e w' => e = .returned (.int .i64 (endR st p n)) ∧ Below w.heap.size w w' := by
  have cr := right_any g a c n p st w hR
  have cl := left_any g a c n p st hp hn w hR
  cases st with
  | true =>
    rw [Bool.not_true] at cr
    go_enter Try.func16, Try.ntmps16
    go_wp2_with (refine cr.mono ?_; rintro e w' ⟨rfl, rfl⟩)
    go_ret
    exact ⟨rfl, Below.refl _ _⟩
  | false =>
    rw [Bool.not_false] at cr
    by_cases h : p = n
    · subst h
      go_enter Try.func16, Try.ntmps16
      go_wp2_with (first
        | (go_at_call 25; refine cr.mono ?_; rintro e w' ⟨rfl, rfl⟩)
        | (go_at_call 37; refine cl.mono ?_; rintro e w1 ⟨rfl, b1⟩))
      go_ret
      exact ⟨by unfold endR; simp, b1⟩
    · have hd : ((n : Int) - p == 0) = false := by simp; omega
      go_enter Try.func16, Try.ntmps16
      go_wp2_with (first
        | (go_at_call 25; refine cr.mono ?_; rintro e w' ⟨rfl, rfl⟩)
        | (go_at_call 37; refine cl.mono ?_; rintro e w1 ⟨rfl, b1⟩))
      go_ret
      exact ⟨by unfold endR; simp [h], b1⟩
theorem end_nil (w : World) :
    Calls Try.prog 16 #[.pointer none] w fun e w' => e = .returned (.int .i64 2) ∧ w = w' := by
  have cr := right_nil w
  go_enter Try.func16, Try.ntmps16
  go_wp2_with (refine cr.mono ?_; rintro e w' ⟨rfl, rfl⟩)
  go_ret
  exact ⟨rfl, rfl⟩
end Go.Proofs.Ytjfjekncmejfpaa
namespace Go.Proofs.Ytjfjekncmejfpaa
open Go.RowKit
set_option maxRecDepth 20000
set_option linter.unusedVariables false
set_option linter.unusedSimpArgs false

theorem int_nil (w : World) :
    Calls Try.prog 82 #[.pointer none] w fun e w' => e = .returned (.int .i64 0) ∧ w = w' := by
  have cr := right_nil w
  go_enter Try.func82, Try.ntmps82
  go_wp2_with (refine cr.mono ?_; rintro e w' ⟨rfl, rfl⟩)
  go_ret
  exact ⟨rfl, rfl⟩
theorem int_stop (g : Nat) (a : Option Addr) (c n : Nat) (p : Int) (w : World) (hR : CdAt w g a c n p true) :
    Calls Try.prog 82 #[.pointer (some ⟨g, 0, none⟩)] w fun e w' => e = .returned (.int .i64 0) ∧ w = w' := by
  have cr := right_any g a c n p true w hR
  rw [Bool.not_true] at cr
  go_enter Try.func82, Try.ntmps82
  go_wp2_with (refine cr.mono ?_; rintro e w' ⟨rfl, rfl⟩)
  go_ret
  exact ⟨rfl, rfl⟩
theorem int_go (g : Nat) (a : Option Addr) (c : Nat) (bs : List Int) (p : Nat) (hp : p ≤ bs.length) (hl : bs.length ≤ 1000000) (hB : Byt bs) (w : World) (hR : CdAt w g a c bs.length p false) (hr : Row w a c bs) :
    Calls Try.prog 82 #[.pointer (some ⟨g, 0, none⟩)] w fun e w' => e = .returned (.int .i64 (intR bs p false).1) ∧ CdAt w' g a c bs.length (intR bs p false).2.1 (intR bs p false).2.2 ∧ But g w w' := by
  have cr := right_any g a c bs.length p false w hR
  rw [Bool.not_false] at cr
  have cg : ∀ x, Old w x → Calls Try.prog 88 #[.slice a bs.length c, .int .i64 p] x fun e y => e = .returned (trip (gotR p bs)) ∧ Below x.heap.size x y := fun x hx => (get_any a c bs p hl hB x (hr.carry hx)).mono fun e y ⟨he, hy⟩ => by subst hy; exact ⟨he, Below.refl _ _⟩
  have CE := Lib.hid (show ∀ x, Old w x → (x.cell? ⟨g, 0, none⟩ = some (.slice a bs.length c) ∧ x.cell? ⟨g, 1, none⟩ = some (.int .i64 p)) from fun x hx => ⟨(hR.old hx).c0, (hR.old hx).c1⟩)
  have cs := fun x hx => stop_any g a c bs.length p false x hx
  obtain ⟨⟨r0, r1, r2⟩, hres⟩ : ∃ r, r = gotR p bs := ⟨_, rfl⟩
  rw [← hres] at cg
  unfold trip at cg
  cases hgr : getR (bs.drop p) 0 0 with
  | none =>
    rw [got_none p bs hp hgr] at hres
    obtain ⟨rfl, rfl, rfl⟩ : r0 = 0 ∧ r1 = 0 ∧ r2 = 2 := by simpa using hres
    have HI := Lib.hid (intR_none bs p hgr)
    clear hgr hres
    go_enter Try.func82, Try.ntmps82
    go_wp2_with (go_at_call 25; refine cr.mono ?_; rintro e w' ⟨rfl, rfl⟩)
    (refine wp_region_text (Old w) 15 (by kernel_rfl) (by kernel_rfl) (Below.refl _ w).drew ?_; simp only [List.take_succ_cons, List.take_zero, List.drop_succ_cons, List.drop_zero])
    repeat (first | (apply Text.sees (hw := by kernel_rfl); (focus (intro x hx K hK; have hc := CE.out x hx; go_simp; exact hK)); simp only [Act.put, List.getElem_toArray, List.getElem_cons_succ, List.getElem_cons_zero, List.setIfInBounds_toArray, List.set_cons_zero, List.set_cons_succ]) | (apply Text.idle; (focus (intro x hx K hK; go_simp; exact hK)); simp only [Act.put, List.getElem_toArray, List.getElem_cons_succ, List.getElem_cons_zero, List.setIfInBounds_toArray, List.set_cons_zero, List.set_cons_succ]))
    (refine Text.call (Old.call fun x hx => cg x hx) (by kernel_rfl) (fun _ => by kernel_rfl) ?_; simp only [Act.put, List.getElem_toArray, List.getElem_cons_succ, List.getElem_cons_zero, List.setIfInBounds_toArray, List.set_cons_zero, List.set_cons_succ])
    repeat (first | (apply Text.sees (hw := by kernel_rfl); (focus (intro x hx K hK; have hc := CE.out x hx; go_simp; exact hK)); simp only [Act.put, List.getElem_toArray, List.getElem_cons_succ, List.getElem_cons_zero, List.setIfInBounds_toArray, List.set_cons_zero, List.set_cons_succ]) | (apply Text.idle; (focus (intro x hx K hK; go_simp; exact hK)); simp only [Act.put, List.getElem_toArray, List.getElem_cons_succ, List.getElem_cons_zero, List.setIfInBounds_toArray, List.set_cons_zero, List.set_cons_succ]))
    intro x hx
    go_wp2_with fail
    refine (cs _ (hR.old hx)).mono ?_
    rintro e w2 ⟨rfl, R2, B2⟩
    go_wp2
    go_ret
    rw [HI.out]
    exact ⟨rfl, R2, But.trans (But.of hx) B2⟩
  | some r =>
    obtain ⟨u, m⟩ := r
    rw [got_some p bs hp u m hgr] at hres
    obtain ⟨rfl, rfl, rfl⟩ : r0 = unfoldZ u ∧ r1 = (p : Int) + m ∧ r2 = 0 := by simpa using hres
    have HI := Lib.hid (intR_some bs p u m hgr)
    clear hgr hres
    go_enter Try.func82, Try.ntmps82
    go_wp2_with (go_at_call 25; refine cr.mono ?_; rintro e w' ⟨rfl, rfl⟩)
    (refine wp_region_text (Old w) 15 (by kernel_rfl) (by kernel_rfl) (Below.refl _ w).drew ?_; simp only [List.take_succ_cons, List.take_zero, List.drop_succ_cons, List.drop_zero])
    repeat (first | (apply Text.sees (hw := by kernel_rfl); (focus (intro x hx K hK; have hc := CE.out x hx; go_simp; exact hK)); simp only [Act.put, List.getElem_toArray, List.getElem_cons_succ, List.getElem_cons_zero, List.setIfInBounds_toArray, List.set_cons_zero, List.set_cons_succ]) | (apply Text.idle; (focus (intro x hx K hK; go_simp; exact hK)); simp only [Act.put, List.getElem_toArray, List.getElem_cons_succ, List.getElem_cons_zero, List.setIfInBounds_toArray, List.set_cons_zero, List.set_cons_succ]))
    (refine Text.call (Old.call fun x hx => cg x hx) (by kernel_rfl) (fun _ => by kernel_rfl) ?_; simp only [Act.put, List.getElem_toArray, List.getElem_cons_succ, List.getElem_cons_zero, List.setIfInBounds_toArray, List.set_cons_zero, List.set_cons_succ])
    repeat (first | (apply Text.sees (hw := by kernel_rfl); (focus (intro x hx K hK; have hc := CE.out x hx; go_simp; exact hK)); simp only [Act.put, List.getElem_toArray, List.getElem_cons_succ, List.getElem_cons_zero, List.setIfInBounds_toArray, List.set_cons_zero, List.set_cons_succ]) | (apply Text.idle; (focus (intro x hx K hK; go_simp; exact hK)); simp only [Act.put, List.getElem_toArray, List.getElem_cons_succ, List.getElem_cons_zero, List.setIfInBounds_toArray, List.set_cons_zero, List.set_cons_succ]))
    intro x hx
    have Rx := hR.old hx
    have k1 := Rx.c1
    have k2 := Rx.fr 1
    go_wp2
    go_ret
    rw [HI.out]
    exact ⟨rfl, Rx.set1 _, (But.of hx).set 1 _⟩
theorem int_any (g : Nat) (a : Option Addr) (c : Nat) (bs : List Int) (p : Nat) (st : Bool) (hp : p ≤ bs.length) (hl : bs.length ≤ 1000000) (hB : Byt bs) (w : World) (hR : CdAt w g a c bs.length p st) (hr : Row w a c bs) :
    Calls Try.prog 82 #[.pointer (some ⟨g, 0, none⟩)] w fun e w' => e = .returned (.int .i64 (intR bs p st).1) ∧ CdAt w' g a c bs.length (intR bs p st).2.1 (intR bs p st).2.2 ∧ But g w w' := by
  cases st with
  | true => exact (int_stop g a c bs.length p w hR).mono fun e w' ⟨he, hw⟩ => by subst hw; exact ⟨he, hR, But.refl _ _⟩
  | false => exact int_go g a c bs p hp hl hB w hR hr

theorem count_nil (w : World) :
    Calls Try.prog 83 #[.pointer none] w fun e w' => e = .returned (.int .i64 0) ∧ w = w' := by
  have cr := right_nil w
  go_enter Try.func83, Try.ntmps83
  go_wp2_with (refine cr.mono ?_; rintro e w' ⟨rfl, rfl⟩)
  go_ret
  exact ⟨rfl, rfl⟩
theorem count_stop (g : Nat) (a : Option Addr) (c n : Nat) (p : Int) (w : World) (hR : CdAt w g a c n p true) :
    Calls Try.prog 83 #[.pointer (some ⟨g, 0, none⟩)] w fun e w' => e = .returned (.int .i64 0) ∧ w = w' := by
  have cr := right_any g a c n p true w hR
  rw [Bool.not_true] at cr
  go_enter Try.func83, Try.ntmps83
  go_wp2_with (refine cr.mono ?_; rintro e w' ⟨rfl, rfl⟩)
  go_ret
  exact ⟨rfl, rfl⟩
theorem count_go (g : Nat) (a : Option Addr) (c : Nat) (bs : List Int) (p : Nat) (hp : p ≤ bs.length) (hl : bs.length ≤ 1000000) (hB : Byt bs) (w : World) (hR : CdAt w g a c bs.length p false) (hr : Row w a c bs) :
    Calls Try.prog 83 #[.pointer (some ⟨g, 0, none⟩)] w fun e w' => e = .returned (.int .i64 (countR bs p false).1) ∧ CdAt w' g a c bs.length (countR bs p false).2.1 (countR bs p false).2.2 ∧ But g w w' := by
  have cr := right_any g a c bs.length p false w hR
  rw [Bool.not_false] at cr
  have ci := int_any g a c bs p false hp hl hB w hR hr
  have hle := intR_le bs p false hp hB
  have hin := intR_in bs p false hB
  have hcnt : countR bs p false = if (intR bs p false).1 < 0 ∨ (bs.length : Int) - (intR bs p false).2.1 < (intR bs p false).1 then (0, p, true) else intR bs p false := rfl
  obtain ⟨⟨x, q, t⟩, hI⟩ : ∃ r, r = intR bs p false := ⟨_, rfl⟩
  rw [← hI] at ci hle hin hcnt
  simp only at ci hle hin hcnt
  obtain ⟨hx0, hx1⟩ := hin
  clear hI
  have q1 := hR.c1
  have cl := fun y hy => left_any g a c bs.length q t hle.1 hl y hy
  by_cases h0 : x < 0
  · rw [if_pos (.inl h0)] at hcnt
    have HC := Lib.hid hcnt
    have e0 : decide (x < 0) = true := by simpa using h0
    clear hcnt
    go_enter Try.func83, Try.ntmps83
    go_wp2_with (first
      | (go_at_call 25; refine cr.mono ?_; rintro e w' ⟨rfl, rfl⟩)
      | (go_at_call 82; refine ci.mono ?_; rintro e w1 ⟨rfl, R1, B1⟩; clear q1; have d1 := R1.c1; have f1 := R1.fr 1)
      | (go_at_call 49; refine (stop_any g a c bs.length p t _ (R1.set1 p)).mono ?_; rintro e w2 ⟨rfl, R2, B2⟩))
    go_ret
    rw [HC.out]
    exact ⟨rfl, R2, But.trans (B1.set 1 _) B2⟩
  · have e0 : decide (x < 0) = false := by simpa using h0
    by_cases h1 : (bs.length : Int) - q < x
    · rw [if_pos (.inr h1)] at hcnt
      have HC := Lib.hid hcnt
      have e1 : decide ((bs.length : Int) - (q : Int) < x) = true := by simpa using h1
      clear hcnt
      go_enter Try.func83, Try.ntmps83
      go_wp2_with (first
        | (go_at_call 25; refine cr.mono ?_; rintro e w' ⟨rfl, rfl⟩)
        | (go_at_call 82; refine ci.mono ?_; rintro e w1 ⟨rfl, R1, B1⟩; clear q1; have d1 := R1.c1; have f1 := R1.fr 1)
        | (go_at_call 37; refine (cl _ R1).mono ?_; rintro e w3 ⟨rfl, b3⟩; have R3 := R1.old b3; have B3 := But.step B1 b3; clear d1 f1 R1 B1; have d1 := R3.c1; have f1 := R3.fr 1)
        | (go_at_call 49; refine (stop_any g a c bs.length p t _ (R3.set1 p)).mono ?_; rintro e w2 ⟨rfl, R2, B2⟩))
      go_ret
      rw [HC.out]
      exact ⟨rfl, R2, But.trans (B3.set 1 _) B2⟩
    · rw [if_neg (by omega)] at hcnt
      have HC := Lib.hid hcnt
      have e1 : decide ((bs.length : Int) - (q : Int) < x) = false := by simpa using h1
      clear hcnt
      go_enter Try.func83, Try.ntmps83
      go_wp2_with (first
        | (go_at_call 25; refine cr.mono ?_; rintro e w' ⟨rfl, rfl⟩)
        | (go_at_call 82; refine ci.mono ?_; rintro e w1 ⟨rfl, R1, B1⟩; clear q1; have d1 := R1.c1; have f1 := R1.fr 1)
        | (go_at_call 37; refine (cl _ R1).mono ?_; rintro e w3 ⟨rfl, b3⟩))
      go_ret
      rw [HC.out]
      exact ⟨rfl, R1.old b3, But.step B1 b3⟩
theorem countR_stop (bs : List Int) (p : Nat) (hp : p ≤ bs.length) : countR bs p true = (0, p, true) := by
  unfold countR
  rw [intR_stop]
  rw [if_neg (by simp only; omega)]
theorem count_any (g : Nat) (a : Option Addr) (c : Nat) (bs : List Int) (p : Nat) (st : Bool) (hp : p ≤ bs.length) (hl : bs.length ≤ 1000000) (hB : Byt bs) (w : World) (hR : CdAt w g a c bs.length p st) (hr : Row w a c bs) :
    Calls Try.prog 83 #[.pointer (some ⟨g, 0, none⟩)] w fun e w' => e = .returned (.int .i64 (countR bs p st).1) ∧ CdAt w' g a c bs.length (countR bs p st).2.1 (countR bs p st).2.2 ∧ But g w w' := by
  cases st with
  | true =>
    rw [countR_stop bs p hp]
    exact (count_stop g a c bs.length p w hR).mono fun e w' ⟨he, hw⟩ => by subst hw; exact ⟨he, hR, But.refl _ _⟩
  | false => exact count_go g a c bs p hp hl hB w hR hr
end Go.Proofs.Ytjfjekncmejfpaa
namespace Go.Proofs.Ytjfjekncmejfpaa
open Go.RowKit
set_option maxRecDepth 20000
set_option linter.unusedVariables false
set_option linter.unusedSimpArgs false

theorem OwnK.nil (k : IntKind) (e : TypeId) (w : World) (B : Nat) : OwnK k e w B (.slice none 0 0) [] := World.ownsRow_nil _ _ _ _
theorem CdAt.kept {k : IntKind} {e : TypeId} {w w' : World} {B g : Nat} {v : Value} {l : List Int} {a : Option Addr} {c n : Nat} {p : Int} {st : Bool} (hR : CdAt w g a c n p st) (h : OwnK k e w B v l) (hg : w.grownBy w' v.ownBlock) (hB : g < B) : CdAt w' g a c n p st :=
  (hg.block g hR.lt (fun e => by have := (World.ownsRow.lt h g e.symm).1; omega)).trans hR
theorem many_two (bs : List Int) (j p : Nat) (st : Bool) : (manyR bs (j + 1) p st).2 = (manyR bs j (intR bs p st).2.1 (intR bs p st).2.2).2 := by
  cases st with
  | true => rw [many_stop, intR_stop, many_stop]
  | false => simp [manyR]
theorem many_one (bs : List Int) (j p : Nat) (st : Bool) (h : (intR bs p st).2.2 = false) : st = false ∧ (manyR bs (j + 1) p st).1 = (intR bs p st).1 :: (manyR bs j (intR bs p st).2.1 false).1 := by
  cases st with
  | true => rw [intR_stop] at h; cases h
  | false => exact ⟨rfl, by simp [manyR, h]⟩
theorem fn_eq_int (f : Nat) (p : Value) (w : World) : Sem.run Try.prog (binOp BinOp.eql 125 (Value.func (Fn.func f) #[p] #[]) Value.nilFunc) w = .ok (.bool false) w := by
  kernel_rfl
end Go.Proofs.Ytjfjekncmejfpaa
