/- The document's Reader: where it lies; Int, Count. -/
import Derived.Test.YtbadkfocfgojlaaXOp
import Derived.Test.YtbadkfocfgojlaaVRget
import Derived.Test.YtbadkfocfgojlaaDetV
import Derived.Deep.CutBlock
import Derived.Deep.DeepCutAuto
namespace Go.Proofs.Ytbadkfocfgojlaa
open Go.RowKit
set_option linter.unusedVariables false
set_option linter.unusedSimpArgs false

/-- What Int reads at a place: the number, the place behind, whether it has stopped. -/
def intR (bs : List Int) (p : Nat) (st : Bool) : Int × Nat × Bool :=
  if st then (0, p, true) else match getR (bs.drop p) 0 0 with | none => (0, p, true) | some (u, m) => (unfoldZ u, p + m, false)
theorem intR_stop (bs : List Int) (p : Nat) : intR bs p true = (0, p, true) := rfl
theorem intR_none (bs : List Int) (p : Nat) (h : getR (bs.drop p) 0 0 = none) : intR bs p false = (0, p, true) := by unfold intR; rw [h]; rfl
theorem intR_some (bs : List Int) (p : Nat) (u : Int) (m : Nat) (h : getR (bs.drop p) 0 0 = some (u, m)) : intR bs p false = (unfoldZ u, p + m, false) := by unfold intR; rw [h]; rfl
theorem intR_le (bs : List Int) (p : Nat) (st : Bool) (hp : p ≤ bs.length) (hB : Byt bs) : (intR bs p st).2.1 ≤ bs.length ∧ p ≤ (intR bs p st).2.1 := by
  cases st with
  | true => exact ⟨hp, Nat.le_refl _⟩
  | false =>
    cases hg : getR (bs.drop p) 0 0 with
    | none => rw [intR_none bs p hg]; exact ⟨hp, Nat.le_refl _⟩
    | some r =>
      obtain ⟨u, m⟩ := r
      rw [intR_some bs p u m hg]
      obtain ⟨_, _, _, hml, _⟩ := get_sound (fun x hx => hB x (List.mem_of_mem_drop hx)) hg
      simp only [List.length_drop] at hml
      exact ⟨by show p + m ≤ _; omega, Nat.le_add_right _ _⟩
theorem intR_in (bs : List Int) (p : Nat) (st : Bool) (hB : Byt bs) : in64 (intR bs p st).1 := by
  cases st with
  | true => rw [intR_stop]; exact ⟨by show (-9223372036854775808 : Int) ≤ 0; decide, by show (0 : Int) ≤ 9223372036854775807; decide⟩
  | false =>
    cases hg : getR (bs.drop p) 0 0 with
    | none => rw [intR_none bs p hg]; exact ⟨by show (-9223372036854775808 : Int) ≤ 0; decide, by show (0 : Int) ≤ 9223372036854775807; decide⟩
    | some r =>
      obtain ⟨u, m⟩ := r
      rw [intR_some bs p u m hg]
      obtain ⟨h0, h1, _⟩ := get_sound (fun x hx => hB x (List.mem_of_mem_drop hx)) hg
      exact unfold_range u h0 h1
/-- A reader lies in block g. -/
def RdAt (w : World) (g : Nat) (a : Option Addr) (c n : Nat) (p : Int) (st : Bool) : Prop := w.heap[g]? = some (.cells #[.slice a n c, .int .i64 p, .bool st] 32 (0, 0))
section
variable {w w' : World} {g : Nat} {a : Option Addr} {c n : Nat} {p : Int} {st : Bool}
theorem RdAt.lt (h : RdAt w g a c n p st) : g < w.heap.size := (Array.getElem?_eq_some_iff.1 h).1
theorem RdAt.c0 (h : RdAt w g a c n p st) : w.cell? ⟨g, 0, none⟩ = some (.slice a n c) := (cell_of_row w g 0 _ _ _ h).trans rfl
theorem RdAt.c1 (h : RdAt w g a c n p st) : w.cell? ⟨g, 1, none⟩ = some (.int .i64 p) := (cell_of_row w g 1 _ _ _ h).trans rfl
theorem RdAt.c2 (h : RdAt w g a c n p st) : w.cell? ⟨g, 2, none⟩ = some (.bool st) := (cell_of_row w g 2 _ _ _ h).trans rfl
theorem RdAt.fr (h : RdAt w g a c n p st) (j : Nat) : w.frozen? ⟨g, j, none⟩ = false := frozen_of_row w g j _ _ h
theorem RdAt.set1 (h : RdAt w g a c n p st) (q : Int) : RdAt (w.setCell ⟨g, 1, none⟩ (.int .i64 q)) g a c n q st := heap_setCell_same w g 1 _ _ _ h
theorem RdAt.set2 (h : RdAt w g a c n p st) (q : Bool) : RdAt (w.setCell ⟨g, 2, none⟩ (.bool q)) g a c n p q := heap_setCell_same w g 2 _ _ _ h
theorem RdAt.below (h : RdAt w g a c n p st) {B : Nat} (hb : Below B w w') (hg : g < B) : RdAt w' g a c n p st := (hb.block g hg).trans h
theorem RdAt.far (h : RdAt w g a c n p st) {g' : Nat} (hg : g ≠ g') (u : Value) (j : Nat) : RdAt (w.setCell ⟨g', j, none⟩ u) g a c n p st := (heap_setCell_other w ⟨g', j, none⟩ g u hg).trans h
end
/-- Only block g has turned, and what is new. -/
abbrev But (g : Nat) (w w' : World) : Prop := w.grownBy w' (some g)
theorem But.refl (g : Nat) (w : World) : But g w w := ⟨rfl, rfl, rfl, Nat.le_refl _, fun _ _ _ => rfl⟩
theorem But.trans {g : Nat} {a b c : World} (h : But g a b) (k : But g b c) : But g a c :=
  ⟨k.os.trans h.os, k.tape.trans h.tape, k.output.trans h.output, Nat.le_trans h.size k.size, fun i hi hn => (k.block i (Nat.lt_of_lt_of_le hi h.size) hn).trans (h.block i hi hn)⟩
theorem But.of {g : Nat} {w w' : World} (h : Below w.heap.size w w') : But g w w' := ⟨h.os, h.tape, h.output, h.size, fun i hi _ => h.block i hi⟩
theorem But.set {g : Nat} {w w' : World} (h : But g w w') (j : Nat) (u : Value) : But g w (w'.setCell ⟨g, j, none⟩ u) :=
  ⟨h.os, h.tape, h.output, by simpa [World.setCell] using h.size, fun i hi hn => (heap_setCell_other w' ⟨g, j, none⟩ i u (fun e => hn (by rw [e]))).trans (h.block i hi hn)⟩
theorem But.below {g B : Nat} {w w' : World} (h : But g w w') (hg : B ≤ g) (hB : B ≤ w.heap.size) : Below B w w' :=
  ⟨h.os, h.tape, h.output, h.size, fun i hi => h.block i (by omega) (fun e => by injection e with e; omega)⟩
theorem row_ne {w : World} {g b o : Nat} {a : Option Addr} {c n : Nat} {p : Int} {st : Bool} {z : Int} (h : RdAt w g a c n p st) (hc : w.cell? ⟨b, o, none⟩ = some (.int .u8 z)) : b ≠ g := by
  rintro rfl
  rw [cell_of_row w b o _ _ _ h] at hc
  match o, hc with
  | 0, hc => simp at hc
  | 1, hc => simp at hc
  | 2, hc => simp at hc
  | o + 3, hc => simp at hc
theorem Row.but {w w' : World} {g : Nat} {a a' : Option Addr} {c c' n : Nat} {p : Int} {st : Bool} {l : List Int} (hr : Row w a c l) (h : RdAt w g a' c' n p st) (hb : But g w w') : Row w' a c l := ⟨hr.1, fun k hk => by
  obtain ⟨b, off, rfl, hB, hc⟩ := hr.2 k hk
  have hne := row_ne h hc
  exact ⟨b, off, rfl, Nat.lt_of_lt_of_le hB hb.size, (World.cell?_of_block (hb.block b hB (fun e => hne (by injection e)))).trans hc⟩⟩

theorem mk_got {ops : Array Oper} (i d : Nat) (o : Oper) (ho : ops[i]? = some o) (hop : o.op = .alloc 67) (hd : o.dst = some d) (hg : o.guard = none) : Makes Try.prog ops i (.cells #[.int .i64 0, .int .i64 0, .int .i64 0] 67) :=
  ⟨o, d, ho, hd, fun y => by simp [Region.wanted, hg], fun a w => by
    unfold execOp
    simp only [hop]
    simp [go_sem, newVar]⟩
/-- A Got in block g. -/
def GotAt (w : World) (g : Nat) (x y z : Int) : Prop := w.heap[g]? = some (.cells #[.int .i64 x, .int .i64 y, .int .i64 z] 67 (0, 0))
theorem GotAt.c0 {w : World} {g : Nat} {x y z : Int} (h : GotAt w g x y z) : w.cell? ⟨g, 0, none⟩ = some (.int .i64 x) := (cell_of_row w g 0 _ _ _ h).trans rfl
theorem GotAt.c1 {w : World} {g : Nat} {x y z : Int} (h : GotAt w g x y z) : w.cell? ⟨g, 1, none⟩ = some (.int .i64 y) := (cell_of_row w g 1 _ _ _ h).trans rfl
theorem GotAt.c2 {w : World} {g : Nat} {x y z : Int} (h : GotAt w g x y z) : w.cell? ⟨g, 2, none⟩ = some (.int .i64 z) := (cell_of_row w g 2 _ _ _ h).trans rfl
theorem GotAt.fr {w : World} {g : Nat} {x y z : Int} (h : GotAt w g x y z) (j : Nat) : w.frozen? ⟨g, j, none⟩ = false := frozen_of_row w g j _ _ h
theorem GotAt.set {w : World} {g : Nat} {x y z : Int} (h : GotAt w g x y z) (x' y' z' : Int) : GotAt (((w.setCell ⟨g, 0, none⟩ (.int .i64 x')).setCell ⟨g, 1, none⟩ (.int .i64 y')).setCell ⟨g, 2, none⟩ (.int .i64 z')) g x' y' z' := by
  have h1 : (w.setCell ⟨g, 0, none⟩ (.int .i64 x')).heap[g]? = some (.cells #[.int .i64 x', .int .i64 y, .int .i64 z] 67 (0, 0)) := heap_setCell_same w g 0 _ _ _ h
  have h2 : ((w.setCell ⟨g, 0, none⟩ (.int .i64 x')).setCell ⟨g, 1, none⟩ (.int .i64 y')).heap[g]? = some (.cells #[.int .i64 x', .int .i64 y', .int .i64 z] 67 (0, 0)) := heap_setCell_same _ g 1 _ _ _ h1
  exact heap_setCell_same _ g 2 _ _ _ h2
theorem rint_stop (g : Nat) (a : Option Addr) (c n : Nat) (p : Int) (w : World) (hR : RdAt w g a c n p true) :
    Calls Try.prog 33 #[.pointer (some ⟨g, 0, none⟩)] w fun e w' => e = .returned (.int .i64 0) ∧ w = w' := by
  have c2 := hR.c2
  go_enter Try.func33, Try.ntmps33
  go_wp2
  go_ret
  exact ⟨rfl, rfl⟩
theorem rint_go (g : Nat) (a : Option Addr) (c : Nat) (bs : List Int) (p : Nat) (hp : p ≤ bs.length) (hl : bs.length ≤ 1000000) (hB : Byt bs) (w : World) (hR : RdAt w g a c bs.length p false) (hr : Row w a c bs) :
    Calls Try.prog 33 #[.pointer (some ⟨g, 0, none⟩)] w fun e w' => e = .returned (.int .i64 (intR bs p false).1) ∧ RdAt w' g a c bs.length (intR bs p false).2.1 (intR bs p false).2.2 ∧ But g w w' := by
  have cg := fun x hx => rget_any a c bs p hl hB x (hr.carry hx)
  have c2 := hR.c2
  have hg := hR.lt
  have CE := Lib.hid (show ∀ x, Old w x → (x.cell? ⟨g, 0, none⟩ = some (.slice a bs.length c) ∧ x.cell? ⟨g, 1, none⟩ = some (.int .i64 p)) from fun x hx => ⟨(hR.below hx hg).c0, (hR.below hx hg).c1⟩)
  obtain ⟨⟨r0, r1, r2⟩, hres⟩ : ∃ r, r = gotR p bs := ⟨_, rfl⟩
  rw [← hres] at cg
  unfold agg3 at cg
  go_enter Try.func33, Try.ntmps33
  go_wp2_with fail
  (refine wp_region_textW (fun _ => .cells #[.int .i64 0, .int .i64 0, .int .i64 0] 67) 9 10 (by kernel_rfl) (by kernel_rfl) (by kernel_rfl) (by kernel_rfl) (fun i h1 h2 => by rcases (show i = 9 by omega) with rfl; exact mk_got 9 3 _ rfl rfl rfl rfl) ?_; simp only [List.take_succ_cons, List.take_zero, List.drop_succ_cons, List.drop_zero])
  repeat (apply TextW.sees (hw := by kernel_rfl) (hk := by decide); (focus (intro x hx K hK; have hc := CE.out x hx; go_simp; exact hK)); simp only [Act.put, List.getElem_toArray, List.getElem_cons_succ, List.getElem_cons_zero, List.setIfInBounds_toArray, List.set_cons_zero, List.set_cons_succ])
  (refine TextW.call (fun x hx => cg x hx) (by kernel_rfl) (fun _ => by kernel_rfl) (by decide) ?_; simp only [Act.put, List.getElem_toArray, List.getElem_cons_succ, List.getElem_cons_zero, List.setIfInBounds_toArray, List.set_cons_zero, List.set_cons_succ])
  (refine TextW.make (by decide) fun g7 => ?_; simp only [Act.put, List.getElem_toArray, List.getElem_cons_succ, List.getElem_cons_zero, List.setIfInBounds_toArray, List.set_cons_zero, List.set_cons_succ])
  intro y hy listed hl' hM
  obtain ⟨L7, H7⟩ := hM.one (i := 9) (g := g7) (by decide) (hl' 9 (by decide)) rfl rfl rfl
  clear hM hl'
  have G7 : GotAt y g7 0 0 0 := H7
  have k0 := G7.c0
  have k1 := G7.c1
  have k2 := G7.c2
  have k3 := G7.fr 0
  have k4 := G7.fr 1
  have k5 := G7.fr 2
  have N7 := G7.set r0 r1 r2
  have hy2 := bel_set3 hy g7 L7 (.int .i64 r0) (.int .i64 r1) (.int .i64 r2)
  go_upto_region 4 with (fail)
  generalize ((y.setCell ⟨g7, 0, none⟩ (.int .i64 r0)).setCell ⟨g7, 1, none⟩ (.int .i64 r1)).setCell ⟨g7, 2, none⟩ (.int .i64 r2) = V at N7 hy2 ⊢
  have RV := hR.below hy2 hg
  clear k0 k1 k2 k3 k4 k5 G7 H7 hy CE cg
  have n0 := N7.c0
  have n1 := N7.c1
  have n2 := N7.c2
  have q0 := RV.c0
  have q1 := RV.c1
  have q2 := RV.c2
  have f1 := RV.fr 1
  have f2 := RV.fr 2
  have hne : ¬ g7 = g := by omega
  cases hgr : getR (bs.drop p) 0 0 with
  | none =>
    rw [got_none p bs hp hgr] at hres
    obtain ⟨rfl, rfl, rfl⟩ : r0 = 0 ∧ r1 = 0 ∧ r2 = 2 := by simpa using hres
    have HI := Lib.hid (intR_none bs p hgr)
    clear hgr hres
    go_wp2_with fail
    go_ret
    rw [HI.out]
    exact ⟨rfl, RV.set2 true, (But.of hy2).set 2 _⟩
  | some r =>
    obtain ⟨u, m⟩ := r
    rw [got_some p bs hp u m hgr] at hres
    obtain ⟨rfl, rfl, rfl⟩ : r0 = unfoldZ u ∧ r1 = (p : Int) + m ∧ r2 = 0 := by simpa using hres
    have HI := Lib.hid (intR_some bs p u m hgr)
    clear hgr hres
    go_wp2_with fail
    go_ret
    rw [HI.out]
    exact ⟨rfl, RV.set1 _, (But.of hy2).set 1 _⟩
theorem rint_any (g : Nat) (a : Option Addr) (c : Nat) (bs : List Int) (p : Nat) (st : Bool) (hp : p ≤ bs.length) (hl : bs.length ≤ 1000000) (hB : Byt bs) (w : World) (hR : RdAt w g a c bs.length p st) (hr : Row w a c bs) :
    Calls Try.prog 33 #[.pointer (some ⟨g, 0, none⟩)] w fun e w' => e = .returned (.int .i64 (intR bs p st).1) ∧ RdAt w' g a c bs.length (intR bs p st).2.1 (intR bs p st).2.2 ∧ But g w w' := by
  cases st with
  | true => exact (rint_stop g a c bs.length p w hR).mono fun e w' ⟨he, hw⟩ => by subst hw; exact ⟨he, hR, But.refl _ _⟩
  | false => exact rint_go g a c bs p hp hl hB w hR hr
end Go.Proofs.Ytbadkfocfgojlaa
