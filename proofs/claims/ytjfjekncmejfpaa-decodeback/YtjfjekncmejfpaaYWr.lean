/- The document's Reader: where it lies; Int, Count. Package codec's Writer. -/
import Derived.Test.YtjfjekncmejfpaaYStr
import Derived.Test.YtjfjekncmejfpaaVRget
import Derived.Test.YtjfjekncmejfpaaDetU
import Derived.Deep.CutBlock
import Derived.Deep.DeepCutAuto
namespace Go.Proofs.Ytjfjekncmejfpaa
open Go.RowKit
set_option maxRecDepth 20000
set_option linter.unusedVariables false
set_option linter.unusedSimpArgs false

/-- What Int reads at a place: the number, the place behind, whether it has stopped. -/
def intR (bs : List Int) (p : Nat) (st : Bool) : Int × Nat × Bool :=
  if st then (0, p, true) else match getR (bs.drop p) 0 0 with | none => (0, p, true) | some (u, m) => (unfoldZ u, p + m, false)
theorem intR_stop (bs : List Int) (p : Nat) : intR bs p true = (0, p, true) := rfl
theorem intR_none (bs : List Int) (p : Nat) (h : getR (bs.drop p) 0 0 = none) : intR bs p false = (0, p, true) := by unfold intR; rw [h]; rfl
theorem intR_some (bs : List Int) (p : Nat) (u : Int) (m : Nat) (h : getR (bs.drop p) 0 0 = some (u, m)) : intR bs p false = (unfoldZ u, p + m, false) := by unfold intR; rw [h]; rfl
theorem intR_le (bs : List Int) (p : Nat) (st : Bool) (hp : p ≤ bs.length) (hB : Byt bs) : (intR bs p st).2.1 ≤ bs.length ∧ p ≤ (intR bs p st).2.1 := by
  cases st with
  | true => exact ⟨hp, Nat.le_refl _⟩
  | false =>
    cases hg : getR (bs.drop p) 0 0 with
    | none => rw [intR_none bs p hg]; exact ⟨hp, Nat.le_refl _⟩
    | some r =>
      obtain ⟨u, m⟩ := r
      rw [intR_some bs p u m hg]
      obtain ⟨_, _, _, hml, _⟩ := get_sound (fun x hx => hB x (List.mem_of_mem_drop hx)) hg
      simp only [List.length_drop] at hml
      exact ⟨by show p + m ≤ _; omega, Nat.le_add_right _ _⟩
theorem intR_in (bs : List Int) (p : Nat) (st : Bool) (hB : Byt bs) : in64 (intR bs p st).1 := by
  cases st with
  | true => rw [intR_stop]; exact ⟨by show (-9223372036854775808 : Int) ≤ 0; decide, by show (0 : Int) ≤ 9223372036854775807; decide⟩
  | false =>
    cases hg : getR (bs.drop p) 0 0 with
    | none => rw [intR_none bs p hg]; exact ⟨by show (-9223372036854775808 : Int) ≤ 0; decide, by show (0 : Int) ≤ 9223372036854775807; decide⟩
    | some r =>
      obtain ⟨u, m⟩ := r
      rw [intR_some bs p u m hg]
      obtain ⟨h0, h1, _⟩ := get_sound (fun x hx => hB x (List.mem_of_mem_drop hx)) hg
      exact unfold_range u h0 h1
/-- A reader lies in block g. -/
def RdAt (w : World) (g : Nat) (a : Option Addr) (c n : Nat) (p : Int) (st : Bool) : Prop := w.heap[g]? = some (.cells #[.slice a n c, .int .i64 p, .bool st] 61 (0, 0))
section
variable {w w' : World} {g : Nat} {a : Option Addr} {c n : Nat} {p : Int} {st : Bool}
theorem RdAt.lt (h : RdAt w g a c n p st) : g < w.heap.size := (Array.getElem?_eq_some_iff.1 h).1
theorem RdAt.c0 (h : RdAt w g a c n p st) : w.cell? ⟨g, 0, none⟩ = some (.slice a n c) := (cell_of_row w g 0 _ _ _ h).trans rfl
theorem RdAt.c1 (h : RdAt w g a c n p st) : w.cell? ⟨g, 1, none⟩ = some (.int .i64 p) := (cell_of_row w g 1 _ _ _ h).trans rfl
theorem RdAt.c2 (h : RdAt w g a c n p st) : w.cell? ⟨g, 2, none⟩ = some (.bool st) := (cell_of_row w g 2 _ _ _ h).trans rfl
theorem RdAt.fr (h : RdAt w g a c n p st) (j : Nat) : w.frozen? ⟨g, j, none⟩ = false := frozen_of_row w g j _ _ h
theorem RdAt.set1 (h : RdAt w g a c n p st) (q : Int) : RdAt (w.setCell ⟨g, 1, none⟩ (.int .i64 q)) g a c n q st := heap_setCell_same w g 1 _ _ _ h
theorem RdAt.set2 (h : RdAt w g a c n p st) (q : Bool) : RdAt (w.setCell ⟨g, 2, none⟩ (.bool q)) g a c n p q := heap_setCell_same w g 2 _ _ _ h
theorem RdAt.below (h : RdAt w g a c n p st) {B : Nat} (hb : Below B w w') (hg : g < B) : RdAt w' g a c n p st := (hb.block g hg).trans h
theorem RdAt.far (h : RdAt w g a c n p st) {g' : Nat} (hg : g ≠ g') (u : Value) (j : Nat) : RdAt (w.setCell ⟨g', j, none⟩ u) g a c n p st := (heap_setCell_other w ⟨g', j, none⟩ g u hg).trans h
end
/-- Only block g has turned, and what is new. -/
abbrev But (g : Nat) (w w' : World) : Prop := w.grownBy w' (some g)
theorem But.refl (g : Nat) (w : World) : But g w w := ⟨rfl, rfl, rfl, Nat.le_refl _, fun _ _ _ => rfl⟩
theorem But.trans {g : Nat} {a b c : World} (h : But g a b) (k : But g b c) : But g a c :=
  ⟨k.os.trans h.os, k.tape.trans h.tape, k.output.trans h.output, Nat.le_trans h.size k.size, fun i hi hn => (k.block i (Nat.lt_of_lt_of_le hi h.size) hn).trans (h.block i hi hn)⟩
theorem But.of {g : Nat} {w w' : World} (h : Below w.heap.size w w') : But g w w' := ⟨h.os, h.tape, h.output, h.size, fun i hi _ => h.block i hi⟩
theorem But.set {g : Nat} {w w' : World} (h : But g w w') (j : Nat) (u : Value) : But g w (w'.setCell ⟨g, j, none⟩ u) :=
  ⟨h.os, h.tape, h.output, by simpa [World.setCell] using h.size, fun i hi hn => (heap_setCell_other w' ⟨g, j, none⟩ i u (fun e => hn (by rw [e]))).trans (h.block i hi hn)⟩
theorem But.below {g B : Nat} {w w' : World} (h : But g w w') (hg : B ≤ g) (hB : B ≤ w.heap.size) : Below B w w' :=
  ⟨h.os, h.tape, h.output, h.size, fun i hi => h.block i (by omega) (fun e => by injection e with e; omega)⟩
theorem row_ne {w : World} {g b o : Nat} {a : Option Addr} {c n : Nat} {p : Int} {st : Bool} {z : Int} (h : RdAt w g a c n p st) (hc : w.cell? ⟨b, o, none⟩ = some (.int .u8 z)) : b ≠ g := by
  rintro rfl
  rw [cell_of_row w b o _ _ _ h] at hc
  match o, hc with
  | 0, hc => simp at hc
  | 1, hc => simp at hc
  | 2, hc => simp at hc
  | o + 3, hc => simp at hc
theorem Row.but {w w' : World} {g : Nat} {a a' : Option Addr} {c c' n : Nat} {p : Int} {st : Bool} {l : List Int} (hr : Row w a c l) (h : RdAt w g a' c' n p st) (hb : But g w w') : Row w' a c l := ⟨hr.1, fun k hk => by
  obtain ⟨b, off, rfl, hB, hc⟩ := hr.2 k hk
  have hne := row_ne h hc
  exact ⟨b, off, rfl, Nat.lt_of_lt_of_le hB hb.size, (World.cell?_of_block (hb.block b hB (fun e => hne (by injection e)))).trans hc⟩⟩

theorem mk_got {ops : Array Oper} (i d : Nat) (o : Oper) (ho : ops[i]? = some o) (hop : o.op = .alloc 134) (hd : o.dst = some d) (hg : o.guard = none) : Makes Try.prog ops i (.cells #[.int .i64 0, .int .i64 0, .int .i64 0] 134) :=
  ⟨o, d, ho, hd, fun y => by simp [Region.wanted, hg], fun a w => by
    unfold execOp
    simp only [hop]
    simp [go_sem, newVar]⟩
/-- A Got in block g. -/
def GotAt (w : World) (g : Nat) (x y z : Int) : Prop := w.heap[g]? = some (.cells #[.int .i64 x, .int .i64 y, .int .i64 z] 134 (0, 0))
theorem GotAt.c0 {w : World} {g : Nat} {x y z : Int} (h : GotAt w g x y z) : w.cell? ⟨g, 0, none⟩ = some (.int .i64 x) := (cell_of_row w g 0 _ _ _ h).trans rfl
theorem GotAt.c1 {w : World} {g : Nat} {x y z : Int} (h : GotAt w g x y z) : w.cell? ⟨g, 1, none⟩ = some (.int .i64 y) := (cell_of_row w g 1 _ _ _ h).trans rfl
theorem GotAt.c2 {w : World} {g : Nat} {x y z : Int} (h : GotAt w g x y z) : w.cell? ⟨g, 2, none⟩ = some (.int .i64 z) := (cell_of_row w g 2 _ _ _ h).trans rfl
theorem GotAt.fr {w : World} {g : Nat} {x y z : Int} (h : GotAt w g x y z) (j : Nat) : w.frozen? ⟨g, j, none⟩ = false := frozen_of_row w g j _ _ h
theorem GotAt.set {w : World} {g : Nat} {x y z : Int} (h : GotAt w g x y z) (x' y' z' : Int) : GotAt (((w.setCell ⟨g, 0, none⟩ (.int .i64 x')).setCell ⟨g, 1, none⟩ (.int .i64 y')).setCell ⟨g, 2, none⟩ (.int .i64 z')) g x' y' z' := by
  have h1 : (w.setCell ⟨g, 0, none⟩ (.int .i64 x')).heap[g]? = some (.cells #[.int .i64 x', .int .i64 y, .int .i64 z] 134 (0, 0)) := heap_setCell_same w g 0 _ _ _ h
  have h2 : ((w.setCell ⟨g, 0, none⟩ (.int .i64 x')).setCell ⟨g, 1, none⟩ (.int .i64 y')).heap[g]? = some (.cells #[.int .i64 x', .int .i64 y', .int .i64 z] 134 (0, 0)) := heap_setCell_same _ g 1 _ _ _ h1
  exact heap_setCell_same _ g 2 _ _ _ h2
theorem rint_stop (g : Nat) (a : Option Addr) (c n : Nat) (p : Int) (w : World) (hR : RdAt w g a c n p true) :
    Calls Try.prog 63 #[.pointer (some ⟨g, 0, none⟩)] w fun e w' => e = .returned (.int .i64 0) ∧ w = w' := by
  have c2 := hR.c2
  go_enter Try.func63, Try.ntmps63
  go_wp2
  go_ret
  exact ⟨rfl, rfl⟩
theorem rint_go (g : Nat) (a : Option Addr) (c : Nat) (bs : List Int) (p : Nat) (hp : p ≤ bs.length) (hl : bs.length ≤ 1000000) (hB : Byt bs) (w : World) (hR : RdAt w g a c bs.length p false) (hr : Row w a c bs) :
    Calls Try.prog 63 #[.pointer (some ⟨g, 0, none⟩)] w fun e w' => e = .returned (.int .i64 (intR bs p false).1) ∧ RdAt w' g a c bs.length (intR bs p false).2.1 (intR bs p false).2.2 ∧ But g w w' := by
  have cg := fun x hx => rget_any a c bs p hl hB x (hr.carry hx)
  have c2 := hR.c2
  have hg := hR.lt
  have CE := Lib.hid (show ∀ x, Old w x → (x.cell? ⟨g, 0, none⟩ = some (.slice a bs.length c) ∧ x.cell? ⟨g, 1, none⟩ = some (.int .i64 p)) from fun x hx => ⟨(hR.below hx hg).c0, (hR.below hx hg).c1⟩)
  obtain ⟨⟨r0, r1, r2⟩, hres⟩ : ∃ r, r = gotR p bs := ⟨_, rfl⟩
  rw [← hres] at cg
  unfold agg3 at cg
  go_enter Try.func63, Try.ntmps63
  go_wp2_with fail
  (refine wp_region_textW (fun _ => .cells #[.int .i64 0, .int .i64 0, .int .i64 0] 134) 9 10 (by kernel_rfl) (by kernel_rfl) (by kernel_rfl) (by kernel_rfl) (fun i h1 h2 => by rcases (show i = 9 by omega) with rfl; exact mk_got 9 3 _ rfl rfl rfl rfl) ?_; simp only [List.take_succ_cons, List.take_zero, List.drop_succ_cons, List.drop_zero])
  repeat (apply TextW.sees (hw := by kernel_rfl) (hk := by decide); (focus (intro x hx K hK; have hc := CE.out x hx; go_simp; exact hK)); simp only [Act.put, List.getElem_toArray, List.getElem_cons_succ, List.getElem_cons_zero, List.setIfInBounds_toArray, List.set_cons_zero, List.set_cons_succ])
  (refine TextW.call (fun x hx => cg x hx) (by kernel_rfl) (fun _ => by kernel_rfl) (by decide) ?_; simp only [Act.put, List.getElem_toArray, List.getElem_cons_succ, List.getElem_cons_zero, List.setIfInBounds_toArray, List.set_cons_zero, List.set_cons_succ])
  (refine TextW.make (by decide) fun g7 => ?_; simp only [Act.put, List.getElem_toArray, List.getElem_cons_succ, List.getElem_cons_zero, List.setIfInBounds_toArray, List.set_cons_zero, List.set_cons_succ])
  intro y hy listed hl' hM
  obtain ⟨L7, H7⟩ := hM.one (i := 9) (g := g7) (by decide) (hl' 9 (by decide)) rfl rfl rfl
  clear hM hl'
  have G7 : GotAt y g7 0 0 0 := H7
  have k0 := G7.c0
  have k1 := G7.c1
  have k2 := G7.c2
  have k3 := G7.fr 0
  have k4 := G7.fr 1
  have k5 := G7.fr 2
  have N7 := G7.set r0 r1 r2
  have hy2 := bel_set3 hy g7 L7 (.int .i64 r0) (.int .i64 r1) (.int .i64 r2)
  go_upto_region 4 with (fail)
  generalize ((y.setCell ⟨g7, 0, none⟩ (.int .i64 r0)).setCell ⟨g7, 1, none⟩ (.int .i64 r1)).setCell ⟨g7, 2, none⟩ (.int .i64 r2) = V at N7 hy2 ⊢
  have RV := hR.below hy2 hg
  clear k0 k1 k2 k3 k4 k5 G7 H7 hy CE cg
  have n0 := N7.c0
  have n1 := N7.c1
  have n2 := N7.c2
  have q0 := RV.c0
  have q1 := RV.c1
  have q2 := RV.c2
  have f1 := RV.fr 1
  have f2 := RV.fr 2
  have hne : ¬ g7 = g := by omega
  cases hgr : getR (bs.drop p) 0 0 with
  | none =>
    rw [got_none p bs hp hgr] at hres
    obtain ⟨rfl, rfl, rfl⟩ : r0 = 0 ∧ r1 = 0 ∧ r2 = 2 := by simpa using hres
    have HI := Lib.hid (intR_none bs p hgr)
    clear hgr hres
    go_wp2_with fail
    go_ret
    rw [HI.out]
    exact ⟨rfl, RV.set2 true, (But.of hy2).set 2 _⟩
  | some r =>
    obtain ⟨u, m⟩ := r
    rw [got_some p bs hp u m hgr] at hres
    obtain ⟨rfl, rfl, rfl⟩ : r0 = unfoldZ u ∧ r1 = (p : Int) + m ∧ r2 = 0 := by simpa using hres
    have HI := Lib.hid (intR_some bs p u m hgr)
    clear hgr hres
    go_wp2_with fail
    go_ret
    rw [HI.out]
    exact ⟨rfl, RV.set1 _, (But.of hy2).set 1 _⟩
theorem rint_any (g : Nat) (a : Option Addr) (c : Nat) (bs : List Int) (p : Nat) (st : Bool) (hp : p ≤ bs.length) (hl : bs.length ≤ 1000000) (hB : Byt bs) (w : World) (hR : RdAt w g a c bs.length p st) (hr : Row w a c bs) :
    Calls Try.prog 63 #[.pointer (some ⟨g, 0, none⟩)] w fun e w' => e = .returned (.int .i64 (intR bs p st).1) ∧ RdAt w' g a c bs.length (intR bs p st).2.1 (intR bs p st).2.2 ∧ But g w w' := by
  cases st with
  | true => exact (rint_stop g a c bs.length p w hR).mono fun e w' ⟨he, hw⟩ => by subst hw; exact ⟨he, hR, But.refl _ _⟩
  | false => exact rint_go g a c bs p hp hl hB w hR hr
end Go.Proofs.Ytjfjekncmejfpaa
namespace Go.Proofs.Ytjfjekncmejfpaa
open Go.RowKit
set_option maxRecDepth 20000
set_option linter.unusedVariables false
set_option linter.unusedSimpArgs false

/-- A writer (or what begins with one) lies in block g and holds the bytes l; all that it writes to lies at B and above. -/
def Wr (w : World) (B g : Nat) (l : List Int) : Prop := ∃ v T, T ≠ 5 ∧ w.heap[g]? = some (.cells #[v] T (0, 0)) ∧ Own w B v l ∧ B ≤ g
theorem own_ne {w : World} {B g : Nat} {v : Value} {l : List Int} {cs : Array Value} {T : TypeId} (hT : T ≠ 5) (h : Own w B v l) (hg : w.heap[g]? = some (.cells cs T (0, 0))) : v.ownBlock ≠ some g := by
  rcases h.2 with ⟨rfl, _⟩ | ⟨g', cap, cur, rfl, _, hgg, _⟩
  · simp [Value.ownBlock]
  · simp only [Value.ownBlock]
    intro e
    injection e with e
    subst e
    rw [hgg] at hg
    simp only [Option.some.injEq, Obj.cells.injEq] at hg
    exact hT hg.2.1.symm
theorem wr_after {w0 w w2 : World} {B g : Nat} {v v2 : Value} {l l2 : List Int} {T : TypeId} (hT : T ≠ 5) (hown : Own w B v l) (hg : w.heap[g]? = some (.cells #[v] T (0, 0))) (g2 : w.grownBy w2 v.ownBlock) (o2 : Own w2 B v2 l2) (hBg : B ≤ g) (hb : Below B w0 w) :
    w2.cell? ⟨g, 0, none⟩ = some v ∧ w2.frozen? ⟨g, 0, none⟩ = false ∧ Wr (w2.setCell ⟨g, 0, none⟩ v2) B g l2 ∧ Below B w0 (w2.setCell ⟨g, 0, none⟩ v2) := by
  have hlt : g < w.heap.size := (Array.getElem?_eq_some_iff.1 hg).1
  have hg2 : w2.heap[g]? = some (.cells #[v] T (0, 0)) := (g2.block g hlt (fun e => own_ne hT hown hg e.symm)).trans hg
  have hbt : But g w2 (w2.setCell ⟨g, 0, none⟩ v2) := (But.refl g w2).set 0 v2
  have hb2 : Below B w0 w2 := hown.below hb g2 (by omega)
  refine ⟨(cell_of_row w2 g 0 _ _ _ hg2).trans rfl, frozen_of_row w2 g 0 _ _ hg2, ⟨v2, T, hT, heap_setCell_same w2 g 0 _ _ _ hg2, ?_, hBg⟩, ?_⟩
  · exact World.ownsRow.kept o2 hbt (.inr (own_ne hT o2 hg2))
  · exact Below.trans hb2 (hbt.below hBg (Nat.le_trans (by omega) g2.size))
/-- Every block but g that holds no bytes stands. -/
def Kp (g : Nat) (w w' : World) : Prop := ∀ i cs T, i ≠ g → T ≠ 5 → Blk w i cs T → Blk w' i cs T
theorem Kp.refl (g : Nat) (w : World) : Kp g w w := fun _ _ _ _ _ h => h
theorem Kp.trans {g : Nat} {w w' w'' : World} (h : Kp g w w') (k : Kp g w' w'') : Kp g w w'' := fun i cs T hi hT hb => k i cs T hi hT (h i cs T hi hT hb)
theorem Kp.of {g : Nat} {w w' : World} (h : Old w w') : Kp g w w' := fun i cs T _ _ hb => hb.old h
theorem kp_after {w w2 : World} {B g : Nat} {v v2 : Value} {l : List Int} (hown : Own w B v l) (g2 : w.grownBy w2 v.ownBlock) : Kp g w (w2.setCell ⟨g, 0, none⟩ v2) := fun i cs T hi hT hb => by
  have h1 : Blk w2 i cs T := by
    refine (g2.block i hb.lt fun e => ?_).trans hb
    rcases hown.2 with ⟨rfl, _⟩ | ⟨g', cap, cur, rfl, _, hgg, _⟩
    · simp [Value.ownBlock] at e
    · simp only [Value.ownBlock] at e
      injection e with e
      subst e
      unfold Blk at hb
      rw [hgg] at hb
      simp only [Option.some.injEq, Obj.cells.injEq] at hb
      exact hT hb.2.1.symm
  exact h1.other hi 0 v2
theorem wr_new (w : World) (T : TypeId) (hT : T ≠ 5) : Wr (w.alloc (.cells #[.slice none 0 0] T)) w.heap.size w.heap.size [] := ⟨_, T, hT, heap_alloc_new _ _, World.ownsRow_nil _ _ _ _, Nat.le_refl _⟩
theorem Wr.lt {w : World} {B g : Nat} {l : List Int} (h : Wr w B g l) : B ≤ g ∧ g < w.heap.size := by
  obtain ⟨v, T, hT, hg, _, hB⟩ := h
  exact ⟨hB, (Array.getElem?_eq_some_iff.1 hg).1⟩
theorem Wr.old {w w' : World} {B g : Nat} {l : List Int} (h : Wr w B g l) (hb : Below w.heap.size w w') : Wr w' B g l := by
  obtain ⟨v, T, hT, hg, ho, hB⟩ := h
  exact ⟨v, T, hT, (hb.block g (Array.getElem?_eq_some_iff.1 hg).1).trans hg, ho.carry hb, hB⟩

theorem wmark_any (B g : Nat) (l : List Int) (s : ByteArray) (hsz : l.length + s.size ≤ 1000000) (w : World) (hW : Wr w B g l) :
    Calls Try.prog 27 #[.pointer (some ⟨g, 0, none⟩), .string s] w fun e w' => e = .returned (.tuple #[]) ∧ Wr w' B g (l ++ bytesOf s) ∧ Below B w w' ∧ Kp g w w' := by
  obtain ⟨v, T, hT, hg, hown, hBg⟩ := hW
  obtain ⟨a, c, rfl, hr⟩ := own_row hown
  have hlt : g < w.heap.size := (Array.getElem?_eq_some_iff.1 hg).1
  have c0 : w.cell? ⟨g, 0, none⟩ = some (.slice a l.length c) := (cell_of_row w g 0 _ _ _ hg).trans rfl
  go_enter Try.func27, Try.ntmps27
  go_wp2_with (at_builtin; refine wpList_app_str rfl (.tmp 10) (.tmp 11) rfl rfl hown rfl (by omega) (by omega) ?_; intro v2 w2 o2 g2; obtain ⟨k0, f0, W2, b2⟩ := wr_after hT hown hg g2 o2 hBg (Below.refl B w); have K2 : Kp g w (w2.setCell ⟨g, 0, none⟩ v2) := kp_after hown g2; obtain ⟨a2, c2, rfl, r2⟩ := own_row o2)
  go_end0
  rw [List.length_append] at W2 b2 K2
  exact ⟨rfl, W2, b2, K2⟩
theorem wmark_nil (s : ByteArray) (w : World) :
    Calls Try.prog 27 #[.pointer none, .string s] w fun e w' => e = .returned (.tuple #[]) ∧ w = w' := by
  go_enter Try.func27, Try.ntmps27
  go_wp2
  go_end0
  exact ⟨rfl, rfl⟩
theorem wint_any (B g : Nat) (l : List Int) (n : Int) (h0 : -9223372036854775808 ≤ n) (h1 : n ≤ 9223372036854775807) (hsz : l.length ≤ 1000000) (w : World) (hW : Wr w B g l) :
    Calls Try.prog 51 #[.pointer (some ⟨g, 0, none⟩), .int .i64 n] w fun e w' => e = .returned (.tuple #[]) ∧ Wr w' B g (l ++ chainL (foldZ n)) ∧ Below B w w' ∧ Kp g w w' := by
  obtain ⟨v, T, hT, hg, hown, hBg⟩ := hW
  obtain ⟨a, c, rfl, hr⟩ := own_row hown
  have hlt : g < w.heap.size := (Array.getElem?_eq_some_iff.1 hg).1
  have fy := fold_range n h0 h1
  have ly := chain_ten _ fy.1 fy.2
  have hne := own_ne hT hown hg
  have CE := Lib.hid (show ∀ x, Near (fun i => some i = (Value.slice a l.length c).ownBlock) w x → x.cell? ⟨g, 0, none⟩ = some (.slice a l.length c) from fun x hx => (hx.cell hlt (fun e => hne e.symm)).trans ((cell_of_row w g 0 _ _ _ hg).trans rfl))
  have cp : ∀ x, Old w x → Calls Try.prog 68 #[.slice none 0 0, .int .i64 n] x fun e y => ∃ v, e = .returned v ∧ ((∃ a c, v = .slice a (chainL (foldZ n)).length c ∧ Row y a c (chainL (foldZ n))) ∧ Old w y) ∧ Near (fun i => some i = (Value.slice a l.length c).ownBlock) x y := fun x hx =>
    (put_any none 0 [] n h0 h1 x (by simp) (Row.none _ _)).mono fun e y ⟨v, he, ho, hb⟩ => ⟨v, he, ⟨own_row (by simpa using ho), hx.old hb⟩, Near.of hb⟩
  generalize chainL (foldZ n) = C at *
  go_enter Try.func51, Try.ntmps51
  go_wp2_with fail
  (refine wp_region_planU 8 [(0, true), (1, true), (2, true), (3, true), (4, true), (5, true), (6, false), (7, false)] (fun i => some i = (Value.slice a l.length c).ownBlock) (by kernel_rfl) (by kernel_rfl) ?_; simp only [pick, List.getElem?_cons_succ, List.getElem?_cons_zero, List.drop_succ_cons, List.drop_zero])
  repeat (first | (apply TextU.sees (hw := by kernel_rfl); (focus (intro x hx K hK; have hc := CE.out x hx; go_simp; exact hK)); simp only [Act.put, List.getElem_toArray, List.getElem_cons_succ, List.getElem_cons_zero, List.setIfInBounds_toArray, List.set_cons_zero, List.set_cons_succ]) | (apply TextU.idle; (focus (intro x hx K hK; go_simp; exact hK)); simp only [Act.put, List.getElem_toArray, List.getElem_cons_succ, List.getElem_cons_zero, List.setIfInBounds_toArray, List.set_cons_zero, List.set_cons_succ]))
  (refine TextU.loud (fun i => some i = (Value.slice a l.length c).ownBlock) (V := fun v y => (∃ a c, v = .slice a C.length c ∧ Row y a c C) ∧ Old w y) (fun _ h => h) (fun x hx => cp x hx) (by kernel_rfl) (fun _ => by kernel_rfl) (fun v y hv _ => ?_); simp only [Act.put, List.getElem_toArray, List.getElem_cons_succ, List.getElem_cons_zero, List.setIfInBounds_toArray, List.set_cons_zero, List.set_cons_succ])
  obtain ⟨⟨a1, c1, rfl, r1⟩, hy⟩ := hv
  have ca : ∀ x, Old y x → ∃ v' w', (Builtin.append_ #[22, 22] 22 #[.slice a l.length c, .slice a1 C.length c1]).run Try.prog x = .ok v' w' ∧ (∃ x, Old y x ∧ Own w' B v' (l ++ C) ∧ x.grownBy w' (Value.slice a l.length c).ownBlock) ∧ Near (fun i => some i = (Value.slice a l.length c).ownBlock) x w' := fun x hx => by
    obtain ⟨v', w', e, o', g'⟩ := run_appK Try.underlying22 info5 (by decide) x 22 B (.slice a l.length c) l (hown.carry (hy.old hx)) a1 c1 C (r1.carry hx).rowK (by omega) (by have := (hy.old hx).size; omega)
    exact ⟨v', w', e, ⟨x, hx, o', g'⟩, ⟨g'.os, g'.tape, g'.output, g'.size, fun i hi hn => g'.block i hi hn⟩⟩
  (refine TextU.loudv (fun _ => False) (V := fun v2 w2 => ∃ x, Old y x ∧ Own w2 B v2 (l ++ C) ∧ x.grownBy w2 (Value.slice a l.length c).ownBlock) (fun _ h => h.elim) (fun x hx => (ca x hx).imp fun v' => fun ⟨w', e, h⟩ => ⟨w', exec_append (.tmp 10) (.tmp 12) rfl rfl rfl e, h⟩) (by kernel_rfl) (fun v2 w2 hv2 _ => ?_); simp only [Act.put, List.getElem_toArray, List.getElem_cons_succ, List.getElem_cons_zero, List.setIfInBounds_toArray, List.set_cons_zero, List.set_cons_succ])
  obtain ⟨x, hx, o2, g2⟩ := hv2
  apply TextU.done
  intro z hz
  have hx2 := hy.old hx
  have ownx := hown.carry hx2
  have hgx := (hx2.block g hlt).trans hg
  have bx : Below B w x := hx2.mono (by omega)
  have gz : x.grownBy z (Value.slice a l.length c).ownBlock := ⟨hz.os.trans g2.os, hz.tape.trans g2.tape, hz.output.trans g2.output, Nat.le_trans g2.size hz.size, fun i hi hn => (hz.block i (Nat.lt_of_lt_of_le hi g2.size)).trans (g2.block i hi hn)⟩
  obtain ⟨k0, f0, W2, b2⟩ := wr_after hT ownx hgx gz (o2.carry hz) hBg bx
  have K2 : Kp g w (z.setCell ⟨g, 0, none⟩ v2) := (Kp.of hx2).trans (kp_after ownx gz)
  obtain ⟨a2, c2, rfl, r2⟩ := own_row o2
  rw [List.length_append] at W2 b2 K2 ⊢
  clear ca cp CE hr hown hg r1 hy hx o2 g2 hz hx2 ownx hgx bx gz r2
  go_wp2
  go_end0
  exact ⟨rfl, W2, b2, K2⟩
theorem wint_nil (n : Int) (w : World) :
    Calls Try.prog 51 #[.pointer none, .int .i64 n] w fun e w' => e = .returned (.tuple #[]) ∧ w = w' := by
  go_enter Try.func51, Try.ntmps51
  go_wp2
  go_end0
  exact ⟨rfl, rfl⟩
theorem wbool_any (B g : Nat) (l : List Int) (z : Bool) (hsz : l.length ≤ 900000) (w : World) (hW : Wr w B g l) :
    Calls Try.prog 52 #[.pointer (some ⟨g, 0, none⟩), .bool z] w fun e w' => e = .returned (.tuple #[]) ∧ Wr w' B g (l ++ [if z then 1 else 0]) ∧ Below B w w' ∧ Kp g w w' := by
  cases z with
  | true =>
    have cm := wmark_any B g l ⟨#[1]⟩ (by show _ + 1 ≤ _; omega) w hW
    go_enter Try.func52, Try.ntmps52
    go_wp2_with (refine cm.mono ?_; rintro e w1 ⟨rfl, W1, b1, K1⟩)
    go_end0
    exact ⟨rfl, W1, b1, K1⟩
  | false =>
    have cm := wmark_any B g l ⟨#[0]⟩ (by show _ + 1 ≤ _; omega) w hW
    go_enter Try.func52, Try.ntmps52
    go_wp2_with (refine cm.mono ?_; rintro e w1 ⟨rfl, W1, b1, K1⟩)
    go_end0
    exact ⟨rfl, W1, b1, K1⟩
theorem wbool_nil (w : World) :
    Calls Try.prog 52 #[.pointer none, .bool true] w fun e w' => e = .returned (.tuple #[]) ∧ w = w' := by
  have cm := wmark_nil ⟨#[1]⟩ w
  go_enter Try.func52, Try.ntmps52
  go_wp2_with (refine cm.mono ?_; rintro e w1 ⟨rfl, rfl⟩)
  go_end0
  exact ⟨rfl, rfl⟩
theorem wints_any (B g : Nat) (l : List Int) (a : Option Addr) (c : Nat) (m : List Int) (hin : ∀ x ∈ m, in64 x) (hm : m.length ≤ 9000) (hsz : l.length ≤ 900000) (w : World) (hW : Wr w B g l) (hrow : ∀ x, Below B w x → Kp g w x → RowK .i64 x a c m) :
    Calls Try.prog 55 #[.pointer (some ⟨g, 0, none⟩), .slice a m.length c] w fun e w' => e = .returned (.tuple #[]) ∧ Wr w' B g (l ++ intsL m) ∧ Below B w w' ∧ Kp g w w' := by
  have hBs := hW.lt
  have fl := fold_range (m.length : Int) (by omega) (by omega)
  have ll := chain_ten _ fl.1 fl.2
  have ci := wint_any B g l m.length (by omega) (by omega) (by omega) w hW
  have HRow := Lib.hid (fun (x : World) (hx : Below B w x) (hx' : Kp g w x) (k : Nat) (hk : k < m.length) => (hrow x hx hx').2 k hk)
  have hint : intsL m = chainL (foldZ m.length) ++ m.flatMap fun n => chainL (foldZ n) := rfl
  have HI := Lib.hid hint
  generalize chainL (foldZ (m.length : Int)) = C at *
  clear hint hrow hW
  go_enter Try.func55, Try.ntmps55
  go_wp2_with fail
  refine ci.mono ?_
  rintro e w1 ⟨rfl, W1, b1, K1⟩
  clear ci
  go_wp2_with fail
  go_loopw [12] (fun i wr => ∃ k : Nat, k ≤ m.length ∧ i = .int .i64 k ∧ Wr wr B g (l ++ C ++ (m.take k).flatMap fun n => chainL (foldZ n)) ∧ Below B w wr ∧ Kp g w wr) (fun i _ => m.length - (intOf i).toNat)
  case atStart => exact ⟨0, Nat.zero_le _, rfl, by simpa using W1, b1, K1⟩
  case round =>
    clear W1 b1 K1
    obtain ⟨k, hk, rfl, W2, b2, K2⟩ := hrel
    by_cases hlt : k < m.length
    · obtain ⟨y, hy⟩ : ∃ y, y = m.getD k 0 := ⟨_, rfl⟩
      obtain ⟨b, off, rfl, hB2, hck⟩ := HRow.out wr b2 K2 k hlt
      rw [← hy] at hck
      have hyin : in64 y := by
        rw [hy]
        have e : m.getD k 0 = m[k] := by simp [hlt]
        rw [e]; exact hin _ (List.getElem_mem hlt)
      have hfl : ((m.take k).flatMap fun n => chainL (foldZ n)).length ≤ 10 * (m.take k).length := chains_len _ fun x hx => hin x (List.mem_of_mem_take hx)
      have htk : (m.take k).length ≤ 9000 := by simp; omega
      have hnext : (m.take (k + 1)).flatMap (fun n => chainL (foldZ n)) = ((m.take k).flatMap fun n => chainL (foldZ n)) ++ chainL (foldZ y) := by rw [take_flat m k hlt, ← hy]
      have HN := Lib.hid hnext
      have cy := wint_any B g _ y hyin.1 hyin.2 (by simp only [List.length_append]; omega) wr W2
      clear hnext hy hyin hfl htk
      generalize ((m.take k).flatMap fun n => chainL (foldZ n)) = D at *
      go_wp2_with (go_at_call 51; refine cy.mono ?_; rintro e w3 ⟨rfl, W3, b3, K3⟩)
      go_roundw
      case rel => exact ⟨k + 1, by omega, by go_num, by rw [HN.out, ← List.append_assoc]; exact W3, Below.trans b2 b3, K2.trans K3⟩
      case measure => simp [intOf]; omega
    · rw [List.take_of_length_le (by omega)] at W2
      go_wp2_with fail
      go_end0
      refine ⟨rfl, ?_, b2, K2⟩
      rw [HI.out, ← List.append_assoc]
      exact W2
theorem wints_nil (n : Int) (G : Nat) (w : World) (hc : w.cell? ⟨G, 0, none⟩ = some (.int .i64 n)) :
    Calls Try.prog 55 #[.pointer none, .slice (some ⟨G, 0, none⟩) 1 1] w fun e w' => e = .returned (.tuple #[]) ∧ w = w' := by
  have c1 := wint_nil 1 w
  have c2 := wint_nil n w
  go_enter Try.func55, Try.ntmps55
  go_wp2_with (with_reducible refine c1.mono ?_; rintro e w1 ⟨rfl, rfl⟩)
  refine wp_loop_rounds 2 ?_
  rw [rounds_succ]
  go_wp2_with (with_reducible refine c2.mono ?_; rintro e w1 ⟨rfl, rfl⟩)
  rw [rounds_succ]
  go_wp2_with fail
  go_end0
  exact ⟨rfl, rfl⟩
theorem own_zero (w : World) (B : Nat) (hB : B ≤ w.heap.size) : Own (w.alloc (.cells #[] 5)) B (.slice (some ⟨w.heap.size, 0, none⟩) 0 0) [] := World.ownsRow_made w #[] 0 hB (by decide) rfl
theorem bytes_any (B g : Nat) (l : List Int) (hsz : l.length ≤ 1000000) (w : World) (hW : Wr w B g l) :
    Calls Try.prog 35 #[.pointer (some ⟨g, 0, none⟩)] w fun e w' => ∃ v, e = .returned v ∧ Own w' w.heap.size v l ∧ Below w.heap.size w w' := by
  obtain ⟨v, T, hT, hg, hown, hBg⟩ := hW
  obtain ⟨a, c, rfl, hr⟩ := own_row hown
  have hlt : g < w.heap.size := (Array.getElem?_eq_some_iff.1 hg).1
  have b1 := bel1 w (.cells #[] 5)
  have c0 : (w.alloc (.cells #[] 5)).cell? ⟨g, 0, none⟩ = some (.slice a l.length c) := (b1.cell (p := ⟨g, 0, none⟩) hlt).trans ((cell_of_row w g 0 _ _ _ hg).trans rfl)
  have r1 := hr.carry b1
  have o1 := own_zero w w.heap.size (Nat.le_refl _)
  clear hg hown hr
  go_enter Try.func35, Try.ntmps35
  go_wp2_with (at_builtin; refine wpList_app rfl (.tmp 6) (.tmp 10) rfl rfl o1 rfl r1 (by simp; omega) b1 (by simp) ?_; intro v2 w2 o2 b2)
  go_ret
  exact ⟨v2, rfl, by simpa using o2, b2⟩
theorem bytes_nil (w : World) :
    Calls Try.prog 35 #[.pointer none] w fun e w' => ∃ a c, e = .returned (.slice a 0 c) ∧ Below w.heap.size w w' := by
  go_enter Try.func35, Try.ntmps35
  go_wp2
  go_ret
  exact ⟨_, _, rfl, bel1 _ _⟩
end Go.Proofs.Ytjfjekncmejfpaa
