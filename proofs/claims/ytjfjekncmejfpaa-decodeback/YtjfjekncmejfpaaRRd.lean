/- Package decode: its reader; numbers, lengths, floats, items. -/
import Derived.Test.YtjfjekncmejfpaaRMath
import Derived.Test.YtjfjekncmejfpaaYBool
import Derived.Test.YtjfjekncmejfpaaYEach
import Derived.Test.YtjfjekncmejfpaaJSnp
namespace Go.Proofs.Ytjfjekncmejfpaa
open Go.RowKit
set_option maxRecDepth 20000
set_option linter.unusedVariables false
set_option linter.unusedSimpArgs false

/-- A reader of jobs in block h: it names codec's reader in block g. -/
structure RdP (bs : List Int) (w : World) (h g : Nat) (a : Option Addr) (c q : Nat) (st : Bool) : Prop where
  le : q ≤ bs.length
  len : bs.length ≤ 1000000
  byt : Byt bs
  ne : h ≠ g
  lt : h < w.heap.size
  ptr : w.cell? ⟨h, 0, none⟩ = some (.pointer (some ⟨g, 0, none⟩))
  cd : CdAt w g a c bs.length q st
  row : Row w a c bs
theorem But.near {g : Nat} {w w' : World} (h : But g w w') : Near (fun i => i = g) w w' := ⟨h.os, h.tape, h.output, h.size, fun i hi hn => h.block i hi (fun e => hn (by injection e))⟩
theorem Near.but {g : Nat} {w w' : World} (h : Near (fun i => i = g) w w') : But g w w' := ⟨h.os, h.tape, h.output, h.size, fun i hi hn => h.block i hi (fun e => hn (by rw [e]))⟩
theorem But.cellN {g : Nat} {w w' : World} (hb : But g w w') {b o : Nat} (hl : b < w.heap.size) (hn : b ≠ g) : w'.cell? ⟨b, o, none⟩ = w.cell? ⟨b, o, none⟩ := World.cell?_of_block (hb.block b hl (fun e => hn (by injection e)))
theorem But.newc {g : Nat} {w x : World} (hb : But g w x) {b : Nat} (hl : w.heap.size ≤ b) (i : Nat) (v : Value) : But g w (x.setCell ⟨b, i, none⟩ v) :=
  ⟨hb.os, hb.tape, hb.output, by simpa using hb.size, fun j hj hn => (Below.heap_setCell _ _ _ _ (by simp; omega)).trans (hb.block j hj hn)⟩
theorem Blk.but {g b : Nat} {w w' : World} {cs : Array Value} {T : TypeId} (H : Blk w b cs T) (hb : But g w w') (hn : b ≠ g) : Blk w' b cs T := (hb.block b H.lt (fun e => hn (by injection e))).trans H
section
variable {bs : List Int} {w w' : World} {h g : Nat} {a : Option Addr} {c q r : Nat} {st s : Bool}
theorem CdAt.farc {n : Nat} {p : Int} (H : CdAt w g a c n p st) {b : Nat} (hb : g ≠ b) (i : Nat) (v : Value) : CdAt (w.setCell ⟨b, i, none⟩ v) g a c n p st := (heap_setCell_other w ⟨b, i, none⟩ g v hb).trans H
theorem RdP.but (H : RdP bs w h g a c q st) (hb : But g w w') (hr : r ≤ bs.length) (hc : CdAt w' g a c bs.length r s) : RdP bs w' h g a c r s :=
  ⟨hr, H.len, H.byt, H.ne, Nat.lt_of_lt_of_le H.lt hb.size, (hb.cellN H.lt H.ne).trans H.ptr, hc, H.row.cbut H.cd hb⟩
theorem RdP.old (H : RdP bs w h g a c q st) (hb : Below w.heap.size w w') : RdP bs w' h g a c q st := H.but (But.of hb) H.le (H.cd.old hb)
theorem RdP.far (H : RdP bs w h g a c q st) {b : Nat} (h1 : w.heap.size ≤ b) (i : Nat) (v : Value) : RdP bs (w.setCell ⟨b, i, none⟩ v) h g a c q st := H.but ((But.refl g w).newc h1 i v) H.le (H.cd.farc (by have := H.cd.lt; omega) i v)
end
section
variable (bs : List Int) (h g : Nat) (a : Option Addr) (c q : Nat) (st : Bool)
theorem number_any (w : World) (H : RdP bs w h g a c q st) :
    Calls Try.prog 69 #[.pointer (some ⟨h, 0, none⟩)] w fun e w' => e = .returned (.int .i64 (intR bs q st).1) ∧ RdP bs w' h g a c (intR bs q st).2.1 (intR bs q st).2.2 ∧ But g w w' := by
  have ci := int_any g a c bs q st H.le H.len H.byt w H.cd H.row
  have q0 := H.ptr
  have hle := intR_le bs q st H.le H.byt
  go_enter Try.func69, Try.ntmps69
  go_wp2_with (refine ci.mono ?_; rintro e w1 ⟨rfl, R1, B1⟩)
  go_ret
  exact ⟨rfl, H.but B1 hle.1 R1, B1⟩
theorem length_any (w : World) (H : RdP bs w h g a c q st) :
    Calls Try.prog 70 #[.pointer (some ⟨h, 0, none⟩)] w fun e w' => e = .returned (.int .i64 (intR bs q st).1) ∧ RdP bs w' h g a c (intR bs q st).2.1 (intR bs q st).2.2 ∧ But g w w' := by
  have ci := int_any g a c bs q st H.le H.len H.byt w H.cd H.row
  have q0 := H.ptr
  have hle := intR_le bs q st H.le H.byt
  go_enter Try.func70, Try.ntmps70
  go_wp2_with (refine ci.mono ?_; rintro e w1 ⟨rfl, R1, B1⟩)
  go_ret
  exact ⟨rfl, H.but B1 hle.1 R1, B1⟩
end
theorem But.new7 {g b : Nat} {w x : World} (hb : But g w x) (hl : w.heap.size ≤ b) (v0 v1 v2 v3 v4 v5 v6 : Value) : But g w (((((((x.setCell ⟨b, 0, none⟩ v0).setCell ⟨b, 1, none⟩ v1).setCell ⟨b, 2, none⟩ v2).setCell ⟨b, 3, none⟩ v3).setCell ⟨b, 4, none⟩ v4).setCell ⟨b, 5, none⟩ v5).setCell ⟨b, 6, none⟩ v6) :=
  ((((((hb.newc hl 0 v0).newc hl 1 v1).newc hl 2 v2).newc hl 3 v3).newc hl 4 v4).newc hl 5 v5).newc hl 6 v6
theorem CdAt.farc7 {w : World} {g b c n : Nat} {a : Option Addr} {p : Int} {st : Bool} (H : CdAt w g a c n p st) (hb : g ≠ b) (v0 v1 v2 v3 v4 v5 v6 : Value) : CdAt (((((((w.setCell ⟨b, 0, none⟩ v0).setCell ⟨b, 1, none⟩ v1).setCell ⟨b, 2, none⟩ v2).setCell ⟨b, 3, none⟩ v3).setCell ⟨b, 4, none⟩ v4).setCell ⟨b, 5, none⟩ v5).setCell ⟨b, 6, none⟩ v6) g a c n p st :=
  ((((((H.farc hb 0 v0).farc hb 1 v1).farc hb 2 v2).farc hb 3 v3).farc hb 4 v4).farc hb 5 v5).farc hb 6 v6
theorem number_at {bs : List Int} {h g : Nat} {a : Option Addr} {c q : Nat} {st : Bool} {x : Int} {r : Nat} {s : Bool} (e : (x, r, s) = intR bs q st) (w : World) (H : RdP bs w h g a c q st) :
    Calls Try.prog 69 #[.pointer (some ⟨h, 0, none⟩)] w fun e w' => e = .returned (.int .i64 x) ∧ RdP bs w' h g a c r s ∧ But g w w' := by
  have := number_any bs h g a c q st w H
  rw [← e] at this
  exact this
theorem length_at {bs : List Int} {h g : Nat} {a : Option Addr} {c q : Nat} {st : Bool} {x : Int} {r : Nat} {s : Bool} (e : (x, r, s) = intR bs q st) (w : World) (H : RdP bs w h g a c q st) :
    Calls Try.prog 70 #[.pointer (some ⟨h, 0, none⟩)] w fun e w' => e = .returned (.int .i64 x) ∧ RdP bs w' h g a c r s ∧ But g w w' := by
  have := length_any bs h g a c q st w H
  rw [← e] at this
  exact this
theorem nums_zero (bs : List Int) (q : Nat) (st : Bool) : numsR 0 bs q st = ([], q, st) := rfl
theorem nums_succ (k : Nat) (bs : List Int) (q : Nat) (st : Bool) : numsR (k + 1) bs q st = ((intR bs q st).1 :: (numsR k bs (intR bs q st).2.1 (intR bs q st).2.2).1, (numsR k bs (intR bs q st).2.1 (intR bs q st).2.2).2) := rfl
theorem item_two (bs : List Int) (q : Nat) (st : Bool) : itemR bs q st = (itemOf ((intR bs q st).1, (kindR (intR bs q st).1 bs (intR bs q st).2.1 (intR bs q st).2.2).1), (kindR (intR bs q st).1 bs (intR bs q st).2.1 (intR bs q st).2.2).2) := rfl
theorem float_any (bs : List Int) (h g : Nat) (a : Option Addr) (c q : Nat) (st : Bool) (w : World) (H : RdP bs w h g a c q st) :
    Calls Try.prog 77 #[.pointer (some ⟨h, 0, none⟩)] w fun e w' => e = .returned (flt (floatR bs q st).1) ∧ RdP bs w' h g a c (floatR bs q st).2.1 (floatR bs q st).2.2 ∧ But g w w' := by
  have hR : floatR bs q st = (⟨(intR bs q st).1, (intR bs (intR bs q st).2.1 (intR bs q st).2.2).1, (intR bs (intR bs (intR bs q st).2.1 (intR bs q st).2.2).2.1 (intR bs (intR bs q st).2.1 (intR bs q st).2.2).2.2).1⟩, (intR bs (intR bs (intR bs q st).2.1 (intR bs q st).2.2).2.1 (intR bs (intR bs q st).2.1 (intR bs q st).2.2).2.2).2) := rfl
  obtain ⟨⟨x0, q1, t1⟩, e0⟩ : ∃ r, r = intR bs q st := ⟨_, rfl⟩
  rw [← e0] at hR
  dsimp only at hR
  obtain ⟨⟨x1, q2, t2⟩, e1⟩ : ∃ r, r = intR bs q1 t1 := ⟨_, rfl⟩
  rw [← e1] at hR
  dsimp only at hR
  obtain ⟨⟨x2, q3, t3⟩, e2⟩ : ∃ r, r = intR bs q2 t2 := ⟨_, rfl⟩
  rw [← e2] at hR
  have HR := Lib.hid hR
  have R := blk_new w #[.int .i64 0, .int .i64 0, .int .i64 0] 90
  have H0 := H.old (tbel1 w (.cells #[.int .i64 0, .int .i64 0, .int .i64 0] 90))
  have B0 := But.of (g := g) (tbel1 w (.cells #[.int .i64 0, .int .i64 0, .int .i64 0] 90))
  have hg := H.cd.lt
  have c0 := fun y (hy : RdP bs y h g a c q st) => number_at e0 y hy
  have c1 := fun y (hy : RdP bs y h g a c q1 t1) => length_at e1 y hy
  have c2 := fun y (hy : RdP bs y h g a c q2 t2) => number_at e2 y hy
  have HH := Lib.hid H
  have hne : g ≠ w.heap.size := by omega
  clear H hR e0 e1 e2
  go_enter Try.func77, Try.ntmps77
  go_wp2_with fail
  refine (c0 _ H0).mono ?_
  rintro e w1 ⟨rfl, H1, B1⟩
  go_wp2_with fail
  refine (c1 _ H1).mono ?_
  rintro e w2 ⟨rfl, H2, B2⟩
  go_wp2_with fail
  refine (c2 _ H2).mono ?_
  rintro e w3 ⟨rfl, H3, B3⟩
  have B4 := But.trans B1 (But.trans B2 B3)
  have R3 := R.but B4 (by omega)
  have B5 := But.trans B0 B4
  clear R H0 H1 H2 B0 B1 B2 B3 B4 c0 c1 c2
  have p0 : w3.cell? ⟨w.heap.size, 0, none⟩ = some (.int .i64 0) := R3.cell 0
  have p1 : w3.cell? ⟨w.heap.size, 1, none⟩ = some (.int .i64 0) := R3.cell 1
  have p2 : w3.cell? ⟨w.heap.size, 2, none⟩ = some (.int .i64 0) := R3.cell 2
  have f0 := R3.free 0
  have f1 := R3.free 1
  have f2 := R3.free 2
  have hs := B5.size
  go_wp2
  rw [HR.out]
  refine bodyPost_ret (v := .agg #[.int .i64 x0, .int .i64 x1, .int .i64 x2]) (by simp [results, Try.results77, go_sem, p0, p1, p2]) rfl ⟨rfl, HH.out.but (((B5.newc (Nat.le_refl _) 0 _).newc (Nat.le_refl _) 1 _).newc (Nat.le_refl _) 2 _) H3.le (((H3.cd.farc hne 0 _).farc hne 1 _).farc hne 2 _), ((B5.newc (Nat.le_refl _) 0 _).newc (Nat.le_refl _) 1 _).newc (Nat.le_refl _) 2 _⟩
end Go.Proofs.Ytjfjekncmejfpaa
