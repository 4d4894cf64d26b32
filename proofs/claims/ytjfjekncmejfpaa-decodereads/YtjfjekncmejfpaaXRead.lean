/- The document's Reader: Count, Ints. The document's Reader: Read. The document's Reader: Read of a bool that is there. -/
import Derived.Test.YtjfjekncmejfpaaYWr
namespace Go.Proofs.Ytjfjekncmejfpaa
open Go.RowKit
set_option maxRecDepth 20000
set_option linter.unusedVariables false
set_option linter.unusedSimpArgs false

def countR (bs : List Int) (p : Nat) (st : Bool) : Int × Nat × Bool :=
  if (intR bs p st).1 < 0 ∨ (bs.length : Int) - (intR bs p st).2.1 < (intR bs p st).1 then (0, p, true) else intR bs p st
theorem countR_le (bs : List Int) (p : Nat) (st : Bool) (hp : p ≤ bs.length) (hB : Byt bs) : (countR bs p st).2.1 ≤ bs.length ∧ p ≤ (countR bs p st).2.1 := by
  unfold countR
  split
  · exact ⟨hp, Nat.le_refl _⟩
  · exact intR_le bs p st hp hB
theorem countR_in (bs : List Int) (p : Nat) (st : Bool) (hp : p ≤ bs.length) : 0 ≤ (countR bs p st).1 ∧ (countR bs p st).1 ≤ bs.length := by
  unfold countR
  split
  · exact ⟨by show (0 : Int) ≤ 0; decide, by show (0 : Int) ≤ _; omega⟩
  · omega
theorem rcount_any (g : Nat) (a : Option Addr) (c : Nat) (bs : List Int) (p : Nat) (st : Bool) (hp : p ≤ bs.length) (hl : bs.length ≤ 1000000) (hB : Byt bs) (w : World) (hR : RdAt w g a c bs.length p st) (hr : Row w a c bs) :
    Calls Try.prog 40 #[.pointer (some ⟨g, 0, none⟩)] w fun e w' => e = .returned (.int .i64 (countR bs p st).1) ∧ RdAt w' g a c bs.length (countR bs p st).2.1 (countR bs p st).2.2 ∧ But g w w' := by
  have ci := rint_any g a c bs p st hp hl hB w hR hr
  have hle := intR_le bs p st hp hB
  have hin := intR_in bs p st hB
  have hcnt : countR bs p st = if (intR bs p st).1 < 0 ∨ (bs.length : Int) - (intR bs p st).2.1 < (intR bs p st).1 then (0, p, true) else intR bs p st := rfl
  obtain ⟨⟨x, q, t⟩, hI⟩ : ∃ r, r = intR bs p st := ⟨_, rfl⟩
  rw [← hI] at ci hle hin hcnt
  simp only at ci hle hin hcnt
  obtain ⟨hx0, hx1⟩ := hin
  clear hI
  have q1 := hR.c1
  go_enter Try.func40, Try.ntmps40
  go_wp2_with fail
  refine ci.mono ?_
  rintro e w1 ⟨rfl, R1, B1⟩
  have d0 := R1.c0
  have d1 := R1.c1
  have d2 := R1.c2
  have f1 := R1.fr 1
  have f2 := R1.fr 2
  clear ci q1
  by_cases h0 : x < 0
  · rw [if_pos (.inl h0)] at hcnt
    have HC := Lib.hid hcnt
    have e0 : decide (x < 0) = true := by simpa using h0
    clear hcnt
    go_wp2_with fail
    go_quiet (fail)
    go_wp2
    go_ret
    rw [HC.out]
    exact ⟨rfl, (RdAt.set1 (w := w1.drewN nq) R1 (p : Int)).set2 true, ((But.trans B1 (But.of (bdrewN (Below.refl _ _) _))).set 1 _).set 2 _⟩
  · have e0 : decide (x < 0) = false := by simpa using h0
    by_cases h1 : (bs.length : Int) - q < x
    · rw [if_pos (.inr h1)] at hcnt
      have HC := Lib.hid hcnt
      have e1 : decide ((bs.length : Int) - (q : Int) < x) = true := by simpa using h1
      clear hcnt
      go_wp2_with fail
      go_quiet (fail)
      go_wp2
      go_ret
      rw [HC.out]
      exact ⟨rfl, (RdAt.set1 (w := w1.drewN nq) R1 (p : Int)).set2 true, ((But.trans B1 (But.of (bdrewN (Below.refl _ _) _))).set 1 _).set 2 _⟩
    · rw [if_neg (by omega)] at hcnt
      have HC := Lib.hid hcnt
      have e1 : decide ((bs.length : Int) - (q : Int) < x) = false := by simpa using h1
      clear hcnt
      go_wp2_with fail
      go_quiet (fail)
      go_wp2
      go_ret
      rw [HC.out]
      exact ⟨rfl, R1, But.trans B1 (But.of (bdrewN (Below.refl _ _) _))⟩
/-- So many numbers, until one is not there. -/
def manyR (bs : List Int) : Nat → Nat → Bool → List Int × Nat × Bool
  | 0, p, st => ([], p, st)
  | n + 1, p, st => if st then ([], p, true) else ((intR bs p false).1 :: (manyR bs n (intR bs p false).2.1 (intR bs p false).2.2).1, (manyR bs n (intR bs p false).2.1 (intR bs p false).2.2).2)
def intsR (bs : List Int) (p : Nat) (st : Bool) : List Int × Nat × Bool :=
  let m := manyR bs (countR bs p st).1.toNat (countR bs p st).2.1 (countR bs p st).2.2
  (if m.2.2 then [] else m.1, m.2)
theorem many_stop (bs : List Int) (n p : Nat) : manyR bs n p true = ([], p, true) := by cases n <;> rfl
theorem many_le (bs : List Int) (n : Nat) : ∀ (p : Nat) (st : Bool), p ≤ bs.length → Byt bs → (manyR bs n p st).2.1 ≤ bs.length ∧ p ≤ (manyR bs n p st).2.1 ∧ (manyR bs n p st).1.length ≤ n := by
  induction n with
  | zero => intro p st hp hB; exact ⟨hp, Nat.le_refl _, Nat.le_refl _⟩
  | succ n ih =>
    intro p st hp hB
    unfold manyR
    split
    · exact ⟨hp, Nat.le_refl _, Nat.zero_le _⟩
    · have h1 := intR_le bs p false hp hB
      have h2 := ih (intR bs p false).2.1 (intR bs p false).2.2 h1.1 hB
      simp only [List.length_cons]
      omega
theorem OwnK.but {k : IntKind} {e : TypeId} {w w' : World} {B g : Nat} {v : Value} {l : List Int} (h : OwnK k e w B v l) (hb : But g w w') (hg : g < B) : OwnK k e w' B v l :=
  World.ownsRow.kept h hb (by
    cases hv : v.ownBlock with
    | none => simp
    | some j => right; intro e; injection e with e; have := (World.ownsRow.lt h j hv).1; omega)
theorem But.own {k : IntKind} {e : TypeId} {w w1 w' : World} {g : Nat} {v : Value} {l : List Int} (hb : But g w w1) (h : OwnK k e w1 w.heap.size v l) (hg : w1.grownBy w' v.ownBlock) : But g w w' :=
  ⟨hg.os.trans hb.os, hg.tape.trans hb.tape, hg.output.trans hb.output, Nat.le_trans hb.size hg.size, fun i hi hn => (hg.block i (Nat.lt_of_lt_of_le hi hb.size) (fun e => by
    have := (World.ownsRow.lt h i e.symm).1
    omega)).trans (hb.block i hi hn)⟩
theorem RdAt.kept {k : IntKind} {e : TypeId} {w w' : World} {B g : Nat} {v : Value} {l : List Int} {a : Option Addr} {c n : Nat} {p : Int} {st : Bool} (hR : RdAt w g a c n p st) (h : OwnK k e w B v l) (hg : w.grownBy w' v.ownBlock) (hB : g < B) : RdAt w' g a c n p st :=
  (hg.block g hR.lt (fun e => by have := (World.ownsRow.lt h g e.symm).1; omega)).trans hR
theorem info2 : (Try.prog.info? 2).map (fun i => (i.zero, i.size, i.bytes)) = some (some (.int .i64 0), 1, 8) := by kernel_rfl
theorem rdints_any (g : Nat) (a : Option Addr) (c : Nat) (bs : List Int) (p : Nat) (st : Bool) (hp : p ≤ bs.length) (hl : bs.length ≤ 1000000) (hB : Byt bs) (w : World) (hR : RdAt w g a c bs.length p st) (hr : Row w a c bs) :
    Calls Try.prog 64 #[.pointer (some ⟨g, 0, none⟩)] w fun e w' => ∃ v, e = .returned v ∧ OwnK .i64 2 w' w.heap.size v (intsR bs p st).1 ∧ RdAt w' g a c bs.length (intsR bs p st).2.1 (intsR bs p st).2.2 ∧ But g w w' := by
  have cc := rcount_any g a c bs p st hp hl hB w hR hr
  have hle := countR_le bs p st hp hB
  have hin := countR_in bs p st hp
  have hdef : intsR bs p st = (if (manyR bs (countR bs p st).1.toNat (countR bs p st).2.1 (countR bs p st).2.2).2.2 then [] else (manyR bs (countR bs p st).1.toNat (countR bs p st).2.1 (countR bs p st).2.2).1, (manyR bs (countR bs p st).1.toNat (countR bs p st).2.1 (countR bs p st).2.2).2) := rfl
  obtain ⟨⟨x, q, t⟩, hC⟩ : ∃ r, r = countR bs p st := ⟨_, rfl⟩
  rw [← hC] at cc hle hin hdef
  simp only at cc hle hin hdef
  clear hC
  obtain ⟨N, rfl⟩ := Int.eq_ofNat_of_zero_le hin.1
  rw [Int.toNat_natCast] at hdef
  have hgw := hR.lt
  have HD := Lib.hid hdef
  clear hdef
  go_enter Try.func64, Try.ntmps64
  go_wp2_with fail
  refine cc.mono ?_
  rintro e w1 ⟨rfl, R1, B1⟩
  have HRow := Lib.hid (fun (x : World) (hx : But g w x) => hr.but hR hx)
  clear cc hr hR
  go_wp2_with fail
  go_loopw [4, 5] (fun v i wr => ∃ (k p' : Nat) (st' : Bool) (acc : List Int), k ≤ N ∧ p' ≤ bs.length ∧ acc.length ≤ k ∧ i = .int .i64 k ∧ OwnK .i64 2 wr w.heap.size v acc ∧ RdAt wr g a c bs.length p' st' ∧ But g w wr ∧
    acc ++ (manyR bs (N - k) p' st').1 = (manyR bs N q t).1 ∧ (manyR bs (N - k) p' st').2 = (manyR bs N q t).2) (fun _ i _ => N - (intOf i).toNat)
  case atStart => exact ⟨0, q, t, [], Nat.zero_le _, hle.1, Nat.le_refl _, rfl, World.ownsRow_nil _ _ _ _, R1, B1, rfl, rfl⟩
  case round =>
    clear R1 B1
    obtain ⟨k, p', st', acc, hk, hp', hal, rfl, hown, R2, B2, ha, hb⟩ := hrel
    have d2 := R2.c2
    by_cases hlt : k < N
    · cases st' with
      | true =>
        rw [many_stop] at ha hb
        have hres : intsR bs p st = ([], p', true) := by rw [HD.out, ← hb]; rfl
        have HR := Lib.hid hres
        clear ha hb hres
        go_wp2_with fail
        go_ret
        rw [HR.out]
        exact ⟨_, rfl, World.ownsRow_nil _ _ _ _, R2, B2⟩
      | false =>
        have ci := rint_any g a c bs p' false hp' hl hB wr R2 (HRow.out wr B2)
        have hle2 := intR_le bs p' false hp' hB
        obtain ⟨j, hj⟩ : ∃ j, N - k = j + 1 := ⟨N - k - 1, by omega⟩
        rw [hj] at ha hb
        simp only [manyR, Bool.false_eq_true, if_false] at ha hb
        obtain ⟨⟨y, q2, t2⟩, hI⟩ : ∃ r, r = intR bs p' false := ⟨_, rfl⟩
        rw [← hI] at ci hle2 ha hb
        simp only at ci hle2 ha hb
        rw [show j = N - (k + 1) by omega] at ha hb
        have HA := Lib.hid ha
        have HB := Lib.hid hb
        clear hI ha hb hj
        go_wp2_with fail
        refine ci.mono ?_
        rintro e w3 ⟨rfl, R3, B3⟩
        have own3 := hown.but B3 hgw
        have But3 := But.trans B2 B3
        have hs3 := But3.size
        clear ci d2 hown B2 B3 R2
        have R4 := R3.below (bel1 w3 (.cells #[.int .i64 y] 2)) R3.lt
        have But4 := But.trans But3 (But.of (bel1 w3 (.cells #[.int .i64 y] 2)))
        clear R3 But3
        go_wp2_with (at_builtin; refine wpList_appK Try.underlying100 info2 (by decide) rfl (.tmp 20) (.tmp 23) rfl rfl (own3.alloc1 _) (m := [y]) rfl (rowK_new _ _ _ _ _ (by decide)) (by simp; omega) (by simp; omega) ?_; intro v5 w5 o5 g5)
        have R5 := R4.kept (own3.alloc1 _) g5 hgw
        have But5 := But4.own (own3.alloc1 _) g5
        go_roundw
        case rel =>
          refine ⟨k + 1, q2, t2, acc ++ [y], by omega, hle2.1, by simp; omega, by go_num, o5, R5, But5, ?_, HB.out⟩
          rw [← HA.out]; simp
        case measure => simp [intOf]; omega
    · obtain rfl : k = N := by omega
      rw [Nat.sub_self] at ha hb
      simp only [manyR, List.append_nil] at ha hb
      cases st' with
      | true =>
        have hres : intsR bs p st = ([], p', true) := by rw [HD.out, ← hb]; rfl
        have HR := Lib.hid hres
        clear ha hb hres
        go_wp2_with fail
        go_ret
        rw [HR.out]
        exact ⟨_, rfl, World.ownsRow_nil _ _ _ _, R2, B2⟩
      | false =>
        have hres : intsR bs p st = (acc, p', false) := by rw [HD.out, ← hb, ← ha]; rfl
        have HR := Lib.hid hres
        clear ha hb hres
        go_wp2_with fail
        go_ret
        rw [HR.out]
        exact ⟨_, rfl, hown, R2, B2⟩
end Go.Proofs.Ytjfjekncmejfpaa
namespace Go.Proofs.Ytjfjekncmejfpaa
open Go.RowKit
set_option maxRecDepth 20000
set_option linter.unusedVariables false
set_option linter.unusedSimpArgs false

def boolR (bs : List Int) (p : Nat) (st : Bool) : Int × Nat × Bool :=
  if st = true ∨ bs.length ≤ p ∨ 1 < bs.getD p 0 then (0, p, true) else (bs.getD p 0, p + 1, false)
def opV (o : OpD) (al : Option Addr) (cl : Nat) : Value := .agg #[.int .i64 o.k, .string o.s, .int .i64 o.n, .bool o.b, .slice al o.l.length cl]
abbrev opO (o : OpD) (al : Option Addr) (cl : Nat) : Obj := .cells #[.int .i64 o.k, .string o.s, .int .i64 o.n, .bool o.b, .slice al o.l.length cl] 103
/-- What a reading needs to know of the world, and of all that hold what stands in it. -/
def Sight (W : World) (g B : Nat) (a : Option Addr) (c n : Nat) (p : Int) (st : Bool) (k : Int) (s : ByteArray) : Prop :=
  ∀ x, Old W x → x.cell? ⟨g, 0, none⟩ = some (.slice a n c) ∧ x.cell? ⟨g, 1, none⟩ = some (.int .i64 p) ∧ x.cell? ⟨g, 2, none⟩ = some (.bool st) ∧ x.cell? ⟨B, 0, none⟩ = some (.int .i64 k) ∧ x.cell? ⟨B, 1, none⟩ = some (.string s)
theorem sight_of (w : World) (g : Nat) (a : Option Addr) (c n : Nat) (p : Int) (st : Bool) (o : OpD) (al : Option Addr) (cl : Nat) (hR : RdAt w g a c n p st) : Sight (w.alloc (opO o al cl)) g w.heap.size a c n p st o.k o.s := fun x hx => by
  have h1 := (hR.below (bel1 w (opO o al cl)) hR.lt).below hx (by have := hR.lt; simp; omega)
  have h2 : x.heap[w.heap.size]? = some (opO o al cl) := (hx.block w.heap.size (by simp)).trans (heap_alloc_new w _)
  exact ⟨h1.c0, h1.c1, h1.c2, (cell_of_row x _ 0 _ _ _ h2).trans rfl, (cell_of_row x _ 1 _ _ _ h2).trans rfl⟩
theorem own_one (w : World) (B : Nat) (z : Int) (hB : B ≤ w.heap.size) : OwnK .i64 2 (w.alloc (.cells #[.int .i64 z] 2)) B (.slice (some ⟨w.heap.size, 0, none⟩) 1 1) [z] :=
  World.ownsRow_lit w #[.int .i64 z] 1 hB (by unfold maxLen; omega) rfl
theorem own_one' (w : World) (B G : Nat) (z : Int) (hB : B ≤ G) (hG : w.heap.size = G) : OwnK .i64 2 (w.alloc (.cells #[.int .i64 z] 2)) B (.slice (some ⟨G, 0, none⟩) 1 1) [z] := by
  subst hG; exact own_one w B z hB
set_option maxRecDepth 20000 in
set_option maxHeartbeats 10000000 in
theorem rbool_bad (g : Nat) (a : Option Addr) (c : Nat) (bs : List Int) (p : Nat) (st : Bool) (o : OpD) (al : Option Addr) (cl : Nat) (hk : o.k = 2) (hp : p ≤ bs.length) (hl : bs.length ≤ 1000000) (hB : Byt bs) (w : World) (hR : RdAt w g a c bs.length p st) (hr : Row w a c bs) (hbad : boolR bs p st = (0, p, true)) :
    Calls Try.prog 38 #[.pointer (some ⟨g, 0, none⟩), opV o al cl] w fun e w' => ∃ v, e = .returned v ∧ OwnK .i64 2 w' w.heap.size v [(boolR bs p st).1] ∧ RdAt w' g a c bs.length (boolR bs p st).2.1 (boolR bs p st).2.2 ∧ But g w w' := by
  have sg := sight_of w g a c bs.length p st o al cl hR
  have R1 := hR.below (bel1 w (opO o al cl)) hR.lt
  have B1 : But g w (w.alloc (opO o al cl)) := But.of (bel1 w (opO o al cl))
  have hr1 := hr.carry (bel1 w (opO o al cl))
  have hz : w.heap.size ≤ (w.alloc (opO o al cl)).heap.size := by simp
  obtain ⟨ok, os, on, ob, ol⟩ := o
  simp only at hk sg
  subst hk
  unfold opV
  simp only
  go_enter Try.func38, Try.ntmps38
  go_upto_region 10 with (fail)
  generalize w.alloc (.cells #[.int .i64 2, .string os, .int .i64 on, .bool ob, .slice al ol.length cl] 103) = W at sg R1 B1 hr1 hz ⊢
  have SG := Lib.hid sg
  cases st with
  | true =>
    have HB := Lib.hid (show boolR bs p true = (0, p, true) from rfl)
    (refine wp_region_text (Old W) 28 (by kernel_rfl) (by kernel_rfl) (Below.refl _ W).drew ?_; simp only [List.take_succ_cons, List.take_zero, List.drop_succ_cons, List.drop_zero])
    repeat (first | (apply Text.sees (hw := by kernel_rfl); (focus (intro x hx K hK; have hc := SG.out x hx; go_simp; exact hK)); simp only [Act.put, List.getElem_toArray, List.getElem_cons_succ, List.getElem_cons_zero, List.setIfInBounds_toArray, List.set_cons_zero, List.set_cons_succ]) | (apply Text.idle; (focus (intro x hx K hK; go_simp; exact hK)); simp only [Act.put, List.getElem_toArray, List.getElem_cons_succ, List.getElem_cons_zero, List.setIfInBounds_toArray, List.set_cons_zero, List.set_cons_succ]))
    intro x hx
    have Rx := R1.below hx R1.lt
    have c2 := Rx.c2
    have f2 := Rx.fr 2
    have Bx := But.trans B1 (But.of hx)
    have hsx := Bx.size
    have hgx := Rx.lt
    clear R1 B1 hr1 sg hx
    go_wp2
    go_ret
    refine ⟨_, rfl, ?_, ?_, ?_⟩
    · rw [HB.out]; exact own_one' _ _ _ 0 hsx (by simp)
    · rw [HB.out]; exact (Rx.set2 true).below (bel1 _ _) (by simpa using hgx)
    · exact But.trans (Bx.set 2 _) (But.of (bel1 _ _))
  | false =>
    by_cases hpl : bs.length ≤ p
    · have HB := Lib.hid (show boolR bs p false = (0, p, true) by unfold boolR; rw [if_pos (.inr (.inl hpl))])
      have hd : decide ((bs.length : Int) ≤ (p : Int)) = true := by simpa using hpl
      (refine wp_region_text (Old W) 28 (by kernel_rfl) (by kernel_rfl) (Below.refl _ W).drew ?_; simp only [List.take_succ_cons, List.take_zero, List.drop_succ_cons, List.drop_zero])
      repeat (first | (apply Text.sees (hw := by kernel_rfl); (focus (intro x hx K hK; have hc := SG.out x hx; go_simp; exact hK)); simp only [Act.put, List.getElem_toArray, List.getElem_cons_succ, List.getElem_cons_zero, List.setIfInBounds_toArray, List.set_cons_zero, List.set_cons_succ]) | (apply Text.idle; (focus (intro x hx K hK; go_simp; exact hK)); simp only [Act.put, List.getElem_toArray, List.getElem_cons_succ, List.getElem_cons_zero, List.setIfInBounds_toArray, List.set_cons_zero, List.set_cons_succ]))
      intro x hx
      have Rx := R1.below hx R1.lt
      have c2 := Rx.c2
      have f2 := Rx.fr 2
      have Bx := But.trans B1 (But.of hx)
      have hsx := Bx.size
      have hgx := Rx.lt
      clear R1 B1 hr1 sg hx
      go_wp2
      go_ret
      refine ⟨_, rfl, ?_, ?_, ?_⟩
      · rw [HB.out]; exact own_one' _ _ _ 0 hsx (by simp)
      · rw [HB.out]; exact (Rx.set2 true).below (bel1 _ _) (by simpa using hgx)
      · exact But.trans (Bx.set 2 _) (But.of (bel1 _ _))
    · obtain ⟨b1, o1, rfl, hB1, hc1⟩ := hr1.2 p (by omega)
      have hplt : p < bs.length := by omega
      have hpi : (p : Int) < (bs.length : Int) := by omega
      have hyb := hB.at p
      obtain ⟨y, hy⟩ : ∃ y, y = bs.getD p 0 := ⟨_, rfl⟩
      rw [← hy] at hc1 hyb
      have hd : decide ((bs.length : Int) ≤ (p : Int)) = false := by simpa using hpl
      have CY := Lib.hid (show ∀ x, Old W x → (x.cell? ⟨g, 0, none⟩ = some (.slice (some ⟨b1, o1, none⟩) bs.length c) ∧ x.cell? ⟨g, 1, none⟩ = some (.int .i64 p) ∧ x.cell? ⟨g, 2, none⟩ = some (.bool false)) ∧ x.cell? ⟨b1, o1 + p, none⟩ = some (.int .u8 y) from
        fun x hx => ⟨⟨(SG.out x hx).1, (SG.out x hx).2.1, (SG.out x hx).2.2.1⟩, (hx.cell (p := ⟨b1, o1 + p, none⟩) hB1).trans hc1⟩)
      by_cases hy1 : 1 < y
      · have HB := Lib.hid (show boolR bs p false = (0, p, true) by unfold boolR; rw [if_pos (.inr (.inr (by rw [← hy]; exact hy1)))])
        have hd1 : decide (1 < y) = true := by simpa using hy1
        clear hy
        (refine wp_region_text (Old W) 28 (by kernel_rfl) (by kernel_rfl) (Below.refl _ W).drew ?_; simp only [List.take_succ_cons, List.take_zero, List.drop_succ_cons, List.drop_zero])
        repeat (first | (apply Text.sees (hw := by kernel_rfl); (focus (intro x hx K hK; have hc := CY.out x hx; go_simp; exact hK)); simp only [Act.put, List.getElem_toArray, List.getElem_cons_succ, List.getElem_cons_zero, List.setIfInBounds_toArray, List.set_cons_zero, List.set_cons_succ]) | (apply Text.idle; (focus (intro x hx K hK; go_simp; exact hK)); simp only [Act.put, List.getElem_toArray, List.getElem_cons_succ, List.getElem_cons_zero, List.setIfInBounds_toArray, List.set_cons_zero, List.set_cons_succ]))
        intro x hx
        have Rx := R1.below hx R1.lt
        have c2 := Rx.c2
        have f2 := Rx.fr 2
        have Bx := But.trans B1 (But.of hx)
        have hsx := Bx.size
        have hgx := Rx.lt
        clear R1 B1 hr1 sg hx
        go_wp2
        go_ret
        refine ⟨_, rfl, ?_, ?_, ?_⟩
        · rw [HB.out]; exact own_one' _ _ _ 0 hsx (by simp)
        · rw [HB.out]; exact (Rx.set2 true).below (bel1 _ _) (by simpa using hgx)
        · exact But.trans (Bx.set 2 _) (But.of (bel1 _ _))
      · exfalso; unfold boolR at hbad; rw [if_neg (by rw [← hy]; simp; omega)] at hbad; simp at hbad
end Go.Proofs.Ytjfjekncmejfpaa
namespace Go.Proofs.Ytjfjekncmejfpaa
open Go.RowKit
set_option maxRecDepth 20000
set_option linter.unusedVariables false
set_option linter.unusedSimpArgs false

set_option maxRecDepth 20000 in
set_option maxHeartbeats 10000000 in
theorem rbool_good (g : Nat) (a : Option Addr) (c : Nat) (bs : List Int) (p : Nat) (o : OpD) (al : Option Addr) (cl : Nat) (hk : o.k = 2) (hp : p ≤ bs.length) (hl : bs.length ≤ 1000000) (hB : Byt bs) (w : World) (hR : RdAt w g a c bs.length p false) (hr : Row w a c bs) (hplt : p < bs.length) (hyy : bs.getD p 0 ≤ 1) :
    Calls Try.prog 38 #[.pointer (some ⟨g, 0, none⟩), opV o al cl] w fun e w' => ∃ v, e = .returned v ∧ OwnK .i64 2 w' w.heap.size v [(boolR bs p false).1] ∧ RdAt w' g a c bs.length (boolR bs p false).2.1 (boolR bs p false).2.2 ∧ But g w w' := by
  have sg := sight_of w g a c bs.length p false o al cl hR
  have R1 := hR.below (bel1 w (opO o al cl)) hR.lt
  have B1 : But g w (w.alloc (opO o al cl)) := But.of (bel1 w (opO o al cl))
  have hr1 := hr.carry (bel1 w (opO o al cl))
  have hz : w.heap.size ≤ (w.alloc (opO o al cl)).heap.size := by simp
  obtain ⟨ok, os, on, ob, ol⟩ := o
  simp only at hk sg
  subst hk
  unfold opV
  simp only
  go_enter Try.func38, Try.ntmps38
  go_upto_region 10 with (fail)
  generalize w.alloc (.cells #[.int .i64 2, .string os, .int .i64 on, .bool ob, .slice al ol.length cl] 103) = W at sg R1 B1 hr1 hz ⊢
  have SG := Lib.hid sg
  obtain ⟨b1, o1, rfl, hB1, hc1⟩ := hr1.2 p (by omega)
  have hpi : (p : Int) < (bs.length : Int) := by omega
  have hpl : ¬ bs.length ≤ p := by omega
  have hyb := hB.at p
  obtain ⟨y, hy⟩ : ∃ y, y = bs.getD p 0 := ⟨_, rfl⟩
  rw [← hy] at hc1 hyb hyy
  have hd : decide ((bs.length : Int) ≤ (p : Int)) = false := by simp; omega
  have CY := Lib.hid (show ∀ x, Old W x → (x.cell? ⟨g, 0, none⟩ = some (.slice (some ⟨b1, o1, none⟩) bs.length c) ∧ x.cell? ⟨g, 1, none⟩ = some (.int .i64 p) ∧ x.cell? ⟨g, 2, none⟩ = some (.bool false)) ∧ x.cell? ⟨b1, o1 + p, none⟩ = some (.int .u8 y) from
    fun x hx => ⟨⟨(SG.out x hx).1, (SG.out x hx).2.1, (SG.out x hx).2.2.1⟩, (hx.cell (p := ⟨b1, o1 + p, none⟩) hB1).trans hc1⟩)
  have HB := Lib.hid (show boolR bs p false = (y, p + 1, false) by unfold boolR; rw [if_neg (by rw [← hy]; simp; omega), ← hy])
  have hy1 : ¬ 1 < y := by omega
  have hd1 : decide (1 < y) = false := by simpa using hy1
  clear hy
  (refine wp_region_text (Old W) 28 (by kernel_rfl) (by kernel_rfl) (Below.refl _ W).drew ?_; simp only [List.take_succ_cons, List.take_zero, List.drop_succ_cons, List.drop_zero])
  repeat (first | (apply Text.sees (hw := by kernel_rfl); (focus (intro x hx K hK; have hc := CY.out x hx; go_simp; exact hK)); simp only [Act.put, List.getElem_toArray, List.getElem_cons_succ, List.getElem_cons_zero, List.setIfInBounds_toArray, List.set_cons_zero, List.set_cons_succ]) | (apply Text.idle; (focus (intro x hx K hK; go_simp; exact hK)); simp only [Act.put, List.getElem_toArray, List.getElem_cons_succ, List.getElem_cons_zero, List.setIfInBounds_toArray, List.set_cons_zero, List.set_cons_succ]))
  intro x hx
  have Rx := R1.below hx R1.lt
  have c1 := Rx.c1
  have f1 := Rx.fr 1
  have Bx := (But.trans B1 (But.of hx)).set 1 (.int .i64 ((p : Int) + 1))
  have RV := Rx.set1 ((p : Int) + 1)
  have hcx := (hx.cell (p := ⟨b1, o1 + p, none⟩) hB1).trans hc1
  have hne := row_ne Rx hcx
  have hcV : (x.setCell ⟨g, 1, none⟩ (.int .i64 ((p : Int) + 1))).cell? ⟨b1, o1 + p, none⟩ = some (.int .u8 y) := (World.cell?_of_block (heap_setCell_other x ⟨g, 1, none⟩ b1 _ hne)).trans hcx
  have hB1V : b1 < (x.setCell ⟨g, 1, none⟩ (.int .i64 ((p : Int) + 1))).heap.size := by simpa using Nat.lt_of_lt_of_le hB1 hx.size
  clear R1 B1 hr1 sg SG CY hcx hx hne
  have hw1 : wrap64 (p : Int) = p := by unfold wrap64; omega
  have hw2 : IntKind.i64.wrap (p : Int) = p := by rw [IntKind.wrap_i64]; omega
  go_upto_region 14 with (fail)
  generalize x.setCell ⟨g, 1, none⟩ (.int .i64 ((p : Int) + 1)) = V at Bx RV hcV hB1V ⊢
  have hsV := Bx.size
  have hgV := RV.lt
  have CZ := Lib.hid (show ∀ x, Old V x → (x.cell? ⟨g, 0, none⟩ = some (.slice (some ⟨b1, o1, none⟩) bs.length c) ∧ x.cell? ⟨g, 1, none⟩ = some (.int .i64 ((p : Int) + 1))) ∧ x.cell? ⟨b1, o1 + p, none⟩ = some (.int .u8 y) from
    fun x hx => ⟨⟨(RV.below hx hgV).c0, (RV.below hx hgV).c1⟩, (hx.cell (p := ⟨b1, o1 + p, none⟩) hB1V).trans hcV⟩)
  clear c1 f1 Rx hcV
  (refine wp_region_text (Old V) 12 (by kernel_rfl) (by kernel_rfl) (Below.refl _ V).drew ?_; simp only [List.take_succ_cons, List.take_zero, List.drop_succ_cons, List.drop_zero])
  repeat (first | (apply Text.sees (hw := by kernel_rfl); (focus (intro x hx K hK; have hc := CZ.out x hx; go_simp; exact hK)); simp only [Act.put, List.getElem_toArray, List.getElem_cons_succ, List.getElem_cons_zero, List.setIfInBounds_toArray, List.set_cons_zero, List.set_cons_succ]) | (apply Text.idle; (focus (intro x hx K hK; go_simp; exact hK)); simp only [Act.put, List.getElem_toArray, List.getElem_cons_succ, List.getElem_cons_zero, List.setIfInBounds_toArray, List.set_cons_zero, List.set_cons_succ]))
  intro z hz2
  go_wp2
  go_ret
  refine ⟨_, rfl, ?_, ?_, ?_⟩
  · rw [HB.out]; exact own_one' _ _ _ y (Nat.le_trans hsV hz2.size) rfl
  · rw [HB.out]; exact (RV.below hz2 hgV).below (bel1 _ _) (Nat.lt_of_lt_of_le hgV hz2.size)
  · exact But.trans (But.trans Bx (But.of hz2)) (But.of (bel1 _ _))
end Go.Proofs.Ytjfjekncmejfpaa
