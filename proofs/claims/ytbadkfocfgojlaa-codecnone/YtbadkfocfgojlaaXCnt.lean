/- The document's Reader: Count, Ints. -/
import Derived.Test.YtbadkfocfgojlaaXRd
namespace Go.Proofs.Ytbadkfocfgojlaa
open Go.RowKit
set_option linter.unusedVariables false
set_option linter.unusedSimpArgs false

def countR (bs : List Int) (p : Nat) (st : Bool) : Int × Nat × Bool :=
  if (intR bs p st).1 < 0 ∨ (bs.length : Int) - (intR bs p st).2.1 < (intR bs p st).1 then (0, p, true) else intR bs p st
theorem countR_le (bs : List Int) (p : Nat) (st : Bool) (hp : p ≤ bs.length) (hB : Byt bs) : (countR bs p st).2.1 ≤ bs.length ∧ p ≤ (countR bs p st).2.1 := by
  unfold countR
  split
  · exact ⟨hp, Nat.le_refl _⟩
  · exact intR_le bs p st hp hB
theorem countR_in (bs : List Int) (p : Nat) (st : Bool) (hp : p ≤ bs.length) : 0 ≤ (countR bs p st).1 ∧ (countR bs p st).1 ≤ bs.length := by
  unfold countR
  split
  · exact ⟨by show (0 : Int) ≤ 0; decide, by show (0 : Int) ≤ _; omega⟩
  · omega
theorem rcount_any (g : Nat) (a : Option Addr) (c : Nat) (bs : List Int) (p : Nat) (st : Bool) (hp : p ≤ bs.length) (hl : bs.length ≤ 1000000) (hB : Byt bs) (w : World) (hR : RdAt w g a c bs.length p st) (hr : Row w a c bs) :
    Calls Try.prog 35 #[.pointer (some ⟨g, 0, none⟩)] w fun e w' => e = .returned (.int .i64 (countR bs p st).1) ∧ RdAt w' g a c bs.length (countR bs p st).2.1 (countR bs p st).2.2 ∧ But g w w' := by
  have ci := rint_any g a c bs p st hp hl hB w hR hr
  have hle := intR_le bs p st hp hB
  have hin := intR_in bs p st hB
  have hcnt : countR bs p st = if (intR bs p st).1 < 0 ∨ (bs.length : Int) - (intR bs p st).2.1 < (intR bs p st).1 then (0, p, true) else intR bs p st := rfl
  obtain ⟨⟨x, q, t⟩, hI⟩ : ∃ r, r = intR bs p st := ⟨_, rfl⟩
  rw [← hI] at ci hle hin hcnt
  simp only at ci hle hin hcnt
  obtain ⟨hx0, hx1⟩ := hin
  clear hI
  have q1 := hR.c1
  go_enter Try.func35, Try.ntmps35
  go_wp2_with fail
  refine ci.mono ?_
  rintro e w1 ⟨rfl, R1, B1⟩
  have d0 := R1.c0
  have d1 := R1.c1
  have d2 := R1.c2
  have f1 := R1.fr 1
  have f2 := R1.fr 2
  clear ci q1
  by_cases h0 : x < 0
  · rw [if_pos (.inl h0)] at hcnt
    have HC := Lib.hid hcnt
    have e0 : decide (x < 0) = true := by simpa using h0
    clear hcnt
    go_wp2_with fail
    go_quiet (fail)
    go_wp2
    go_ret
    rw [HC.out]
    exact ⟨rfl, (RdAt.set1 (w := w1.drewN nq) R1 (p : Int)).set2 true, ((But.trans B1 (But.of (bdrewN (Below.refl _ _) _))).set 1 _).set 2 _⟩
  · have e0 : decide (x < 0) = false := by simpa using h0
    by_cases h1 : (bs.length : Int) - q < x
    · rw [if_pos (.inr h1)] at hcnt
      have HC := Lib.hid hcnt
      have e1 : decide ((bs.length : Int) - (q : Int) < x) = true := by simpa using h1
      clear hcnt
      go_wp2_with fail
      go_quiet (fail)
      go_wp2
      go_ret
      rw [HC.out]
      exact ⟨rfl, (RdAt.set1 (w := w1.drewN nq) R1 (p : Int)).set2 true, ((But.trans B1 (But.of (bdrewN (Below.refl _ _) _))).set 1 _).set 2 _⟩
    · rw [if_neg (by omega)] at hcnt
      have HC := Lib.hid hcnt
      have e1 : decide ((bs.length : Int) - (q : Int) < x) = false := by simpa using h1
      clear hcnt
      go_wp2_with fail
      go_quiet (fail)
      go_wp2
      go_ret
      rw [HC.out]
      exact ⟨rfl, R1, But.trans B1 (But.of (bdrewN (Below.refl _ _) _))⟩
/-- So many numbers, until one is not there. -/
def manyR (bs : List Int) : Nat → Nat → Bool → List Int × Nat × Bool
  | 0, p, st => ([], p, st)
  | n + 1, p, st => if st then ([], p, true) else ((intR bs p false).1 :: (manyR bs n (intR bs p false).2.1 (intR bs p false).2.2).1, (manyR bs n (intR bs p false).2.1 (intR bs p false).2.2).2)
def intsR (bs : List Int) (p : Nat) (st : Bool) : List Int × Nat × Bool :=
  let m := manyR bs (countR bs p st).1.toNat (countR bs p st).2.1 (countR bs p st).2.2
  (if m.2.2 then [] else m.1, m.2)
theorem many_stop (bs : List Int) (n p : Nat) : manyR bs n p true = ([], p, true) := by cases n <;> rfl
theorem many_le (bs : List Int) (n : Nat) : ∀ (p : Nat) (st : Bool), p ≤ bs.length → Byt bs → (manyR bs n p st).2.1 ≤ bs.length ∧ p ≤ (manyR bs n p st).2.1 ∧ (manyR bs n p st).1.length ≤ n := by
  induction n with
  | zero => intro p st hp hB; exact ⟨hp, Nat.le_refl _, Nat.le_refl _⟩
  | succ n ih =>
    intro p st hp hB
    unfold manyR
    split
    · exact ⟨hp, Nat.le_refl _, Nat.zero_le _⟩
    · have h1 := intR_le bs p false hp hB
      have h2 := ih (intR bs p false).2.1 (intR bs p false).2.2 h1.1 hB
      simp only [List.length_cons]
      omega
theorem OwnK.but {k : IntKind} {e : TypeId} {w w' : World} {B g : Nat} {v : Value} {l : List Int} (h : OwnK k e w B v l) (hb : But g w w') (hg : g < B) : OwnK k e w' B v l :=
  World.ownsRow.kept h hb (by
    cases hv : v.ownBlock with
    | none => simp
    | some j => right; intro e; injection e with e; have := (World.ownsRow.lt h j hv).1; omega)
theorem But.own {k : IntKind} {e : TypeId} {w w1 w' : World} {g : Nat} {v : Value} {l : List Int} (hb : But g w w1) (h : OwnK k e w1 w.heap.size v l) (hg : w1.grownBy w' v.ownBlock) : But g w w' :=
  ⟨hg.os.trans hb.os, hg.tape.trans hb.tape, hg.output.trans hb.output, Nat.le_trans hb.size hg.size, fun i hi hn => (hg.block i (Nat.lt_of_lt_of_le hi hb.size) (fun e => by
    have := (World.ownsRow.lt h i e.symm).1
    omega)).trans (hb.block i hi hn)⟩
theorem RdAt.kept {k : IntKind} {e : TypeId} {w w' : World} {B g : Nat} {v : Value} {l : List Int} {a : Option Addr} {c n : Nat} {p : Int} {st : Bool} (hR : RdAt w g a c n p st) (h : OwnK k e w B v l) (hg : w.grownBy w' v.ownBlock) (hB : g < B) : RdAt w' g a c n p st :=
  (hg.block g hR.lt (fun e => by have := (World.ownsRow.lt h g e.symm).1; omega)).trans hR
theorem info2 : (Try.prog.info? 2).map (fun i => (i.zero, i.size, i.bytes)) = some (some (.int .i64 0), 1, 8) := by kernel_rfl
theorem rdints_any (g : Nat) (a : Option Addr) (c : Nat) (bs : List Int) (p : Nat) (st : Bool) (hp : p ≤ bs.length) (hl : bs.length ≤ 1000000) (hB : Byt bs) (w : World) (hR : RdAt w g a c bs.length p st) (hr : Row w a c bs) :
    Calls Try.prog 34 #[.pointer (some ⟨g, 0, none⟩)] w fun e w' => ∃ v, e = .returned v ∧ OwnK .i64 2 w' w.heap.size v (intsR bs p st).1 ∧ RdAt w' g a c bs.length (intsR bs p st).2.1 (intsR bs p st).2.2 ∧ But g w w' := by
  have cc := rcount_any g a c bs p st hp hl hB w hR hr
  have hle := countR_le bs p st hp hB
  have hin := countR_in bs p st hp
  have hdef : intsR bs p st = (if (manyR bs (countR bs p st).1.toNat (countR bs p st).2.1 (countR bs p st).2.2).2.2 then [] else (manyR bs (countR bs p st).1.toNat (countR bs p st).2.1 (countR bs p st).2.2).1, (manyR bs (countR bs p st).1.toNat (countR bs p st).2.1 (countR bs p st).2.2).2) := rfl
  obtain ⟨⟨x, q, t⟩, hC⟩ : ∃ r, r = countR bs p st := ⟨_, rfl⟩
  rw [← hC] at cc hle hin hdef
  simp only at cc hle hin hdef
  clear hC
  obtain ⟨N, rfl⟩ := Int.eq_ofNat_of_zero_le hin.1
  rw [Int.toNat_natCast] at hdef
  have hgw := hR.lt
  have HD := Lib.hid hdef
  clear hdef
  go_enter Try.func34, Try.ntmps34
  go_wp2_with fail
  refine cc.mono ?_
  rintro e w1 ⟨rfl, R1, B1⟩
  have HRow := Lib.hid (fun (x : World) (hx : But g w x) => hr.but hR hx)
  clear cc hr hR
  go_wp2_with fail
  go_loopw [4, 5] (fun v i wr => ∃ (k p' : Nat) (st' : Bool) (acc : List Int), k ≤ N ∧ p' ≤ bs.length ∧ acc.length ≤ k ∧ i = .int .i64 k ∧ OwnK .i64 2 wr w.heap.size v acc ∧ RdAt wr g a c bs.length p' st' ∧ But g w wr ∧
    acc ++ (manyR bs (N - k) p' st').1 = (manyR bs N q t).1 ∧ (manyR bs (N - k) p' st').2 = (manyR bs N q t).2) (fun _ i _ => N - (intOf i).toNat)
  case atStart => exact ⟨0, q, t, [], Nat.zero_le _, hle.1, Nat.le_refl _, rfl, World.ownsRow_nil _ _ _ _, R1, B1, rfl, rfl⟩
  case round =>
    clear R1 B1
    obtain ⟨k, p', st', acc, hk, hp', hal, rfl, hown, R2, B2, ha, hb⟩ := hrel
    have d2 := R2.c2
    by_cases hlt : k < N
    · cases st' with
      | true =>
        rw [many_stop] at ha hb
        have hres : intsR bs p st = ([], p', true) := by rw [HD.out, ← hb]; rfl
        have HR := Lib.hid hres
        clear ha hb hres
        go_wp2_with fail
        go_ret
        rw [HR.out]
        exact ⟨_, rfl, World.ownsRow_nil _ _ _ _, R2, B2⟩
      | false =>
        have ci := rint_any g a c bs p' false hp' hl hB wr R2 (HRow.out wr B2)
        have hle2 := intR_le bs p' false hp' hB
        obtain ⟨j, hj⟩ : ∃ j, N - k = j + 1 := ⟨N - k - 1, by omega⟩
        rw [hj] at ha hb
        simp only [manyR, Bool.false_eq_true, if_false] at ha hb
        obtain ⟨⟨y, q2, t2⟩, hI⟩ : ∃ r, r = intR bs p' false := ⟨_, rfl⟩
        rw [← hI] at ci hle2 ha hb
        simp only at ci hle2 ha hb
        rw [show j = N - (k + 1) by omega] at ha hb
        have HA := Lib.hid ha
        have HB := Lib.hid hb
        clear hI ha hb hj
        go_wp2_with fail
        refine ci.mono ?_
        rintro e w3 ⟨rfl, R3, B3⟩
        have own3 := hown.but B3 hgw
        have But3 := But.trans B2 B3
        have hs3 := But3.size
        clear ci d2 hown B2 B3 R2
        have R4 := R3.below (bel1 w3 (.cells #[.int .i64 y] 2)) R3.lt
        have But4 := But.trans But3 (But.of (bel1 w3 (.cells #[.int .i64 y] 2)))
        clear R3 But3
        go_wp2_with (at_builtin; refine wpList_appK Try.underlying34 info2 (by decide) rfl (.tmp 20) (.tmp 23) rfl rfl (own3.alloc1 _) (m := [y]) rfl (rowK_new _ _ _ _ _ (by decide)) (by simp; omega) (by simp; omega) ?_; intro v5 w5 o5 g5)
        have R5 := R4.kept (own3.alloc1 _) g5 hgw
        have But5 := But4.own (own3.alloc1 _) g5
        go_roundw
        case rel =>
          refine ⟨k + 1, q2, t2, acc ++ [y], by omega, hle2.1, by simp; omega, by go_num, o5, R5, But5, ?_, HB.out⟩
          rw [← HA.out]; simp
        case measure => simp [intOf]; omega
    · obtain rfl : k = N := by omega
      rw [Nat.sub_self] at ha hb
      simp only [manyR, List.append_nil] at ha hb
      cases st' with
      | true =>
        have hres : intsR bs p st = ([], p', true) := by rw [HD.out, ← hb]; rfl
        have HR := Lib.hid hres
        clear ha hb hres
        go_wp2_with fail
        go_ret
        rw [HR.out]
        exact ⟨_, rfl, World.ownsRow_nil _ _ _ _, R2, B2⟩
      | false =>
        have hres : intsR bs p st = (acc, p', false) := by rw [HD.out, ← hb, ← ha]; rfl
        have HR := Lib.hid hres
        clear ha hb hres
        go_wp2_with fail
        go_ret
        rw [HR.out]
        exact ⟨_, rfl, hown, R2, B2⟩
end Go.Proofs.Ytbadkfocfgojlaa
