/- The document's Reader: Read, the other kinds; all of it. -/
import Derived.Test.YtbadkfocfgojlaaXMarkB
namespace Go.Proofs.Ytbadkfocfgojlaa
open Go.RowKit
set_option linter.unusedVariables false
set_option linter.unusedSimpArgs false

theorem rbool_any (g : Nat) (a : Option Addr) (c : Nat) (bs : List Int) (p : Nat) (st : Bool) (o : OpD) (al : Option Addr) (cl : Nat) (hk : o.k = 2) (hp : p ≤ bs.length) (hl : bs.length ≤ 1000000) (hB : Byt bs) (w : World) (hR : RdAt w g a c bs.length p st) (hr : Row w a c bs) :
    Calls Try.prog 15 #[.pointer (some ⟨g, 0, none⟩), opV o al cl] w fun e w' => ∃ v, e = .returned v ∧ OwnK .i64 2 w' w.heap.size v [(boolR bs p st).1] ∧ RdAt w' g a c bs.length (boolR bs p st).2.1 (boolR bs p st).2.2 ∧ But g w w' := by
  by_cases h : st = true ∨ bs.length ≤ p ∨ 1 < bs.getD p 0
  · exact rbool_bad g a c bs p st o al cl hk hp hl hB w hR hr (if_pos h)
  · cases st with
    | true => simp at h
    | false =>
      have h : ¬ (bs.length ≤ p ∨ 1 < bs.getD p 0) := by simpa using h
      exact rbool_good g a c bs p o al cl hk hp hl hB w hR hr (by omega) (by omega)
theorem boolR_le (bs : List Int) (p : Nat) (st : Bool) (hp : p ≤ bs.length) : (boolR bs p st).2.1 ≤ bs.length ∧ p ≤ (boolR bs p st).2.1 := by
  unfold boolR
  split
  · exact ⟨hp, Nat.le_refl _⟩
  · rename_i h
    have h : ¬ bs.length ≤ p := fun e => h (.inr (.inl e))
    exact ⟨by show p + 1 ≤ _; omega, by show p ≤ p + 1; omega⟩
theorem rmark_any (g : Nat) (a : Option Addr) (c : Nat) (bs : List Int) (p : Nat) (st : Bool) (o : OpD) (al : Option Addr) (cl : Nat) (hk : o.k = 0) (hs : o.s.size ≤ 1000000) (hp : p ≤ bs.length) (hl : bs.length ≤ 1000000) (hB : Byt bs) (w : World) (hR : RdAt w g a c bs.length p st) (hr : Row w a c bs) :
    Calls Try.prog 15 #[.pointer (some ⟨g, 0, none⟩), opV o al cl] w fun e w' => e = .returned (.slice none 0 0) ∧ RdAt w' g a c bs.length (markR bs p st o.s).1 (markR bs p st o.s).2 ∧ But g w w' := by
  by_cases h : st = true ∨ (bs.length : Int) - p < o.s.size
  · exact rmark_short g a c bs p st o al cl hk hs hp hl hB w hR hr h
  · cases st with
    | true => simp at h
    | false =>
      have h : ¬ (bs.length : Int) - p < o.s.size := by simpa using h
      exact rmark_long g a c bs p o al cl hk hs hl hB w hR hr (by omega)
theorem markR_le (bs : List Int) (p : Nat) (st : Bool) (s : ByteArray) (hp : p ≤ bs.length) : (markR bs p st s).1 ≤ bs.length ∧ p ≤ (markR bs p st s).1 := by
  unfold markR
  split
  · exact ⟨hp, Nat.le_refl _⟩
  · rename_i h
    have h : ¬ (bs.length : Int) - p < s.size := fun e => h (.inr (.inl e))
    exact ⟨by show p + s.size ≤ _; omega, by show p ≤ p + s.size; omega⟩
/-- So many bools, until one is not there. -/
def boolsR (bs : List Int) : Nat → Nat → Bool → List Int × Nat × Bool
  | 0, p, st => ([], p, st)
  | n + 1, p, st => if st then ([], p, true) else ((boolR bs p false).1 :: (boolsR bs n (boolR bs p false).2.1 (boolR bs p false).2.2).1, (boolsR bs n (boolR bs p false).2.1 (boolR bs p false).2.2).2)
theorem bools_stop (bs : List Int) (n p : Nat) : boolsR bs n p true = ([], p, true) := by cases n <;> rfl
theorem bools_le (bs : List Int) (n : Nat) : ∀ (p : Nat) (st : Bool), p ≤ bs.length → (boolsR bs n p st).2.1 ≤ bs.length ∧ p ≤ (boolsR bs n p st).2.1 ∧ (boolsR bs n p st).1.length ≤ n := by
  induction n with
  | zero => intro p st hp; exact ⟨hp, Nat.le_refl _, Nat.le_refl _⟩
  | succ n ih =>
    intro p st hp
    unfold boolsR
    split
    · exact ⟨hp, Nat.le_refl _, Nat.zero_le _⟩
    · have h1 := boolR_le bs p false hp
      have h2 := ih (boolR bs p false).2.1 (boolR bs p false).2.2 h1.1
      simp only [List.length_cons]
      omega
def eachR (bs : List Int) (p : Nat) (st : Bool) : List Int × Nat × Bool :=
  let m := boolsR bs (countR bs p st).1.toNat (countR bs p st).2.1 (countR bs p st).2.2
  (if m.2.2 then [] else m.1, m.2)
/-- What one reading tells. -/
def readR (bs : List Int) (p : Nat) (st : Bool) (o : OpD) : List Int × Nat × Bool :=
  if o.k = 0 then ([], markR bs p st o.s) else if o.k = 1 then ([(intR bs p st).1], (intR bs p st).2) else if o.k = 2 then ([(boolR bs p st).1], (boolR bs p st).2) else if o.k = 3 then intsR bs p st
  else if o.k = 4 then ([(countR bs p st).1], (countR bs p st).2) else if o.k = 5 then ([], p, true) else if o.k = 6 then eachR bs p st else ([], p, st)
set_option maxRecDepth 20000 in
set_option maxHeartbeats 10000000 in
theorem rread1 (g : Nat) (a : Option Addr) (c : Nat) (bs : List Int) (p : Nat) (st : Bool) (o : OpD) (al : Option Addr) (cl : Nat) (hp : p ≤ bs.length) (hl : bs.length ≤ 1000000) (hB : Byt bs) (w : World) (hR : RdAt w g a c bs.length p st) (hr : Row w a c bs) (hk : o.k = 1) : Calls Try.prog 15 #[.pointer (some ⟨g, 0, none⟩), opV o al cl] w fun e w' => ∃ v, e = .returned v ∧ OwnK .i64 2 w' w.heap.size v [(intR bs p st).1] ∧ RdAt w' g a c bs.length (intR bs p st).2.1 (intR bs p st).2.2 ∧ But g w w' := by
  have R1 := hR.below (bel1 w (opO o al cl)) hR.lt
  have B1 : But g w (w.alloc (opO o al cl)) := But.of (bel1 w (opO o al cl))
  have hr1 := hr.carry (bel1 w (opO o al cl))
  have ci := rint_any g a c bs p st hp hl hB _ R1 hr1
  have hz : w.heap.size ≤ (w.alloc (opO o al cl)).heap.size := by simp
  obtain ⟨ok, os, on, ob, ol⟩ := o
  simp only at hk
  subst hk
  unfold opV
  simp only
  generalize (intR bs p st).1 = x at *
  generalize (intR bs p st).2.1 = q at *
  generalize (intR bs p st).2.2 = t at *
  go_enter Try.func15, Try.ntmps15
  go_upto_region 8 with (fail)
  generalize w.alloc (.cells #[.int .i64 1, .string os, .int .i64 on, .bool ob, .slice al ol.length cl] 37) = W at ci B1 hz ⊢
  go_wp2_with fail
  refine ci.mono ?_
  rintro e w1 ⟨rfl, R2, B2⟩
  have B3 := But.trans B1 B2
  have hs := B3.size
  have hg := R2.lt
  clear ci R1 B1 hr1 B2 hz
  go_wp2
  go_ret
  exact ⟨_, rfl, own_one _ _ _ hs, R2.below (bel1 _ _) hg, But.trans B3 (But.of (bel1 _ _))⟩
set_option maxRecDepth 20000 in
set_option maxHeartbeats 10000000 in
theorem rread4 (g : Nat) (a : Option Addr) (c : Nat) (bs : List Int) (p : Nat) (st : Bool) (o : OpD) (al : Option Addr) (cl : Nat) (hp : p ≤ bs.length) (hl : bs.length ≤ 1000000) (hB : Byt bs) (w : World) (hR : RdAt w g a c bs.length p st) (hr : Row w a c bs) (hk : o.k = 4) : Calls Try.prog 15 #[.pointer (some ⟨g, 0, none⟩), opV o al cl] w fun e w' => ∃ v, e = .returned v ∧ OwnK .i64 2 w' w.heap.size v [(countR bs p st).1] ∧ RdAt w' g a c bs.length (countR bs p st).2.1 (countR bs p st).2.2 ∧ But g w w' := by
  have R1 := hR.below (bel1 w (opO o al cl)) hR.lt
  have B1 : But g w (w.alloc (opO o al cl)) := But.of (bel1 w (opO o al cl))
  have hr1 := hr.carry (bel1 w (opO o al cl))
  have ci := rcount_any g a c bs p st hp hl hB _ R1 hr1
  have hz : w.heap.size ≤ (w.alloc (opO o al cl)).heap.size := by simp
  obtain ⟨ok, os, on, ob, ol⟩ := o
  simp only at hk
  subst hk
  unfold opV
  simp only
  generalize (countR bs p st).1 = x at *
  generalize (countR bs p st).2.1 = q at *
  generalize (countR bs p st).2.2 = t at *
  go_enter Try.func15, Try.ntmps15
  go_upto_region 18 with (fail)
  generalize w.alloc (.cells #[.int .i64 4, .string os, .int .i64 on, .bool ob, .slice al ol.length cl] 37) = W at ci B1 hz ⊢
  go_wp2_with fail
  refine ci.mono ?_
  rintro e w1 ⟨rfl, R2, B2⟩
  have B3 := But.trans B1 B2
  have hs := B3.size
  have hg := R2.lt
  clear ci R1 B1 hr1 B2 hz
  go_wp2
  go_ret
  exact ⟨_, rfl, own_one _ _ _ hs, R2.below (bel1 _ _) hg, But.trans B3 (But.of (bel1 _ _))⟩
set_option maxRecDepth 20000 in
set_option maxHeartbeats 10000000 in
theorem rread3 (g : Nat) (a : Option Addr) (c : Nat) (bs : List Int) (p : Nat) (st : Bool) (o : OpD) (al : Option Addr) (cl : Nat) (hp : p ≤ bs.length) (hl : bs.length ≤ 1000000) (hB : Byt bs) (w : World) (hR : RdAt w g a c bs.length p st) (hr : Row w a c bs) (hk : o.k = 3) : Calls Try.prog 15 #[.pointer (some ⟨g, 0, none⟩), opV o al cl] w fun e w' => ∃ v, e = .returned v ∧ OwnK .i64 2 w' w.heap.size v (intsR bs p st).1 ∧ RdAt w' g a c bs.length (intsR bs p st).2.1 (intsR bs p st).2.2 ∧ But g w w' := by
  have R1 := hR.below (bel1 w (opO o al cl)) hR.lt
  have B1 : But g w (w.alloc (opO o al cl)) := But.of (bel1 w (opO o al cl))
  have hr1 := hr.carry (bel1 w (opO o al cl))
  have ci := rdints_any g a c bs p st hp hl hB _ R1 hr1
  have hz : w.heap.size ≤ (w.alloc (opO o al cl)).heap.size := by simp
  obtain ⟨ok, os, on, ob, ol⟩ := o
  simp only at hk
  subst hk
  unfold opV
  simp only
  generalize (intsR bs p st).1 = x at *
  generalize (intsR bs p st).2.1 = q at *
  generalize (intsR bs p st).2.2 = t at *
  go_enter Try.func15, Try.ntmps15
  go_upto_region 16 with (fail)
  generalize w.alloc (.cells #[.int .i64 3, .string os, .int .i64 on, .bool ob, .slice al ol.length cl] 37) = W at ci B1 hz ⊢
  go_wp2_with fail
  refine ci.mono ?_
  rintro e w1 ⟨v, rfl, o2, R2, B2⟩
  have B3 := But.trans B1 B2
  clear ci R1 B1 hr1 B2
  have o3 : OwnK .i64 2 w1 w.heap.size v x := by
    refine ⟨o2.1, ?_⟩
    rcases o2.2 with h | ⟨g', cap, cur, h1, h2, h3⟩
    · exact .inl h
    · exact .inr ⟨g', cap, cur, h1, Nat.le_trans hz h2, h3⟩
  clear o2 hz
  go_wp2
  go_ret
  exact ⟨_, rfl, o3, R2, B3⟩
set_option maxRecDepth 20000 in
set_option maxHeartbeats 10000000 in
theorem rread5 (g : Nat) (a : Option Addr) (c : Nat) (bs : List Int) (p : Nat) (st : Bool) (o : OpD) (al : Option Addr) (cl : Nat) (w : World) (hR : RdAt w g a c bs.length p st) (hk : o.k = 5) : Calls Try.prog 15 #[.pointer (some ⟨g, 0, none⟩), opV o al cl] w fun e w' => e = .returned (.slice none 0 0) ∧ RdAt w' g a c bs.length p true ∧ But g w w' := by
  have R1 := hR.below (bel1 w (opO o al cl)) hR.lt
  have B1 : But g w (w.alloc (opO o al cl)) := But.of (bel1 w (opO o al cl))
  obtain ⟨ok, os, on, ob, ol⟩ := o
  simp only at hk
  subst hk
  unfold opV
  simp only
  go_enter Try.func15, Try.ntmps15
  go_upto_region 20 with (fail)
  generalize w.alloc (.cells #[.int .i64 5, .string os, .int .i64 on, .bool ob, .slice al ol.length cl] 37) = W at R1 B1 ⊢
  have c2 := R1.c2
  have f2 := R1.fr 2
  go_wp2
  go_ret
  exact ⟨rfl, R1.set2 true, B1.set 2 _⟩
set_option maxRecDepth 20000 in
set_option maxHeartbeats 10000000 in
theorem rread7 (g : Nat) (a : Option Addr) (c : Nat) (bs : List Int) (p : Nat) (st : Bool) (o : OpD) (al : Option Addr) (cl : Nat) (w : World) (hR : RdAt w g a c bs.length p st) (hk : ¬ (0 ≤ o.k ∧ o.k ≤ 6)) : Calls Try.prog 15 #[.pointer (some ⟨g, 0, none⟩), opV o al cl] w fun e w' => e = .returned (.slice none 0 0) ∧ RdAt w' g a c bs.length p st ∧ But g w w' := by
  have R1 := hR.below (bel1 w (opO o al cl)) hR.lt
  have B1 : But g w (w.alloc (opO o al cl)) := But.of (bel1 w (opO o al cl))
  obtain ⟨ok, os, on, ob, ol⟩ := o
  simp only at hk
  have t0 : (ok == 0) = false := by simp; omega
  have t1 : (ok == 1) = false := by simp; omega
  have t2 : (ok == 2) = false := by simp; omega
  have t3 : (ok == 3) = false := by simp; omega
  have t4 : (ok == 4) = false := by simp; omega
  have t5 : (ok == 5) = false := by simp; omega
  have t6 : (ok == 6) = false := by simp; omega
  unfold opV
  simp only
  clear hk
  go_enter Try.func15, Try.ntmps15
  go_wp2
  go_ret
  exact ⟨rfl, R1, B1⟩
set_option maxRecDepth 20000 in
set_option maxHeartbeats 10000000 in
theorem rread6 (g : Nat) (a : Option Addr) (c : Nat) (bs : List Int) (p : Nat) (st : Bool) (o : OpD) (al : Option Addr) (cl : Nat) (hp : p ≤ bs.length) (hl : bs.length ≤ 1000000) (hB : Byt bs) (w : World) (hR : RdAt w g a c bs.length p st) (hr : Row w a c bs) (hk : o.k = 6) : Calls Try.prog 15 #[.pointer (some ⟨g, 0, none⟩), opV o al cl] w fun e w' => ∃ v, e = .returned v ∧ OwnK .i64 2 w' w.heap.size v (eachR bs p st).1 ∧ RdAt w' g a c bs.length (eachR bs p st).2.1 (eachR bs p st).2.2 ∧ But g w w' := by
  have R0 := hR.below (bel1 w (opO o al cl)) hR.lt
  have B0 : But g w (w.alloc (opO o al cl)) := But.of (bel1 w (opO o al cl))
  have hr0 := hr.carry (bel1 w (opO o al cl))
  have cc := rcount_any g a c bs p st hp hl hB _ R0 hr0
  have hle := countR_le bs p st hp hB
  have hin := countR_in bs p st hp
  have hdef : eachR bs p st = (if (boolsR bs (countR bs p st).1.toNat (countR bs p st).2.1 (countR bs p st).2.2).2.2 then [] else (boolsR bs (countR bs p st).1.toNat (countR bs p st).2.1 (countR bs p st).2.2).1, (boolsR bs (countR bs p st).1.toNat (countR bs p st).2.1 (countR bs p st).2.2).2) := rfl
  obtain ⟨⟨x, q, t⟩, hC⟩ : ∃ r, r = countR bs p st := ⟨_, rfl⟩
  rw [← hC] at cc hle hin hdef
  simp only at cc hle hin hdef
  clear hC
  obtain ⟨N, rfl⟩ := Int.eq_ofNat_of_zero_le hin.1
  rw [Int.toNat_natCast] at hdef
  have hgw := hR.lt
  have HD := Lib.hid hdef
  have HRow := Lib.hid (fun (x : World) (hx : But g w x) => hr.but hR hx)
  clear hdef hr hr0 R0
  obtain ⟨ok, os, on, ob, ol⟩ := o
  simp only at hk
  subst hk
  unfold opV
  simp only
  go_enter Try.func15, Try.ntmps15
  go_upto_region 22 with (fail)
  generalize w.alloc (.cells #[.int .i64 6, .string os, .int .i64 on, .bool ob, .slice al ol.length cl] 37) = W at cc B0 ⊢
  go_wp2_with fail
  refine cc.mono ?_
  rintro e w1 ⟨rfl, R1, B1⟩
  replace B1 := But.trans B0 B1
  clear cc B0 hR
  go_wp2_with fail
  go_loopw [6, 7] (fun v i wr => ∃ (k p' : Nat) (st' : Bool) (acc : List Int), k ≤ N ∧ p' ≤ bs.length ∧ acc.length ≤ k ∧ i = .int .i64 k ∧ OwnK .i64 2 wr w.heap.size v acc ∧ RdAt wr g a c bs.length p' st' ∧ But g w wr ∧
    acc ++ (boolsR bs (N - k) p' st').1 = (boolsR bs N q t).1 ∧ (boolsR bs (N - k) p' st').2 = (boolsR bs N q t).2) (fun _ i _ => N - (intOf i).toNat)
  case atStart => exact ⟨0, q, t, [], Nat.zero_le _, hle.1, Nat.le_refl _, rfl, World.ownsRow_nil _ _ _ _, R1, B1, rfl, rfl⟩
  case round =>
    clear R1 B1
    obtain ⟨k, p', st', acc, hk, hp', hal, rfl, hown, R2, B2, ha, hb⟩ := hrel
    have d2 := R2.c2
    by_cases hlt : k < N
    · cases st' with
      | true =>
        rw [bools_stop] at ha hb
        have hres : eachR bs p st = ([], p', true) := by rw [HD.out, ← hb]; rfl
        have HR := Lib.hid hres
        clear ha hb hres
        go_wp2_with fail
        go_ret
        rw [HR.out]
        exact ⟨_, rfl, World.ownsRow_nil _ _ _ _, R2, B2⟩
      | false =>
        have ci := rbool_any g a c bs p' false ⟨2, ByteArray.empty, 0, false, []⟩ none 0 rfl hp' hl hB wr R2 (HRow.out wr B2)
        unfold opV at ci
        simp only [List.length_nil] at ci
        have hle2 := boolR_le bs p' false hp'
        obtain ⟨j, hj⟩ : ∃ j, N - k = j + 1 := ⟨N - k - 1, by omega⟩
        rw [hj] at ha hb
        simp only [boolsR, Bool.false_eq_true, if_false] at ha hb
        obtain ⟨⟨y, q2, t2⟩, hI⟩ : ∃ r, r = boolR bs p' false := ⟨_, rfl⟩
        rw [← hI] at ci hle2 ha hb
        simp only at ci hle2 ha hb
        rw [show j = N - (k + 1) by omega] at ha hb
        have HA := Lib.hid ha
        have HB := Lib.hid hb
        clear hI ha hb hj
        go_wp2_with fail
        refine ci.mono ?_
        rintro e w3 ⟨v3, rfl, o3, R3, B3⟩
        obtain ⟨a3, k3, rfl, r3⟩ := o3.row
        obtain ⟨b3, f3, rfl, hB3, hc3⟩ := r3.2 0 (by simp)
        replace hc3 : w3.cell? ⟨b3, f3, none⟩ = some (.int .i64 y) := hc3
        have own3 := hown.but B3 hgw
        have But3 := But.trans B2 B3
        have hs3 := But3.size
        clear ci d2 hown B2 B3 R2 o3 r3
        have R4 := R3.below (bel1 w3 (.cells #[.int .i64 y] 2)) R3.lt
        have But4 := But.trans But3 (But.of (bel1 w3 (.cells #[.int .i64 y] 2)))
        clear R3 But3
        simp only [List.length_singleton]
        go_wp2_with (at_builtin; refine wpList_appK Try.underlying34 info2 (by decide) rfl (.tmp 160) (.tmp 166) rfl rfl (own3.alloc1 _) (m := [y]) rfl (rowK_new _ _ _ _ _ (by decide)) (by simp; omega) (by simp; omega) ?_; intro v5 w5 o5 g5)
        have R5 := R4.kept (own3.alloc1 _) g5 hgw
        have But5 := But4.own (own3.alloc1 _) g5
        go_roundw
        case rel =>
          refine ⟨k + 1, q2, t2, acc ++ [y], by omega, hle2.1, by simp; omega, by go_num, o5, R5, But5, ?_, HB.out⟩
          rw [← HA.out]; simp
        case measure => simp [intOf]; omega
    · obtain rfl : k = N := by omega
      rw [Nat.sub_self] at ha hb
      simp only [boolsR, List.append_nil] at ha hb
      cases st' with
      | true =>
        have hres : eachR bs p st = ([], p', true) := by rw [HD.out, ← hb]; rfl
        have HR := Lib.hid hres
        clear ha hb hres
        go_wp2_with fail
        go_ret
        rw [HR.out]
        exact ⟨_, rfl, World.ownsRow_nil _ _ _ _, R2, B2⟩
      | false =>
        have hres : eachR bs p st = (acc, p', false) := by rw [HD.out, ← hb, ← ha]; rfl
        have HR := Lib.hid hres
        clear ha hb hres
        go_wp2_with fail
        go_ret
        rw [HR.out]
        exact ⟨_, rfl, hown, R2, B2⟩
theorem readR_le (bs : List Int) (p : Nat) (st : Bool) (o : OpD) (hp : p ≤ bs.length) (hB : Byt bs) : (readR bs p st o).2.1 ≤ bs.length ∧ p ≤ (readR bs p st o).2.1 := by
  have hc := countR_le bs p st hp hB
  unfold readR
  split
  · exact markR_le bs p st o.s hp
  · split
    · exact intR_le bs p st hp hB
    · split
      · exact boolR_le bs p st hp
      · split
        · have := many_le bs (countR bs p st).1.toNat (countR bs p st).2.1 (countR bs p st).2.2 hc.1 hB
          exact ⟨this.1, Nat.le_trans hc.2 this.2.1⟩
        · split
          · exact hc
          · split
            · exact ⟨hp, Nat.le_refl _⟩
            · split
              · have := bools_le bs (countR bs p st).1.toNat (countR bs p st).2.1 (countR bs p st).2.2 hc.1
                exact ⟨this.1, Nat.le_trans hc.2 this.2.1⟩
              · exact ⟨hp, Nat.le_refl _⟩
theorem readR_len (bs : List Int) (p : Nat) (st : Bool) (o : OpD) (hp : p ≤ bs.length) (hl : bs.length ≤ 1000000) (hB : Byt bs) : (readR bs p st o).1.length ≤ 1000000 := by
  have hc := countR_le bs p st hp hB
  have hi := countR_in bs p st hp
  unfold readR
  split
  · exact Nat.zero_le _
  · split
    · show 1 ≤ _; omega
    · split
      · show 1 ≤ _; omega
      · split
        · have := many_le bs (countR bs p st).1.toNat (countR bs p st).2.1 (countR bs p st).2.2 hc.1 hB
          unfold intsR
          simp only
          split
          · exact Nat.zero_le _
          · omega
        · split
          · show 1 ≤ _; omega
          · split
            · exact Nat.zero_le _
            · split
              · have := bools_le bs (countR bs p st).1.toNat (countR bs p st).2.1 (countR bs p st).2.2 hc.1
                unfold eachR
                simp only
                split
                · exact Nat.zero_le _
                · omega
              · exact Nat.zero_le _
/-- Read. -/
theorem rread_any (g : Nat) (a : Option Addr) (c : Nat) (bs : List Int) (p : Nat) (st : Bool) (o : OpD) (al : Option Addr) (cl : Nat) (hs : o.s.size ≤ 1000000) (hp : p ≤ bs.length) (hl : bs.length ≤ 1000000) (hB : Byt bs) (w : World) (hR : RdAt w g a c bs.length p st) (hr : Row w a c bs) :
    Calls Try.prog 15 #[.pointer (some ⟨g, 0, none⟩), opV o al cl] w fun e w' => ∃ v, e = .returned v ∧ OwnK .i64 2 w' w.heap.size v (readR bs p st o).1 ∧ RdAt w' g a c bs.length (readR bs p st o).2.1 (readR bs p st o).2.2 ∧ But g w w' := by
  unfold readR
  by_cases h0 : o.k = 0
  · simp only [if_pos h0]
    exact (rmark_any g a c bs p st o al cl h0 hs hp hl hB w hR hr).mono fun e w' ⟨he, h1, h2⟩ => ⟨_, he, World.ownsRow_nil _ _ _ _, h1, h2⟩
  · by_cases h1 : o.k = 1
    · simp only [if_neg h0, if_pos h1]
      exact rread1 g a c bs p st o al cl hp hl hB w hR hr h1
    · by_cases h2 : o.k = 2
      · simp only [if_neg h0, if_neg h1, if_pos h2]
        exact rbool_any g a c bs p st o al cl h2 hp hl hB w hR hr
      · by_cases h3 : o.k = 3
        · simp only [if_neg h0, if_neg h1, if_neg h2, if_pos h3]
          exact rread3 g a c bs p st o al cl hp hl hB w hR hr h3
        · by_cases h4 : o.k = 4
          · simp only [if_neg h0, if_neg h1, if_neg h2, if_neg h3, if_pos h4]
            exact rread4 g a c bs p st o al cl hp hl hB w hR hr h4
          · by_cases h5 : o.k = 5
            · simp only [if_neg h0, if_neg h1, if_neg h2, if_neg h3, if_neg h4, if_pos h5]
              exact (rread5 g a c bs p st o al cl w hR h5).mono fun e w' ⟨he, h1, h2⟩ => ⟨_, he, World.ownsRow_nil _ _ _ _, h1, h2⟩
            · by_cases h6 : o.k = 6
              · simp only [if_neg h0, if_neg h1, if_neg h2, if_neg h3, if_neg h4, if_neg h5, if_pos h6]
                exact rread6 g a c bs p st o al cl hp hl hB w hR hr h6
              · simp only [if_neg h0, if_neg h1, if_neg h2, if_neg h3, if_neg h4, if_neg h5, if_neg h6]
                exact (rread7 g a c bs p st o al cl w hR (by omega)).mono fun e w' ⟨he, h1, h2⟩ => ⟨_, he, World.ownsRow_nil _ _ _ _, h1, h2⟩
end Go.Proofs.Ytbadkfocfgojlaa
