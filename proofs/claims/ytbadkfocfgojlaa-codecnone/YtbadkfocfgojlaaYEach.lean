/- Package codec: Each of integers, Ints. -/
import Derived.Test.YtbadkfocfgojlaaYInt
namespace Go.Proofs.Ytbadkfocfgojlaa
open Go.RowKit
set_option linter.unusedVariables false
set_option linter.unusedSimpArgs false

theorem OwnK.nil (k : IntKind) (e : TypeId) (w : World) (B : Nat) : OwnK k e w B (.slice none 0 0) [] := World.ownsRow_nil _ _ _ _
theorem CdAt.kept {k : IntKind} {e : TypeId} {w w' : World} {B g : Nat} {v : Value} {l : List Int} {a : Option Addr} {c n : Nat} {p : Int} {st : Bool} (hR : CdAt w g a c n p st) (h : OwnK k e w B v l) (hg : w.grownBy w' v.ownBlock) (hB : g < B) : CdAt w' g a c n p st :=
  (hg.block g hR.lt (fun e => by have := (World.ownsRow.lt h g e.symm).1; omega)).trans hR
theorem many_two (bs : List Int) (j p : Nat) (st : Bool) : (manyR bs (j + 1) p st).2 = (manyR bs j (intR bs p st).2.1 (intR bs p st).2.2).2 := by
  cases st with
  | true => rw [many_stop, intR_stop, many_stop]
  | false => simp [manyR]
theorem many_one (bs : List Int) (j p : Nat) (st : Bool) (h : (intR bs p st).2.2 = false) : st = false ∧ (manyR bs (j + 1) p st).1 = (intR bs p st).1 :: (manyR bs j (intR bs p st).2.1 false).1 := by
  cases st with
  | true => rw [intR_stop] at h; cases h
  | false => exact ⟨rfl, by simp [manyR, h]⟩
theorem fn_eq (t : TypeId) (ht : t = 49 ∨ t = 24) (f : Nat) (p : Value) (w : World) : Sem.run Try.prog (binOp BinOp.eql t (Value.func (Fn.func f) #[p] #[]) Value.nilFunc) w = .ok (.bool false) w := by
  rcases ht with rfl | rfl <;> kernel_rfl
theorem each_ints (g : Nat) (a : Option Addr) (c : Nat) (bs : List Int) (p : Nat) (st : Bool) (hp : p ≤ bs.length) (hl : bs.length ≤ 1000000) (hB : Byt bs) (w : World) (hR : CdAt w g a c bs.length p st) (hr : Row w a c bs) :
    Calls Try.prog 39 #[.pointer (some ⟨g, 0, none⟩), .func (.func 26) #[.pointer (some ⟨g, 0, none⟩)] #[]] w fun e w' => ∃ v, e = .returned v ∧ OwnK .i64 2 w' w.heap.size v (intsR bs p st).1 ∧ CdAt w' g a c bs.length (intsR bs p st).2.1 (intsR bs p st).2.2 ∧ But g w w' := by
  have cc := count_any g a c bs p st hp hl hB w hR hr
  have hle := countR_le bs p st hp hB
  have hin := countR_in bs p st hp
  have hdef : intsR bs p st = (if (manyR bs (countR bs p st).1.toNat (countR bs p st).2.1 (countR bs p st).2.2).2.2 then [] else (manyR bs (countR bs p st).1.toNat (countR bs p st).2.1 (countR bs p st).2.2).1, (manyR bs (countR bs p st).1.toNat (countR bs p st).2.1 (countR bs p st).2.2).2) := rfl
  obtain ⟨⟨x, q, t⟩, hC⟩ : ∃ r, r = countR bs p st := ⟨_, rfl⟩
  rw [← hC] at cc hle hin hdef
  simp only at cc hle hin hdef
  clear hC
  obtain ⟨N, rfl⟩ := Int.eq_ofNat_of_zero_le hin.1
  rw [Int.toNat_natCast] at hdef
  have hgw := hR.lt
  have HD := Lib.hid hdef
  clear hdef
  have hfn := fun w => fn_eq 49 (.inl rfl) 26 (.pointer (some ⟨g, 0, none⟩)) w
  go_enter Try.func39, Try.ntmps39
  go_wp2_with fail
  refine cc.mono ?_
  rintro e w1 ⟨rfl, R1, B1⟩
  have HRow := Lib.hid (fun (x : World) (hx : But g w x) => hr.cbut hR hx)
  clear cc hr hR
  go_wp2_with fail
  go_loopw [6, 13] (fun v i wr => ∃ (k p' : Nat) (st' : Bool) (acc : List Int), k ≤ N ∧ p' ≤ bs.length ∧ acc.length ≤ k ∧ i = .int .i64 k ∧ OwnK .i64 2 wr w.heap.size v acc ∧ CdAt wr g a c bs.length p' st' ∧ But g w wr ∧
    (st' = false → acc ++ (manyR bs (N - k) p' st').1 = (manyR bs N q t).1) ∧ (manyR bs (N - k) p' st').2 = (manyR bs N q t).2) (fun _ i _ => N - (intOf i).toNat)
  case atStart => exact ⟨0, q, t, [], Nat.zero_le _, hle.1, Nat.le_refl _, rfl, World.ownsRow_nil _ _ _ _, R1, B1, fun _ => rfl, rfl⟩
  case round =>
    clear R1 B1
    obtain ⟨k, p', st', acc, hk, hp', hal, rfl, hown, R2, B2, ha, hb⟩ := hrel
    by_cases hlt : k < N
    · have ci := int_any g a c bs p' st' hp' hl hB wr R2 (HRow.out wr B2)
      have hle2 := intR_le bs p' st' hp' hB
      obtain ⟨j, hj⟩ : ∃ j, N - k = j + 1 := ⟨N - k - 1, by omega⟩
      have h1 := many_one bs j p' st'
      rw [hj] at ha hb
      rw [many_two] at hb
      obtain ⟨⟨y, q2, t2⟩, hI⟩ : ∃ r, r = intR bs p' st' := ⟨_, rfl⟩
      rw [← hI] at ci hle2 hb h1
      simp only at ci hle2 hb h1
      have hj' : j = N - (k + 1) := by omega
      rw [hj'] at ha hb h1
      have HB := Lib.hid hb
      clear hI hb hj
      cases t2 with
      | true =>
        clear h1 ha
        have cr := fun x hx => right_any g a c bs.length q2 true x hx
        rw [Bool.not_true] at cr
        go_wp2_with (first
          | (go_at_call 26; refine ci.mono ?_; rintro e w3 ⟨rfl, R3, B3⟩; have own3 := hown.but B3 hgw; have But3 := But.trans B2 B3; clear ci hown B2 B3 R2)
          | (go_at_call 16; refine (cr _ R3).mono ?_; rintro e w4 ⟨rfl, rfl⟩))
        go_roundw
        case rel => exact ⟨k + 1, q2, true, acc, by omega, hle2.1, by omega, by go_num, own3, R3, But3, fun h => (by cases h), HB.out⟩
        case measure => simp [intOf]; omega
      | false =>
        obtain ⟨rfl, h2⟩ := h1 rfl
        have ha := ha rfl
        rw [h2] at ha
        have HA := Lib.hid ha
        clear h1 h2 ha
        have cr := fun x hx => right_any g a c bs.length q2 false x hx
        rw [Bool.not_false] at cr
        go_wp2_with fail
        refine ci.mono ?_
        rintro e w3 ⟨rfl, R3, B3⟩
        have own3 := hown.but B3 hgw
        have But3 := But.trans B2 B3
        have hs3 := But3.size
        clear ci hown B2 B3 R2
        go_wp2_with (first
          | (go_at_call 16; refine (cr _ R3).mono ?_; rintro e w4 ⟨rfl, rfl⟩; have R4 := R3.old (bel1 w3 (.cells #[.int .i64 y] 2)); have But4 := But.trans But3 (But.of (bel1 w3 (.cells #[.int .i64 y] 2))); clear R3 But3)
          | (at_builtin; refine wpList_appK Try.underlying34 info2 (by decide) rfl (.tmp 19) (.tmp 21) rfl rfl (own3.alloc1 _) (m := [y]) rfl (rowK_new _ _ _ _ _ (by decide)) (by simp; omega) (by simp; omega) ?_; intro v5 w5 o5 g5))
        have R5 := R4.kept (own3.alloc1 _) g5 hgw
        have But5 := But4.own (own3.alloc1 _) g5
        go_roundw
        case rel =>
          refine ⟨k + 1, q2, false, acc ++ [y], by omega, hle2.1, by simp; omega, by go_num, o5, R5, But5, fun _ => ?_, HB.out⟩
          rw [← HA.out]; simp
        case measure => simp [intOf]; omega
    · obtain rfl : k = N := by omega
      rw [Nat.sub_self] at ha hb
      simp only [manyR, List.append_nil] at ha hb
      have cr := fun x hx => right_any g a c bs.length p' st' x hx
      cases st' with
      | true =>
        have hres : intsR bs p st = ([], p', true) := by rw [HD.out, ← hb]; rfl
        have HR := Lib.hid hres
        rw [Bool.not_true] at cr
        clear ha hb hres
        go_wp2_with (go_at_call 16; refine (cr _ R2).mono ?_; rintro e w4 ⟨rfl, rfl⟩)
        go_ret
        rw [HR.out]
        exact ⟨_, rfl, World.ownsRow_nil _ _ _ _, R2, B2⟩
      | false =>
        have hres : intsR bs p st = (acc, p', false) := by rw [HD.out, ← hb, ← ha rfl]; rfl
        have HR := Lib.hid hres
        rw [Bool.not_false] at cr
        clear ha hb hres
        go_wp2_with (go_at_call 16; refine (cr _ R2).mono ?_; rintro e w4 ⟨rfl, rfl⟩)
        go_ret
        rw [HR.out]
        exact ⟨_, rfl, hown, R2, B2⟩
theorem ints_any (g : Nat) (a : Option Addr) (c : Nat) (bs : List Int) (p : Nat) (st : Bool) (hp : p ≤ bs.length) (hl : bs.length ≤ 1000000) (hB : Byt bs) (w : World) (hR : CdAt w g a c bs.length p st) (hr : Row w a c bs) :
    Calls Try.prog 29 #[.pointer (some ⟨g, 0, none⟩)] w fun e w' => ∃ v, e = .returned v ∧ OwnK .i64 2 w' w.heap.size v (intsR bs p st).1 ∧ CdAt w' g a c bs.length (intsR bs p st).2.1 (intsR bs p st).2.2 ∧ But g w w' := by
  have ce := each_ints g a c bs p st hp hl hB w hR hr
  go_enter Try.func29, Try.ntmps29
  go_wp2_with (go_at_call 39; refine ce.mono ?_; rintro e w1 ⟨v, rfl, h1⟩)
  go_ret
  exact ⟨_, rfl, h1⟩
theorem ints_nil (w : World) :
    Calls Try.prog 29 #[.pointer none] w fun e w' => e = .returned (.slice none 0 0) ∧ w = w' := by
  have ce : Calls Try.prog 39 #[.pointer none, .func (.func 26) #[.pointer none] #[]] w fun e w' => e = .returned (.slice none 0 0) ∧ w = w' := by
    have cc := count_nil w
    have cr := right_nil w
    have hfn := fun w => fn_eq 49 (.inl rfl) 26 (.pointer none) w
    go_enter Try.func39, Try.ntmps39
    go_wp2_with (go_at_call 28; refine cc.mono ?_; rintro e w' ⟨rfl, rfl⟩)
    refine wp_loop_rounds 1 ?_
    rw [rounds_succ]
    go_wp2_with (go_at_call 16; refine cr.mono ?_; rintro e w' ⟨rfl, rfl⟩)
    go_ret
    exact ⟨rfl, rfl⟩
  go_enter Try.func29, Try.ntmps29
  go_wp2_with (go_at_call 39; refine ce.mono ?_; rintro e w1 ⟨rfl, rfl⟩)
  go_ret
  exact ⟨rfl, rfl⟩
end Go.Proofs.Ytbadkfocfgojlaa
