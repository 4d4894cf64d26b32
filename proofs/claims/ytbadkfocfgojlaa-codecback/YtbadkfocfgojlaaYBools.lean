/- Package codec: Each of bools. -/
import Derived.Test.YtbadkfocfgojlaaYEach
import Derived.Test.YtbadkfocfgojlaaYBool
namespace Go.Proofs.Ytbadkfocfgojlaa
open Go.RowKit
set_option linter.unusedVariables false
set_option linter.unusedSimpArgs false

/-- A bool as a number. -/
def b2i (b : Bool) : Int := if b then 1 else 0
theorem info4 : (Try.prog.info? 4).map (fun i => (i.zero, i.size, i.bytes)) = some (some (.bool false), 1, 1) := by kernel_rfl
/-- A slice of bools that the call made. -/
abbrev OwnB (w : World) (B : Nat) (v : Value) (l : List Bool) : Prop := w.ownsRow B 4 1 v l.length (l.map Value.bool)
/-- The bools of a list lie where a slice says. -/
def RowB (w : World) (a : Option Addr) (cap : Nat) (l : List Bool) : Prop :=
  l.length ≤ cap ∧ ∀ j, j < l.length → ∃ b off, a = some ⟨b, off, none⟩ ∧ b < w.heap.size ∧ w.cell? ⟨b, off + j, none⟩ = some (.bool (l.getD j false))
theorem RowB.carry {w w' : World} {a : Option Addr} {cap : Nat} {l : List Bool} (h : RowB w a cap l) (hb : Below w.heap.size w w') : RowB w' a cap l := ⟨h.1, fun j hj => by
  obtain ⟨b, off, rfl, hB, hc⟩ := h.2 j hj
  exact ⟨b, off, rfl, Nat.lt_of_lt_of_le hB hb.size, (hb.cell (p := ⟨b, off + j, none⟩) hB).trans hc⟩⟩
theorem OwnB.row {w : World} {B : Nat} {v : Value} {l : List Bool} (h : OwnB w B v l) : ∃ a cap, v = .slice a l.length cap ∧ RowB w a cap l := by
  rcases h.2 with ⟨rfl, h0⟩ | ⟨g, cap, cur, rfl, hb, hg, hnc, hm, hs, ht⟩
  · obtain rfl : l = [] := List.eq_nil_of_length_eq_zero h0
    exact ⟨none, 0, rfl, Nat.zero_le _, fun j hj => absurd hj (by simp)⟩
  · refine ⟨some ⟨g, 0, none⟩, cap, rfl, hnc, fun j hj => ⟨g, 0, rfl, (Array.getElem?_eq_some_iff.1 hg).1, ?_⟩⟩
    have := World.ownsRow.cellAt (g := g) (cap := cap) h j (by omega)
    rw [Nat.zero_add, this]
    simp [hj]
theorem OwnB.alloc1 {w : World} {B : Nat} {v : Value} {l : List Bool} (h : OwnB w B v l) (o : Obj) : OwnB (w.alloc o) B v l := World.ownsRow.alloc h o
theorem OwnB.but {w w' : World} {B g : Nat} {v : Value} {l : List Bool} (h : OwnB w B v l) (hb : But g w w') (hg : g < B) : OwnB w' B v l :=
  World.ownsRow.kept h hb (by
    cases hv : v.ownBlock with
    | none => simp
    | some j => right; intro e; injection e with e; have := (World.ownsRow.lt h j hv).1; omega)
theorem But.ownB {w w1 w' : World} {g : Nat} {v : Value} {l : List Bool} (hb : But g w w1) (h : OwnB w1 w.heap.size v l) (hg : w1.grownBy w' v.ownBlock) : But g w w' :=
  ⟨hg.os.trans hb.os, hg.tape.trans hb.tape, hg.output.trans hb.output, Nat.le_trans hb.size hg.size, fun i hi hn => (hg.block i (Nat.lt_of_lt_of_le hi hb.size) (fun e => by
    have := (World.ownsRow.lt h i e.symm).1
    omega)).trans (hb.block i hi hn)⟩
theorem CdAt.keptB {w w' : World} {B g : Nat} {v : Value} {l : List Bool} {a : Option Addr} {c n : Nat} {p : Int} {st : Bool} (hR : CdAt w g a c n p st) (h : OwnB w B v l) (hg : w.grownBy w' v.ownBlock) (hB : g < B) : CdAt w' g a c n p st :=
  (hg.block g hR.lt (fun e => by have := (World.ownsRow.lt h g e.symm).1; omega)).trans hR
theorem wpList_appB {w : World} {ops : Array Oper} {rest : List Oper} {o : Oper} {a : Act} {Q : Exit → Act → World → Prop} (hgd : o.guard = none) (s x : Operand)
    (ho : o.op = .call { callee := .builtin .append, args := #[s, x], argTypes := #[58, 58] }) {B : Nat} {v : Value} {l : List Bool} (hs : a.eval s = v) (hown : OwnB w B v l)
    {G : Nat} {z : Bool} (hx : a.eval x = .slice (some ⟨G, 0, none⟩) 1 1) (hr : w.cell? ⟨G, 0, none⟩ = some (.bool z)) (hsz : l.length ≤ 10000000) (hB : B ≤ w.heap.size)
    (h : ∀ v' w', OwnB w' B v' (l ++ [z]) → w.grownBy w' v.ownBlock → wpList Try.prog ops Q rest (a.put o.dst v') w') : wpList Try.prog ops Q (o :: rest) a w := by
  obtain ⟨i, hi, hz, h1, h2⟩ := info_parts info4
  obtain ⟨v', w', e, o', g, _⟩ := run_append_own (P := Try.prog) w B 58 o.type 4 i _ 1 1 Try.underlying58 hi hz h1 h2 rfl (by decide) v l.length _ hown ⟨G, 0, none⟩ 1 1 [.bool z] rfl (fun j u hj => by
      match j, hj with
      | 0, hj => rw [Go.WideShapes.add_plain, Nat.add_zero, hr]; simpa using hj
      | j + 1, hj => simp at hj) (fun u hu => by
      obtain rfl : u = .bool z := by simpa using hu
      rfl) (by simp only [maxLen]; omega) (by omega) hB
  have o2 : OwnB w' B v' (l ++ [z]) := by simpa [OwnB] using o'
  refine wpList_plain hgd fun _ hK => ?_
  unfold Oper.wp execOp
  simp only [ho, resolve, invoke, builtin, Sem.run_bind, Sem.run_pure, Result.andThen_ok, List.map_toArray, List.map_cons, List.map_nil, hs, hx, e]
  exact hK _ _ (h v' w' o2 g)
theorem bool_cell (w : World) (z : Bool) (T : TypeId) : (w.alloc (.cells #[.bool z] T)).cell? ⟨w.heap.size, 0, none⟩ = some (.bool z) := by simp [World.cell?_alloc_at]
theorem boolR_stop (bs : List Int) (p : Nat) : boolR bs p true = (0, p, true) := if_pos (.inl rfl)
theorem bools_two (bs : List Int) (j p : Nat) (st : Bool) : (boolsR bs (j + 1) p st).2 = (boolsR bs j (boolR bs p st).2.1 (boolR bs p st).2.2).2 := by
  cases st with
  | true => rw [bools_stop, boolR_stop, bools_stop]
  | false => simp [boolsR]
theorem bools_one (bs : List Int) (j p : Nat) (st : Bool) (h : (boolR bs p st).2.2 = false) : st = false ∧ (boolsR bs (j + 1) p st).1 = (boolR bs p st).1 :: (boolsR bs j (boolR bs p st).2.1 false).1 := by
  cases st with
  | true => rw [boolR_stop] at h; cases h
  | false => exact ⟨rfl, by simp [boolsR, h]⟩
theorem b2i_eq {y : Int} (h : y = 0 ∨ y = 1) : b2i (y == 1) = y := by
  rcases h with rfl | rfl <;> rfl
theorem boolR_01 (bs : List Int) (p : Nat) (st : Bool) (hB : Byt bs) : (boolR bs p st).1 = 0 ∨ (boolR bs p st).1 = 1 := by
  unfold boolR
  split
  · exact .inl rfl
  · rename_i h
    have := hB.at p
    have : ¬ 1 < bs.getD p 0 := fun e => h (.inr (.inr e))
    show bs.getD p 0 = 0 ∨ bs.getD p 0 = 1
    omega
theorem each_bools (g : Nat) (a : Option Addr) (c : Nat) (bs : List Int) (p : Nat) (st : Bool) (hp : p ≤ bs.length) (hl : bs.length ≤ 1000000) (hB : Byt bs) (w : World) (hR : CdAt w g a c bs.length p st) (hr : Row w a c bs) :
    Calls Try.prog 32 #[.pointer (some ⟨g, 0, none⟩), .func (.func 27) #[.pointer (some ⟨g, 0, none⟩)] #[]] w fun e w' => ∃ v z, e = .returned v ∧ OwnB w' w.heap.size v z ∧ z.map b2i = (eachR bs p st).1 ∧ CdAt w' g a c bs.length (eachR bs p st).2.1 (eachR bs p st).2.2 ∧ But g w w' := by
  have cc := count_any g a c bs p st hp hl hB w hR hr
  have hle := countR_le bs p st hp hB
  have hin := countR_in bs p st hp
  have hdef : eachR bs p st = (if (boolsR bs (countR bs p st).1.toNat (countR bs p st).2.1 (countR bs p st).2.2).2.2 then [] else (boolsR bs (countR bs p st).1.toNat (countR bs p st).2.1 (countR bs p st).2.2).1, (boolsR bs (countR bs p st).1.toNat (countR bs p st).2.1 (countR bs p st).2.2).2) := rfl
  obtain ⟨⟨x, q, t⟩, hC⟩ : ∃ r, r = countR bs p st := ⟨_, rfl⟩
  rw [← hC] at cc hle hin hdef
  simp only at cc hle hin hdef
  clear hC
  obtain ⟨N, rfl⟩ := Int.eq_ofNat_of_zero_le hin.1
  rw [Int.toNat_natCast] at hdef
  have hgw := hR.lt
  have HD := Lib.hid hdef
  clear hdef
  have hfn := fun w => fn_eq 24 (.inr rfl) 27 (.pointer (some ⟨g, 0, none⟩)) w
  go_enter Try.func32, Try.ntmps32
  go_wp2_with fail
  refine cc.mono ?_
  rintro e w1 ⟨rfl, R1, B1⟩
  have HRow := Lib.hid (fun (x : World) (hx : But g w x) => hr.cbut hR hx)
  clear cc hr hR
  go_wp2_with fail
  go_loopw [6, 13] (fun v i wr => ∃ (k p' : Nat) (st' : Bool) (acc : List Bool), k ≤ N ∧ p' ≤ bs.length ∧ acc.length ≤ k ∧ i = .int .i64 k ∧ OwnB wr w.heap.size v acc ∧ CdAt wr g a c bs.length p' st' ∧ But g w wr ∧
    (st' = false → acc.map b2i ++ (boolsR bs (N - k) p' st').1 = (boolsR bs N q t).1) ∧ (boolsR bs (N - k) p' st').2 = (boolsR bs N q t).2) (fun _ i _ => N - (intOf i).toNat)
  case atStart => exact ⟨0, q, t, [], Nat.zero_le _, hle.1, Nat.le_refl _, rfl, World.ownsRow_nil _ _ _ _, R1, B1, fun _ => rfl, rfl⟩
  case round =>
    clear R1 B1
    obtain ⟨k, p', st', acc, hk, hp', hal, rfl, hown, R2, B2, ha, hb⟩ := hrel
    by_cases hlt : k < N
    · have ci := bool_any g a c bs p' st' hp' hl hB wr R2 (HRow.out wr B2)
      have hle2 := boolR_le bs p' st' hp'
      obtain ⟨j, hj⟩ : ∃ j, N - k = j + 1 := ⟨N - k - 1, by omega⟩
      have hy01 := boolR_01 bs p' st' hB
      have h1 := bools_one bs j p' st'
      rw [hj] at ha hb
      rw [bools_two] at hb
      obtain ⟨⟨y, q2, t2⟩, hI⟩ : ∃ r, r = boolR bs p' st' := ⟨_, rfl⟩
      rw [← hI] at ci hle2 hb h1 hy01
      simp only at ci hle2 hb h1 hy01
      have hj' : j = N - (k + 1) := by omega
      rw [hj'] at ha hb h1
      have HB := Lib.hid hb
      clear hI hb hj
      cases t2 with
      | true =>
        clear h1 ha
        have cr := fun x hx => right_any g a c bs.length q2 true x hx
        rw [Bool.not_true] at cr
        go_wp2_with (first
          | (go_at_call 27; refine ci.mono ?_; rintro e w3 ⟨rfl, R3, B3⟩; have own3 := hown.but B3 hgw; have But3 := But.trans B2 B3; clear ci hown B2 B3 R2)
          | (go_at_call 16; refine (cr _ R3).mono ?_; rintro e w4 ⟨rfl, rfl⟩))
        go_roundw
        case rel => exact ⟨k + 1, q2, true, acc, by omega, hle2.1, by omega, by go_num, own3, R3, But3, fun h => (by cases h), HB.out⟩
        case measure => simp [intOf]; omega
      | false =>
        obtain ⟨rfl, h2⟩ := h1 rfl
        have ha := ha rfl
        rw [h2] at ha
        have HA := Lib.hid ha
        clear h1 h2 ha
        have cr := fun x hx => right_any g a c bs.length q2 false x hx
        rw [Bool.not_false] at cr
        go_wp2_with fail
        refine ci.mono ?_
        rintro e w3 ⟨rfl, R3, B3⟩
        have own3 := hown.but B3 hgw
        have But3 := But.trans B2 B3
        have hs3 := But3.size
        clear ci hown B2 B3 R2
        go_wp2_with (first
          | (go_at_call 16; refine (cr _ R3).mono ?_; rintro e w4 ⟨rfl, rfl⟩; have R4 := R3.old (bel1 w3 (.cells #[.bool (y == 1)] 4)); have But4 := But.trans But3 (But.of (bel1 w3 (.cells #[.bool (y == 1)] 4))); clear R3 But3)
          | (at_builtin; refine wpList_appB rfl (.tmp 19) (.tmp 21) rfl rfl (own3.alloc1 _) (z := y == 1) rfl (bool_cell _ _ _) (by omega) (by simp; omega) ?_; intro v5 w5 o5 g5))
        have R5 := R4.keptB (own3.alloc1 _) g5 hgw
        have But5 := But4.ownB (own3.alloc1 _) g5
        go_roundw
        case rel =>
          refine ⟨k + 1, q2, false, acc ++ [y == 1], by omega, hle2.1, by simp; omega, by go_num, o5, R5, But5, fun _ => ?_, HB.out⟩
          rw [← HA.out, List.map_append, List.append_assoc]
          simp [b2i_eq hy01]
        case measure => simp [intOf]; omega
    · obtain rfl : k = N := by omega
      rw [Nat.sub_self] at ha hb
      simp only [boolsR, List.append_nil] at ha hb
      have cr := fun x hx => right_any g a c bs.length p' st' x hx
      cases st' with
      | true =>
        have hres : eachR bs p st = ([], p', true) := by rw [HD.out, ← hb]; rfl
        have HR := Lib.hid hres
        rw [Bool.not_true] at cr
        clear ha hb hres
        go_wp2_with (go_at_call 16; refine (cr _ R2).mono ?_; rintro e w4 ⟨rfl, rfl⟩)
        go_ret
        rw [HR.out]
        exact ⟨_, [], rfl, World.ownsRow_nil _ _ _ _, rfl, R2, B2⟩
      | false =>
        have hres : eachR bs p st = (acc.map b2i, p', false) := by rw [HD.out, ← hb, ← ha rfl]; rfl
        have HR := Lib.hid hres
        rw [Bool.not_false] at cr
        clear ha hb hres
        go_wp2_with (go_at_call 16; refine (cr _ R2).mono ?_; rintro e w4 ⟨rfl, rfl⟩)
        go_ret
        rw [HR.out]
        exact ⟨_, acc, rfl, hown, rfl, R2, B2⟩
end Go.Proofs.Ytbadkfocfgojlaa
