/- Package decode: lists read: Each of package codec. -/
import Derived.Test.YtjfjekncmejfpaaRItm
namespace Go.Proofs.Ytjfjekncmejfpaa
open Go.RowKit
set_option maxRecDepth 20000
set_option linter.unusedVariables false
set_option linter.unusedSimpArgs false

/-- What Each reads: nothing behind a stop. -/
def eachG {α : Type} (R : RdF α) : RdF (List α) := fun bs p st => (if (listR R bs p st).2.2 then [] else (listR R bs p st).1, (listR R bs p st).2)
theorem loop_two {α : Type} {R : RdF α} (hs : ∀ bs p, (R bs p true).2 = (p, true)) (bs : List Int) (j p : Nat) (st : Bool) : (loopR R bs (j + 1) p st).2 = (loopR R bs j (R bs p st).2.1 (R bs p st).2.2).2 := by
  cases st with
  | true => rw [loop_stop, hs, loop_stop]
  | false => simp [loopR]
theorem loop_one {α : Type} {R : RdF α} (hs : ∀ bs p, (R bs p true).2 = (p, true)) (bs : List Int) (j p : Nat) (st : Bool) (h : (R bs p st).2.2 = false) : st = false ∧ (loopR R bs (j + 1) p st).1 = (R bs p st).1 :: (loopR R bs j (R bs p st).2.1 false).1 := by
  cases st with
  | true => rw [hs] at h; cases h
  | false => exact ⟨rfl, by simp [loopR, h]⟩
theorem each_many (bs : List Int) (p : Nat) (st : Bool) : eachG intR bs p st = intsR bs p st := by
  unfold eachG listR intsR
  simp only [loop_many]
/-- A slice of the call's own. -/
abbrev OwnR {α : Type} (e : TypeId) (sz : Nat) (enc : α → List Value) (w : World) (B : Nat) (v : Value) (l : List α) : Prop := w.ownsRow B e sz v l.length (l.map enc).flatten
section
variable {α : Type} {e : TypeId} {sz : Nat} {enc : α → List Value} {w w' w1 : World} {B g : Nat} {v : Value} {l : List α}
theorem OwnR.but (h : OwnR e sz enc w B v l) (hb : But g w w') (hg : g < B) : OwnR e sz enc w' B v l :=
  World.ownsRow.kept h hb (by
    cases hv : v.ownBlock with
    | none => simp
    | some j => right; intro e; injection e with e; have := (World.ownsRow.lt h j hv).1; omega)
theorem OwnR.alloc1 (h : OwnR e sz enc w B v l) (o : Obj) : OwnR e sz enc (w.alloc o) B v l := World.ownsRow.alloc h o
theorem But.ownR (hb : But g w w1) (h : OwnR e sz enc w1 w.heap.size v l) (hg : w1.grownBy w' v.ownBlock) : But g w w' :=
  ⟨hg.os.trans hb.os, hg.tape.trans hb.tape, hg.output.trans hb.output, Nat.le_trans hb.size hg.size, fun i hi hn => (hg.block i (Nat.lt_of_lt_of_le hi hb.size) (fun e => by
    have := (World.ownsRow.lt h i e.symm).1
    omega)).trans (hb.block i hi hn)⟩
theorem own_block_kind {n : Nat} {vs : List Value} (h : w.ownsRow B e sz v n vs) {i : Nat} (hi : v.ownBlock = some i) : B ≤ i ∧ ∃ cur, Blk w i cur e := by
  rcases h.2 with ⟨rfl, _⟩ | ⟨g, cap, cur, rfl, hb, hg, _⟩
  · simp [Value.ownBlock] at hi
  · obtain rfl : g = i := by simpa [Value.ownBlock] using hi
    exact ⟨hb, cur, hg⟩
end
theorem CdAt.keptR {α : Type} {e : TypeId} {sz : Nat} {enc : α → List Value} {w w' : World} {B g : Nat} {a : Option Addr} {c n : Nat} {p : Int} {st : Bool} {v : Value} {l : List α} (H : CdAt w g a c n p st) (ho : OwnR e sz enc w B v l) (hg : w.grownBy w' v.ownBlock) (hB : g < B) : CdAt w' g a c n p st :=
  (hg.block g H.lt (fun e => by have := (World.ownsRow.lt ho g e.symm).1; omega)).trans H
theorem els_single {α : Type} (w : World) {enc : α → List Value} {sz : Nat} (d x : α) (T : TypeId) (hlen : ∀ x, (enc x).length = sz) (hs : 0 < sz) : Els sz enc (w.alloc (.cells (enc x).toArray T)) (some ⟨w.heap.size, 0, none⟩) [x].length fun k => [x].getD k d := fun k j hk hj => by
  obtain rfl : k = 0 := by simpa using hk
  refine ⟨w.heap.size, 0, rfl, by simp, ?_⟩
  rw [(blk_new w _ T).cell]
  simp
theorem fn_eq_sp (f : Nat) (p : Value) (w : World) : Sem.run Try.prog (binOp BinOp.eql 107 (Value.func (Fn.func f) #[p] #[]) Value.nilFunc) w = .ok (.bool false) w := by
  kernel_rfl
set_option maxHeartbeats 1000000 in
theorem each_sp (bs : List Int) (h g : Nat) (a : Option Addr) (c q : Nat) (st : Bool) (w : World) (H : RdP bs w h g a c q st) :
    Calls Try.prog 84 #[.pointer (some ⟨g, 0, none⟩), .func (.func 70) #[.pointer (some ⟨h, 0, none⟩)] #[]] w fun e w' => ∃ v, e = .returned v ∧ OwnR 24 1 encZ w' w.heap.size v (eachG intR bs q st).1 ∧ RdP bs w' h g a c (eachG intR bs q st).2.1 (eachG intR bs q st).2.2 ∧ But g w w' := by
  have cc := count_any g a c bs q st H.le H.len H.byt w H.cd H.row
  have hle := countR_le bs q st H.le H.byt
  have hin := countR_in bs q st H.le
  have hdef : eachG intR bs q st = (if (loopR intR bs (countR bs q st).1.toNat (countR bs q st).2.1 (countR bs q st).2.2).2.2 then [] else (loopR intR bs (countR bs q st).1.toNat (countR bs q st).2.1 (countR bs q st).2.2).1, (loopR intR bs (countR bs q st).1.toNat (countR bs q st).2.1 (countR bs q st).2.2).2) := rfl
  obtain ⟨⟨x0, q0, t0⟩, hC⟩ : ∃ r, r = countR bs q st := ⟨_, rfl⟩
  rw [← hC] at cc hle hin hdef
  simp only at cc hle hin hdef
  clear hC
  obtain ⟨N, rfl⟩ := Int.eq_ofNat_of_zero_le hin.1
  rw [Int.toNat_natCast] at hdef
  have hN : N ≤ 1000000 := by have := H.len; omega
  have hgw := H.cd.lt
  have HD := Lib.hid hdef
  have HH := Lib.hid H
  have hq0 := hle.1
  have hmx : 1000002 ≤ maxLen := by decide
  obtain ⟨i0, hi, hz0, hz1, hz2⟩ := info_parts infoZ22
  have HI := Lib.hid (And.intro hi (And.intro hz0 (And.intro hz1 hz2)))
  clear hdef H hi hz0 hz1 hz2 hle hin
  have hfn := fun w => fn_eq_sp 70 (.pointer (some ⟨h, 0, none⟩)) w
  go_enter Try.func84, Try.ntmps84
  go_wp2_with fail
  refine cc.mono ?_
  rintro e w1 ⟨rfl, R1, B1⟩
  have H1 := HH.out.but B1 hq0 R1
  clear cc R1
  go_wp2_with fail
  go_loopw [6, 13] (fun v i wr => ∃ (k p' : Nat) (st' : Bool) (acc : List Int), k ≤ N ∧ acc.length ≤ k ∧ i = .int .i64 k ∧ Hid (OwnR 24 1 encZ wr w.heap.size v acc) ∧ RdP bs wr h g a c p' st' ∧ But g w wr ∧
    Hid ((st' = false → acc ++ (loopR intR bs (N - k) p' st').1 = (loopR intR bs N q0 t0).1) ∧ (loopR intR bs (N - k) p' st').2 = (loopR intR bs N q0 t0).2)) (fun _ i _ => N - (intOf i).toNat)
  case atStart => exact ⟨0, q0, t0, [], Nat.zero_le _, Nat.le_refl _, rfl, Lib.hid (World.ownsRow_nil _ _ _ _), H1, B1, Lib.hid ⟨fun _ => rfl, rfl⟩⟩
  case round =>
    clear H1 B1
    obtain ⟨k, p', st', acc, hk, hal, rfl, hown, R2, B2, hab⟩ := hrel
    have hgr := R2.cd.lt
    by_cases hlt : k < N
    · have ci := length_any bs h g a c p' st' wr R2
      obtain ⟨j, hj⟩ : ∃ j, N - k = j + 1 := ⟨N - k - 1, by omega⟩
      have ha := hab.out.1
      have hb := hab.out.2
      have h1 := loop_one (R := intR) int_reads.stop bs j p' st'
      rw [hj] at ha hb
      rw [loop_two int_reads.stop] at hb
      obtain ⟨⟨y, q2, t2⟩, hI⟩ : ∃ r, r = intR bs p' st' := ⟨_, rfl⟩
      rw [← hI] at ci hb h1
      simp only at ci hb h1
      have hj' : j = N - (k + 1) := by omega
      rw [hj'] at ha hb h1
      have HB := Lib.hid hb
      clear hI hb hj hab
      have B2s := B2.size
      cases t2 with
      | true =>
        clear h1 ha
        have cr := fun x (hx : RdP bs x h g a c q2 true) => right_any g a c bs.length q2 true x hx.cd
        rw [Bool.not_true] at cr
        go_wp2_with fail
        refine ci.mono ?_
        rintro e w3 ⟨rfl, R3, B3⟩
        have own3 := Lib.hid (hown.out.but B3 hgw)
        have But3 := But.trans B2 B3
        clear ci hown B2 B3 R2
        go_wp2_with (go_at_call 25; refine (cr _ R3).mono ?_; rintro e w4 ⟨rfl, rfl⟩)
        go_roundw
        case rel => exact ⟨k + 1, q2, true, acc, by omega, by omega, by go_num, own3, R3, But3, Lib.hid ⟨fun h => (by cases h), HB.out⟩⟩
        case measure => simp [intOf]; omega
      | false =>
        obtain ⟨rfl, h2⟩ := h1 rfl
        have ha := ha rfl
        rw [h2] at ha
        have HA := Lib.hid ha
        clear h1 h2 ha
        have cr := fun x (hx : RdP bs x h g a c q2 false) => right_any g a c bs.length q2 false x hx.cd
        rw [Bool.not_false] at cr
        go_wp2_with fail
        refine ci.mono ?_
        rintro e w3 ⟨rfl, R3, B3⟩
        have own3 := Lib.hid (hown.out.but B3 hgw)
        have But3 := But.trans B2 B3
        have hs3 := But3.size
        clear ci hown B2 B3 R2
        have E0 := els_single w3 (enc := encZ) (sz := 1) (0 : Int) (y : Int) 24 encZ_len (by decide)
        have E := Lib.hid E0
        clear E0
        have own5 := own3.out.alloc1 (.cells #[.int .i64 y] 24)
        have R5 := R3.old (tbel1 w3 (.cells #[.int .i64 y] 24))
        have But5 := But.step But3 (tbel1 w3 (.cells #[.int .i64 y] 24))
        have hs5 := But5.size
        obtain ⟨hi, hz0, hz1, hz2⟩ := HI.out
        go_wp2_with (first
          | (go_at_call 25; refine (cr _ R3).mono ?_; rintro e w4 ⟨rfl, rfl⟩)
          | (at_builtin; refine wpList_els (B := w.heap.size) (l := acc) (m := [y]) (d := (0 : Int)) (enc := encZ) (sz := 1) (w0 := w3.alloc (.cells #[.int .i64 y] 24)) rfl (.tmp 19) (.tmp 21) rfl Try.underlying73 hi hz0 hz1 hz2 rfl (by decide) encZ_len encZ_one rfl own5 rfl E.out (by simp; omega) (by simp; omega) (Below.refl _ _) hs5 (fun h => by cases h) ?_; intro v5 w5 o5 b5 g5))
        have But6 := But5.ownR own5 g5
        have R6 := HH.out.but But6 R5.le (R5.cd.keptR own5 g5 hgw)
        go_roundw
        case rel =>
          refine ⟨k + 1, q2, false, acc ++ [y], by omega, by simp; omega, by go_num, Lib.hid o5, R6, But6, Lib.hid ⟨fun _ => ?_, HB.out⟩⟩
          rw [← HA.out]; simp
        case measure => simp [intOf]; omega
    · obtain rfl : k = N := by omega
      have ha := hab.out.1
      have hb := hab.out.2
      rw [Nat.sub_self] at ha hb
      simp only [loopR, List.append_nil] at ha hb
      have cr := fun x (hx : RdP bs x h g a c p' st') => right_any g a c bs.length p' st' x hx.cd
      cases st' with
      | true =>
        have hres : eachG intR bs q st = ([], p', true) := by rw [HD.out, ← hb]; rfl
        have HR := Lib.hid hres
        rw [Bool.not_true] at cr
        clear ha hb hres hab
        go_wp2_with (go_at_call 25; refine (cr _ R2).mono ?_; rintro e w4 ⟨rfl, rfl⟩)
        go_ret
        rw [HR.out]
        exact ⟨_, rfl, World.ownsRow_nil _ _ _ _, R2, B2⟩
      | false =>
        have hres : eachG intR bs q st = (acc, p', false) := by rw [HD.out, ← hb, ← ha rfl]; rfl
        have HR := Lib.hid hres
        rw [Bool.not_false] at cr
        clear ha hb hres hab
        go_wp2_with (go_at_call 25; refine (cr _ R2).mono ?_; rintro e w4 ⟨rfl, rfl⟩)
        go_ret
        rw [HR.out]
        exact ⟨_, rfl, hown.out, R2, B2⟩
theorem fn_eq_num (f : Nat) (p : Value) (w : World) : Sem.run Try.prog (binOp BinOp.eql 57 (Value.func (Fn.func f) #[p] #[]) Value.nilFunc) w = .ok (.bool false) w := by
  kernel_rfl
set_option maxHeartbeats 1000000 in
theorem each_num (bs : List Int) (h g : Nat) (a : Option Addr) (c q : Nat) (st : Bool) (w : World) (H : RdP bs w h g a c q st) :
    Calls Try.prog 85 #[.pointer (some ⟨g, 0, none⟩), .func (.func 69) #[.pointer (some ⟨h, 0, none⟩)] #[]] w fun e w' => ∃ v, e = .returned v ∧ OwnR 3 1 encZ w' w.heap.size v (eachG intR bs q st).1 ∧ RdP bs w' h g a c (eachG intR bs q st).2.1 (eachG intR bs q st).2.2 ∧ But g w w' := by
  have cc := count_any g a c bs q st H.le H.len H.byt w H.cd H.row
  have hle := countR_le bs q st H.le H.byt
  have hin := countR_in bs q st H.le
  have hdef : eachG intR bs q st = (if (loopR intR bs (countR bs q st).1.toNat (countR bs q st).2.1 (countR bs q st).2.2).2.2 then [] else (loopR intR bs (countR bs q st).1.toNat (countR bs q st).2.1 (countR bs q st).2.2).1, (loopR intR bs (countR bs q st).1.toNat (countR bs q st).2.1 (countR bs q st).2.2).2) := rfl
  obtain ⟨⟨x0, q0, t0⟩, hC⟩ : ∃ r, r = countR bs q st := ⟨_, rfl⟩
  rw [← hC] at cc hle hin hdef
  simp only at cc hle hin hdef
  clear hC
  obtain ⟨N, rfl⟩ := Int.eq_ofNat_of_zero_le hin.1
  rw [Int.toNat_natCast] at hdef
  have hN : N ≤ 1000000 := by have := H.len; omega
  have hgw := H.cd.lt
  have HD := Lib.hid hdef
  have HH := Lib.hid H
  have hq0 := hle.1
  have hmx : 1000002 ≤ maxLen := by decide
  obtain ⟨i0, hi, hz0, hz1, hz2⟩ := info_parts infoZ3
  have HI := Lib.hid (And.intro hi (And.intro hz0 (And.intro hz1 hz2)))
  clear hdef H hi hz0 hz1 hz2 hle hin
  have hfn := fun w => fn_eq_num 69 (.pointer (some ⟨h, 0, none⟩)) w
  go_enter Try.func85, Try.ntmps85
  go_wp2_with fail
  refine cc.mono ?_
  rintro e w1 ⟨rfl, R1, B1⟩
  have H1 := HH.out.but B1 hq0 R1
  clear cc R1
  go_wp2_with fail
  go_loopw [6, 13] (fun v i wr => ∃ (k p' : Nat) (st' : Bool) (acc : List Int), k ≤ N ∧ acc.length ≤ k ∧ i = .int .i64 k ∧ Hid (OwnR 3 1 encZ wr w.heap.size v acc) ∧ RdP bs wr h g a c p' st' ∧ But g w wr ∧
    Hid ((st' = false → acc ++ (loopR intR bs (N - k) p' st').1 = (loopR intR bs N q0 t0).1) ∧ (loopR intR bs (N - k) p' st').2 = (loopR intR bs N q0 t0).2)) (fun _ i _ => N - (intOf i).toNat)
  case atStart => exact ⟨0, q0, t0, [], Nat.zero_le _, Nat.le_refl _, rfl, Lib.hid (World.ownsRow_nil _ _ _ _), H1, B1, Lib.hid ⟨fun _ => rfl, rfl⟩⟩
  case round =>
    clear H1 B1
    obtain ⟨k, p', st', acc, hk, hal, rfl, hown, R2, B2, hab⟩ := hrel
    have hgr := R2.cd.lt
    by_cases hlt : k < N
    · have ci := number_any bs h g a c p' st' wr R2
      obtain ⟨j, hj⟩ : ∃ j, N - k = j + 1 := ⟨N - k - 1, by omega⟩
      have ha := hab.out.1
      have hb := hab.out.2
      have h1 := loop_one (R := intR) int_reads.stop bs j p' st'
      rw [hj] at ha hb
      rw [loop_two int_reads.stop] at hb
      obtain ⟨⟨y, q2, t2⟩, hI⟩ : ∃ r, r = intR bs p' st' := ⟨_, rfl⟩
      rw [← hI] at ci hb h1
      simp only at ci hb h1
      have hj' : j = N - (k + 1) := by omega
      rw [hj'] at ha hb h1
      have HB := Lib.hid hb
      clear hI hb hj hab
      have B2s := B2.size
      cases t2 with
      | true =>
        clear h1 ha
        have cr := fun x (hx : RdP bs x h g a c q2 true) => right_any g a c bs.length q2 true x hx.cd
        rw [Bool.not_true] at cr
        go_wp2_with fail
        refine ci.mono ?_
        rintro e w3 ⟨rfl, R3, B3⟩
        have own3 := Lib.hid (hown.out.but B3 hgw)
        have But3 := But.trans B2 B3
        clear ci hown B2 B3 R2
        go_wp2_with (go_at_call 25; refine (cr _ R3).mono ?_; rintro e w4 ⟨rfl, rfl⟩)
        go_roundw
        case rel => exact ⟨k + 1, q2, true, acc, by omega, by omega, by go_num, own3, R3, But3, Lib.hid ⟨fun h => (by cases h), HB.out⟩⟩
        case measure => simp [intOf]; omega
      | false =>
        obtain ⟨rfl, h2⟩ := h1 rfl
        have ha := ha rfl
        rw [h2] at ha
        have HA := Lib.hid ha
        clear h1 h2 ha
        have cr := fun x (hx : RdP bs x h g a c q2 false) => right_any g a c bs.length q2 false x hx.cd
        rw [Bool.not_false] at cr
        go_wp2_with fail
        refine ci.mono ?_
        rintro e w3 ⟨rfl, R3, B3⟩
        have own3 := Lib.hid (hown.out.but B3 hgw)
        have But3 := But.trans B2 B3
        have hs3 := But3.size
        clear ci hown B2 B3 R2
        have E0 := els_single w3 (enc := encZ) (sz := 1) (0 : Int) (y : Int) 3 encZ_len (by decide)
        have E := Lib.hid E0
        clear E0
        have own5 := own3.out.alloc1 (.cells #[.int .i64 y] 3)
        have R5 := R3.old (tbel1 w3 (.cells #[.int .i64 y] 3))
        have But5 := But.step But3 (tbel1 w3 (.cells #[.int .i64 y] 3))
        have hs5 := But5.size
        obtain ⟨hi, hz0, hz1, hz2⟩ := HI.out
        go_wp2_with (first
          | (go_at_call 25; refine (cr _ R3).mono ?_; rintro e w4 ⟨rfl, rfl⟩)
          | (at_builtin; refine wpList_els (B := w.heap.size) (l := acc) (m := [y]) (d := (0 : Int)) (enc := encZ) (sz := 1) (w0 := w3.alloc (.cells #[.int .i64 y] 3)) rfl (.tmp 19) (.tmp 21) rfl Try.underlying74 hi hz0 hz1 hz2 rfl (by decide) encZ_len encZ_one rfl own5 rfl E.out (by simp; omega) (by simp; omega) (Below.refl _ _) hs5 (fun h => by cases h) ?_; intro v5 w5 o5 b5 g5))
        have But6 := But5.ownR own5 g5
        have R6 := HH.out.but But6 R5.le (R5.cd.keptR own5 g5 hgw)
        go_roundw
        case rel =>
          refine ⟨k + 1, q2, false, acc ++ [y], by omega, by simp; omega, by go_num, Lib.hid o5, R6, But6, Lib.hid ⟨fun _ => ?_, HB.out⟩⟩
          rw [← HA.out]; simp
        case measure => simp [intOf]; omega
    · obtain rfl : k = N := by omega
      have ha := hab.out.1
      have hb := hab.out.2
      rw [Nat.sub_self] at ha hb
      simp only [loopR, List.append_nil] at ha hb
      have cr := fun x (hx : RdP bs x h g a c p' st') => right_any g a c bs.length p' st' x hx.cd
      cases st' with
      | true =>
        have hres : eachG intR bs q st = ([], p', true) := by rw [HD.out, ← hb]; rfl
        have HR := Lib.hid hres
        rw [Bool.not_true] at cr
        clear ha hb hres hab
        go_wp2_with (go_at_call 25; refine (cr _ R2).mono ?_; rintro e w4 ⟨rfl, rfl⟩)
        go_ret
        rw [HR.out]
        exact ⟨_, rfl, World.ownsRow_nil _ _ _ _, R2, B2⟩
      | false =>
        have hres : eachG intR bs q st = (acc, p', false) := by rw [HD.out, ← hb, ← ha rfl]; rfl
        have HR := Lib.hid hres
        rw [Bool.not_false] at cr
        clear ha hb hres hab
        go_wp2_with (go_at_call 25; refine (cr _ R2).mono ?_; rintro e w4 ⟨rfl, rfl⟩)
        go_ret
        rw [HR.out]
        exact ⟨_, rfl, hown.out, R2, B2⟩
theorem fn_eq_item (f : Nat) (p : Value) (w : World) : Sem.run Try.prog (binOp BinOp.eql 105 (Value.func (Fn.func f) #[p] #[]) Value.nilFunc) w = .ok (.bool false) w := by
  kernel_rfl
set_option maxHeartbeats 1000000 in
theorem each_item (bs : List Int) (h g : Nat) (a : Option Addr) (c q : Nat) (st : Bool) (w : World) (H : RdP bs w h g a c q st) :
    Calls Try.prog 72 #[.pointer (some ⟨g, 0, none⟩), .func (.func 73) #[.pointer (some ⟨h, 0, none⟩)] #[]] w fun e w' => ∃ v, e = .returned v ∧ OwnR 49 7 encI w' w.heap.size v (eachG itemR bs q st).1 ∧ RdP bs w' h g a c (eachG itemR bs q st).2.1 (eachG itemR bs q st).2.2 ∧ But g w w' := by
  have cc := count_any g a c bs q st H.le H.len H.byt w H.cd H.row
  have hle := countR_le bs q st H.le H.byt
  have hin := countR_in bs q st H.le
  have hdef : eachG itemR bs q st = (if (loopR itemR bs (countR bs q st).1.toNat (countR bs q st).2.1 (countR bs q st).2.2).2.2 then [] else (loopR itemR bs (countR bs q st).1.toNat (countR bs q st).2.1 (countR bs q st).2.2).1, (loopR itemR bs (countR bs q st).1.toNat (countR bs q st).2.1 (countR bs q st).2.2).2) := rfl
  obtain ⟨⟨x0, q0, t0⟩, hC⟩ : ∃ r, r = countR bs q st := ⟨_, rfl⟩
  rw [← hC] at cc hle hin hdef
  simp only at cc hle hin hdef
  clear hC
  obtain ⟨N, rfl⟩ := Int.eq_ofNat_of_zero_le hin.1
  rw [Int.toNat_natCast] at hdef
  have hN : N ≤ 1000000 := by have := H.len; omega
  have hgw := H.cd.lt
  have HD := Lib.hid hdef
  have HH := Lib.hid H
  have hq0 := hle.1
  have hmx : 1000002 ≤ maxLen := by decide
  obtain ⟨i0, hi, hz0, hz1, hz2⟩ := info_parts infoI7
  have HI := Lib.hid (And.intro hi (And.intro hz0 (And.intro hz1 hz2)))
  clear hdef H hi hz0 hz1 hz2 hle hin
  have hfn := fun w => fn_eq_item 73 (.pointer (some ⟨h, 0, none⟩)) w
  go_enter Try.func72, Try.ntmps72
  go_wp2_with fail
  refine cc.mono ?_
  rintro e w1 ⟨rfl, R1, B1⟩
  have H1 := HH.out.but B1 hq0 R1
  clear cc R1
  go_wp2_with fail
  go_loopw [6, 13] (fun v i wr => ∃ (k p' : Nat) (st' : Bool) (acc : List I7), k ≤ N ∧ acc.length ≤ k ∧ i = .int .i64 k ∧ Hid (OwnR 49 7 encI wr w.heap.size v acc) ∧ RdP bs wr h g a c p' st' ∧ But g w wr ∧
    Hid ((st' = false → acc ++ (loopR itemR bs (N - k) p' st').1 = (loopR itemR bs N q0 t0).1) ∧ (loopR itemR bs (N - k) p' st').2 = (loopR itemR bs N q0 t0).2)) (fun _ i _ => N - (intOf i).toNat)
  case atStart => exact ⟨0, q0, t0, [], Nat.zero_le _, Nat.le_refl _, rfl, Lib.hid (World.ownsRow_nil _ _ _ _), H1, B1, Lib.hid ⟨fun _ => rfl, rfl⟩⟩
  case round =>
    clear H1 B1
    obtain ⟨k, p', st', acc, hk, hal, rfl, hown, R2, B2, hab⟩ := hrel
    have hgr := R2.cd.lt
    by_cases hlt : k < N
    · have ci := item_any bs h g a c p' st' wr R2
      obtain ⟨j, hj⟩ : ∃ j, N - k = j + 1 := ⟨N - k - 1, by omega⟩
      have ha := hab.out.1
      have hb := hab.out.2
      have h1 := loop_one (R := itemR) item_reads.stop bs j p' st'
      rw [hj] at ha hb
      rw [loop_two item_reads.stop] at hb
      obtain ⟨⟨y, q2, t2⟩, hI⟩ : ∃ r, r = itemR bs p' st' := ⟨_, rfl⟩
      rw [← hI] at ci hb h1
      simp only at ci hb h1
      have hj' : j = N - (k + 1) := by omega
      rw [hj'] at ha hb h1
      have HB := Lib.hid hb
      clear hI hb hj hab
      have B2s := B2.size
      cases t2 with
      | true =>
        clear h1 ha
        have cr := fun x (hx : RdP bs x h g a c q2 true) => right_any g a c bs.length q2 true x hx.cd
        rw [Bool.not_true] at cr
        go_wp2_with fail
        refine ci.mono ?_
        rintro e w3 ⟨rfl, R3, B3⟩
        have own3 := Lib.hid (hown.out.but B3 hgw)
        have But3 := But.trans B2 B3
        clear ci hown B2 B3 R2
        obtain ⟨k0, h1, f1, s1, o1, r1, n1⟩ := y
        unfold itm
        dsimp only
        have R4 := R3.old (tbel1 w3 (.cells #[.int .i64 k0, .int .i64 h1, .int .i64 f1, .int .i64 s1, .int .i64 o1, .int .i64 r1, .int .i64 n1] 49))
        have But4 := But.step But3 (tbel1 w3 (.cells #[.int .i64 k0, .int .i64 h1, .int .i64 f1, .int .i64 s1, .int .i64 o1, .int .i64 r1, .int .i64 n1] 49))
        have own4 := Lib.hid (own3.out.alloc1 (.cells #[.int .i64 k0, .int .i64 h1, .int .i64 f1, .int .i64 s1, .int .i64 o1, .int .i64 r1, .int .i64 n1] 49))
        go_wp2_with (go_at_call 25; refine (cr _ R4).mono ?_; rintro e w4 ⟨rfl, rfl⟩)
        go_roundw
        case rel => exact ⟨k + 1, q2, true, acc, by omega, by omega, by go_num, own4, R4, But4, Lib.hid ⟨fun h => (by cases h), HB.out⟩⟩
        case measure => simp [intOf]; omega
      | false =>
        obtain ⟨rfl, h2⟩ := h1 rfl
        have ha := ha rfl
        rw [h2] at ha
        have HA := Lib.hid ha
        clear h1 h2 ha
        have cr := fun x (hx : RdP bs x h g a c q2 false) => right_any g a c bs.length q2 false x hx.cd
        rw [Bool.not_false] at cr
        go_wp2_with fail
        refine ci.mono ?_
        rintro e w3 ⟨rfl, R3, B3⟩
        have own3 := Lib.hid (hown.out.but B3 hgw)
        have But3 := But.trans B2 B3
        have hs3 := But3.size
        clear ci hown B2 B3 R2
        obtain ⟨k0, h1, f1, s1, o1, r1, n1⟩ := y
        unfold itm
        dsimp only
        have R4 := R3.old (tbel1 w3 (.cells #[.int .i64 k0, .int .i64 h1, .int .i64 f1, .int .i64 s1, .int .i64 o1, .int .i64 r1, .int .i64 n1] 49))
        have But4 := But.step But3 (tbel1 w3 (.cells #[.int .i64 k0, .int .i64 h1, .int .i64 f1, .int .i64 s1, .int .i64 o1, .int .i64 r1, .int .i64 n1] 49))
        have own4 := Lib.hid (own3.out.alloc1 (.cells #[.int .i64 k0, .int .i64 h1, .int .i64 f1, .int .i64 s1, .int .i64 o1, .int .i64 r1, .int .i64 n1] 49))
        clear R3 But3 own3
        have hs4 := But4.size
        have E0 := els_single (w3.alloc (.cells #[.int .i64 k0, .int .i64 h1, .int .i64 f1, .int .i64 s1, .int .i64 o1, .int .i64 r1, .int .i64 n1] 49)) (enc := encI) (sz := 7) zeroI (⟨k0, h1, f1, s1, o1, r1, n1⟩ : I7) 49 encI_len (by decide)
        rw [World.size_alloc] at E0
        have E := Lib.hid E0
        clear E0
        have own5 := own4.out.alloc1 (.cells #[.int .i64 k0, .int .i64 h1, .int .i64 f1, .int .i64 s1, .int .i64 o1, .int .i64 r1, .int .i64 n1] 49)
        have R5 := R4.old (tbel1 (w3.alloc (.cells #[.int .i64 k0, .int .i64 h1, .int .i64 f1, .int .i64 s1, .int .i64 o1, .int .i64 r1, .int .i64 n1] 49)) (.cells #[.int .i64 k0, .int .i64 h1, .int .i64 f1, .int .i64 s1, .int .i64 o1, .int .i64 r1, .int .i64 n1] 49))
        have But5 := But.step But4 (tbel1 (w3.alloc (.cells #[.int .i64 k0, .int .i64 h1, .int .i64 f1, .int .i64 s1, .int .i64 o1, .int .i64 r1, .int .i64 n1] 49)) (.cells #[.int .i64 k0, .int .i64 h1, .int .i64 f1, .int .i64 s1, .int .i64 o1, .int .i64 r1, .int .i64 n1] 49))
        have hs5 := But5.size
        obtain ⟨hi, hz0, hz1, hz2⟩ := HI.out
        go_wp2_with (first
          | (go_at_call 25; refine (cr _ R4).mono ?_; rintro e w4 ⟨rfl, rfl⟩)
          | (at_builtin; refine wpList_els (B := w.heap.size) (l := acc) (m := [⟨k0, h1, f1, s1, o1, r1, n1⟩]) (d := zeroI) (enc := encI) (sz := 7) (w0 := (w3.alloc (.cells #[.int .i64 k0, .int .i64 h1, .int .i64 f1, .int .i64 s1, .int .i64 o1, .int .i64 r1, .int .i64 n1] 49)).alloc (.cells #[.int .i64 k0, .int .i64 h1, .int .i64 f1, .int .i64 s1, .int .i64 o1, .int .i64 r1, .int .i64 n1] 49)) rfl (.tmp 19) (.tmp 21) rfl Try.underlying27 hi hz0 hz1 hz2 rfl (by decide) encI_len encI_one rfl own5 rfl E.out (by simp; omega) (by simp; omega) (Below.refl _ _) hs5 (fun h => by cases h) ?_; intro v5 w5 o5 b5 g5))
        have But6 := But5.ownR own5 g5
        have R6 := HH.out.but But6 R5.le (R5.cd.keptR own5 g5 hgw)
        go_roundw
        case rel =>
          refine ⟨k + 1, q2, false, acc ++ [⟨k0, h1, f1, s1, o1, r1, n1⟩], by omega, by simp; omega, by go_num, Lib.hid o5, R6, But6, Lib.hid ⟨fun _ => ?_, HB.out⟩⟩
          rw [← HA.out]; simp
        case measure => simp [intOf]; omega
    · obtain rfl : k = N := by omega
      have ha := hab.out.1
      have hb := hab.out.2
      rw [Nat.sub_self] at ha hb
      simp only [loopR, List.append_nil] at ha hb
      have cr := fun x (hx : RdP bs x h g a c p' st') => right_any g a c bs.length p' st' x hx.cd
      cases st' with
      | true =>
        have hres : eachG itemR bs q st = ([], p', true) := by rw [HD.out, ← hb]; rfl
        have HR := Lib.hid hres
        rw [Bool.not_true] at cr
        clear ha hb hres hab
        go_wp2_with (go_at_call 25; refine (cr _ R2).mono ?_; rintro e w4 ⟨rfl, rfl⟩)
        go_ret
        rw [HR.out]
        exact ⟨_, rfl, World.ownsRow_nil _ _ _ _, R2, B2⟩
      | false =>
        have hres : eachG itemR bs q st = (acc, p', false) := by rw [HD.out, ← hb, ← ha rfl]; rfl
        have HR := Lib.hid hres
        rw [Bool.not_false] at cr
        clear ha hb hres hab
        go_wp2_with (go_at_call 25; refine (cr _ R2).mono ?_; rintro e w4 ⟨rfl, rfl⟩)
        go_ret
        rw [HR.out]
        exact ⟨_, rfl, hown.out, R2, B2⟩
theorem fn_eq_float (f : Nat) (p : Value) (w : World) : Sem.run Try.prog (binOp BinOp.eql 132 (Value.func (Fn.func f) #[p] #[]) Value.nilFunc) w = .ok (.bool false) w := by
  kernel_rfl
set_option maxHeartbeats 1000000 in
theorem each_float (bs : List Int) (h g : Nat) (a : Option Addr) (c q : Nat) (st : Bool) (w : World) (H : RdP bs w h g a c q st) :
    Calls Try.prog 76 #[.pointer (some ⟨g, 0, none⟩), .func (.func 77) #[.pointer (some ⟨h, 0, none⟩)] #[]] w fun e w' => ∃ v, e = .returned v ∧ OwnR 90 3 encF w' w.heap.size v (eachG floatR bs q st).1 ∧ RdP bs w' h g a c (eachG floatR bs q st).2.1 (eachG floatR bs q st).2.2 ∧ But g w w' := by
  have cc := count_any g a c bs q st H.le H.len H.byt w H.cd H.row
  have hle := countR_le bs q st H.le H.byt
  have hin := countR_in bs q st H.le
  have hdef : eachG floatR bs q st = (if (loopR floatR bs (countR bs q st).1.toNat (countR bs q st).2.1 (countR bs q st).2.2).2.2 then [] else (loopR floatR bs (countR bs q st).1.toNat (countR bs q st).2.1 (countR bs q st).2.2).1, (loopR floatR bs (countR bs q st).1.toNat (countR bs q st).2.1 (countR bs q st).2.2).2) := rfl
  obtain ⟨⟨x0, q0, t0⟩, hC⟩ : ∃ r, r = countR bs q st := ⟨_, rfl⟩
  rw [← hC] at cc hle hin hdef
  simp only at cc hle hin hdef
  clear hC
  obtain ⟨N, rfl⟩ := Int.eq_ofNat_of_zero_le hin.1
  rw [Int.toNat_natCast] at hdef
  have hN : N ≤ 1000000 := by have := H.len; omega
  have hgw := H.cd.lt
  have HD := Lib.hid hdef
  have HH := Lib.hid H
  have hq0 := hle.1
  have hmx : 1000002 ≤ maxLen := by decide
  obtain ⟨i0, hi, hz0, hz1, hz2⟩ := info_parts infoF3
  have HI := Lib.hid (And.intro hi (And.intro hz0 (And.intro hz1 hz2)))
  clear hdef H hi hz0 hz1 hz2 hle hin
  have hfn := fun w => fn_eq_float 77 (.pointer (some ⟨h, 0, none⟩)) w
  go_enter Try.func76, Try.ntmps76
  go_wp2_with fail
  refine cc.mono ?_
  rintro e w1 ⟨rfl, R1, B1⟩
  have H1 := HH.out.but B1 hq0 R1
  clear cc R1
  go_wp2_with fail
  go_loopw [6, 13] (fun v i wr => ∃ (k p' : Nat) (st' : Bool) (acc : List F3), k ≤ N ∧ acc.length ≤ k ∧ i = .int .i64 k ∧ Hid (OwnR 90 3 encF wr w.heap.size v acc) ∧ RdP bs wr h g a c p' st' ∧ But g w wr ∧
    Hid ((st' = false → acc ++ (loopR floatR bs (N - k) p' st').1 = (loopR floatR bs N q0 t0).1) ∧ (loopR floatR bs (N - k) p' st').2 = (loopR floatR bs N q0 t0).2)) (fun _ i _ => N - (intOf i).toNat)
  case atStart => exact ⟨0, q0, t0, [], Nat.zero_le _, Nat.le_refl _, rfl, Lib.hid (World.ownsRow_nil _ _ _ _), H1, B1, Lib.hid ⟨fun _ => rfl, rfl⟩⟩
  case round =>
    clear H1 B1
    obtain ⟨k, p', st', acc, hk, hal, rfl, hown, R2, B2, hab⟩ := hrel
    have hgr := R2.cd.lt
    by_cases hlt : k < N
    · have ci := float_any bs h g a c p' st' wr R2
      obtain ⟨j, hj⟩ : ∃ j, N - k = j + 1 := ⟨N - k - 1, by omega⟩
      have ha := hab.out.1
      have hb := hab.out.2
      have h1 := loop_one (R := floatR) float_reads.stop bs j p' st'
      rw [hj] at ha hb
      rw [loop_two float_reads.stop] at hb
      obtain ⟨⟨y, q2, t2⟩, hI⟩ : ∃ r, r = floatR bs p' st' := ⟨_, rfl⟩
      rw [← hI] at ci hb h1
      simp only at ci hb h1
      have hj' : j = N - (k + 1) := by omega
      rw [hj'] at ha hb h1
      have HB := Lib.hid hb
      clear hI hb hj hab
      have B2s := B2.size
      cases t2 with
      | true =>
        clear h1 ha
        have cr := fun x (hx : RdP bs x h g a c q2 true) => right_any g a c bs.length q2 true x hx.cd
        rw [Bool.not_true] at cr
        go_wp2_with fail
        refine ci.mono ?_
        rintro e w3 ⟨rfl, R3, B3⟩
        have own3 := Lib.hid (hown.out.but B3 hgw)
        have But3 := But.trans B2 B3
        clear ci hown B2 B3 R2
        obtain ⟨c1, h1, p1⟩ := y
        unfold flt
        dsimp only
        have R4 := R3.old (tbel1 w3 (.cells #[.int .i64 c1, .int .i64 h1, .int .i64 p1] 90))
        have But4 := But.step But3 (tbel1 w3 (.cells #[.int .i64 c1, .int .i64 h1, .int .i64 p1] 90))
        have own4 := Lib.hid (own3.out.alloc1 (.cells #[.int .i64 c1, .int .i64 h1, .int .i64 p1] 90))
        go_wp2_with (go_at_call 25; refine (cr _ R4).mono ?_; rintro e w4 ⟨rfl, rfl⟩)
        go_roundw
        case rel => exact ⟨k + 1, q2, true, acc, by omega, by omega, by go_num, own4, R4, But4, Lib.hid ⟨fun h => (by cases h), HB.out⟩⟩
        case measure => simp [intOf]; omega
      | false =>
        obtain ⟨rfl, h2⟩ := h1 rfl
        have ha := ha rfl
        rw [h2] at ha
        have HA := Lib.hid ha
        clear h1 h2 ha
        have cr := fun x (hx : RdP bs x h g a c q2 false) => right_any g a c bs.length q2 false x hx.cd
        rw [Bool.not_false] at cr
        go_wp2_with fail
        refine ci.mono ?_
        rintro e w3 ⟨rfl, R3, B3⟩
        have own3 := Lib.hid (hown.out.but B3 hgw)
        have But3 := But.trans B2 B3
        have hs3 := But3.size
        clear ci hown B2 B3 R2
        obtain ⟨c1, h1, p1⟩ := y
        unfold flt
        dsimp only
        have R4 := R3.old (tbel1 w3 (.cells #[.int .i64 c1, .int .i64 h1, .int .i64 p1] 90))
        have But4 := But.step But3 (tbel1 w3 (.cells #[.int .i64 c1, .int .i64 h1, .int .i64 p1] 90))
        have own4 := Lib.hid (own3.out.alloc1 (.cells #[.int .i64 c1, .int .i64 h1, .int .i64 p1] 90))
        clear R3 But3 own3
        have hs4 := But4.size
        have E0 := els_single (w3.alloc (.cells #[.int .i64 c1, .int .i64 h1, .int .i64 p1] 90)) (enc := encF) (sz := 3) zeroF (⟨c1, h1, p1⟩ : F3) 90 encF_len (by decide)
        rw [World.size_alloc] at E0
        have E := Lib.hid E0
        clear E0
        have own5 := own4.out.alloc1 (.cells #[.int .i64 c1, .int .i64 h1, .int .i64 p1] 90)
        have R5 := R4.old (tbel1 (w3.alloc (.cells #[.int .i64 c1, .int .i64 h1, .int .i64 p1] 90)) (.cells #[.int .i64 c1, .int .i64 h1, .int .i64 p1] 90))
        have But5 := But.step But4 (tbel1 (w3.alloc (.cells #[.int .i64 c1, .int .i64 h1, .int .i64 p1] 90)) (.cells #[.int .i64 c1, .int .i64 h1, .int .i64 p1] 90))
        have hs5 := But5.size
        obtain ⟨hi, hz0, hz1, hz2⟩ := HI.out
        go_wp2_with (first
          | (go_at_call 25; refine (cr _ R4).mono ?_; rintro e w4 ⟨rfl, rfl⟩)
          | (at_builtin; refine wpList_els (B := w.heap.size) (l := acc) (m := [⟨c1, h1, p1⟩]) (d := zeroF) (enc := encF) (sz := 3) (w0 := (w3.alloc (.cells #[.int .i64 c1, .int .i64 h1, .int .i64 p1] 90)).alloc (.cells #[.int .i64 c1, .int .i64 h1, .int .i64 p1] 90)) rfl (.tmp 19) (.tmp 21) rfl Try.underlying29 hi hz0 hz1 hz2 rfl (by decide) encF_len encF_one rfl own5 rfl E.out (by simp; omega) (by simp; omega) (Below.refl _ _) hs5 (fun h => by cases h) ?_; intro v5 w5 o5 b5 g5))
        have But6 := But5.ownR own5 g5
        have R6 := HH.out.but But6 R5.le (R5.cd.keptR own5 g5 hgw)
        go_roundw
        case rel =>
          refine ⟨k + 1, q2, false, acc ++ [⟨c1, h1, p1⟩], by omega, by simp; omega, by go_num, Lib.hid o5, R6, But6, Lib.hid ⟨fun _ => ?_, HB.out⟩⟩
          rw [← HA.out]; simp
        case measure => simp [intOf]; omega
    · obtain rfl : k = N := by omega
      have ha := hab.out.1
      have hb := hab.out.2
      rw [Nat.sub_self] at ha hb
      simp only [loopR, List.append_nil] at ha hb
      have cr := fun x (hx : RdP bs x h g a c p' st') => right_any g a c bs.length p' st' x hx.cd
      cases st' with
      | true =>
        have hres : eachG floatR bs q st = ([], p', true) := by rw [HD.out, ← hb]; rfl
        have HR := Lib.hid hres
        rw [Bool.not_true] at cr
        clear ha hb hres hab
        go_wp2_with (go_at_call 25; refine (cr _ R2).mono ?_; rintro e w4 ⟨rfl, rfl⟩)
        go_ret
        rw [HR.out]
        exact ⟨_, rfl, World.ownsRow_nil _ _ _ _, R2, B2⟩
      | false =>
        have hres : eachG floatR bs q st = (acc, p', false) := by rw [HD.out, ← hb, ← ha rfl]; rfl
        have HR := Lib.hid hres
        rw [Bool.not_false] at cr
        clear ha hb hres hab
        go_wp2_with (go_at_call 25; refine (cr _ R2).mono ?_; rintro e w4 ⟨rfl, rfl⟩)
        go_ret
        rw [HR.out]
        exact ⟨_, rfl, hown.out, R2, B2⟩
end Go.Proofs.Ytjfjekncmejfpaa
