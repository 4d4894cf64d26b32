/- The document's Reader: Read of a mark. The document's Reader: Read of a mark for which there are bytes enough. The document's Reader: Read, the other kinds; all of it. -/
import Derived.Test.YtjfjekncmejfpaaXRead
namespace Go.Proofs.Ytjfjekncmejfpaa
open Go.RowKit
set_option maxRecDepth 20000
set_option linter.unusedVariables false
set_option linter.unusedSimpArgs false

def strOf (l : List Int) : ByteArray := ⟨(l.map fun x => UInt8.ofNat x.toNat).toArray⟩
theorem bytes_str (l : List Int) (h : Byt l) : bytesOf (strOf l) = l := by
  unfold bytesOf strOf
  simp only [List.toList_toArray, List.map_map]
  conv => rhs; rw [← List.map_id l]
  apply List.map_congr_left
  intro x hx
  have := h x hx
  simp only [Function.comp_apply, id_eq, UInt8.toNat_ofNat']
  omega
theorem str_bytes (s : ByteArray) : strOf (bytesOf s) = s := by
  obtain ⟨⟨l⟩⟩ := s
  unfold bytesOf strOf
  simp only [List.map_map]
  congr 2
  conv => rhs; rw [← List.map_id l]
  apply List.map_congr_left
  intro b _
  simp
theorem str_eq (l : List Int) (h : Byt l) (s : ByteArray) : strOf l = s ↔ l = bytesOf s := by
  constructor
  · intro e; rw [← e, bytes_str l h]
  · intro e; rw [e, str_bytes]
theorem str_size (l : List Int) : (strOf l).size = l.length := by unfold strOf; simp [ByteArray.size]
/-- string(b) -/
theorem conv_row (w : World) (a : Option Addr) (c : Nat) (l : List Int) (hr : Row w a c l) (hB : Byt l) : (convert 22 9 (.slice a l.length c)).run Try.prog w = .ok (.string (strOf l)) w := by
  cases a with
  | none =>
    have : l = [] := by
      rcases Nat.eq_zero_or_pos l.length with h | h
      · exact List.eq_nil_of_length_eq_zero h
      · obtain ⟨_, _, e, _⟩ := hr.2 0 h; cases e
    subst this
    show Sem.run Try.prog (convert 22 9 (Value.slice none 0 c)) w = _
    rw [run_convert_bytes_string w 22 9 5 none 0 c Try.underlying22 Try.underlying5 Try.underlying9]
    rfl
  | some ad =>
    have h := run_convert_bytes_back (P := Try.prog) w 22 9 5 ad c (l.map fun x => UInt8.ofNat x.toNat) Try.underlying22 Try.underlying5 Try.underlying9 (fun j hj => by
      have hj' : j < l.length := by simpa using hj
      obtain ⟨b, off, e, _, hc⟩ := hr.2 j hj'
      obtain rfl : ad = ⟨b, off, none⟩ := by simpa using e
      rw [Go.WideShapes.add_plain, hc]
      have := hB (l[j]) (List.getElem_mem hj')
      simp only [List.getElem_map, UInt8.toNat_ofNat']
      have e2 : l.getD j 0 = l[j] := by simp [hj']
      rw [e2]
      congr 2
      omega)
    simpa [strOf] using h
/-- b[i:j] -/
theorem cut_mid (a : Option Addr) (cap n : Nat) (l : List Int) (i m : Nat) (hi : i + m ≤ l.length) (w : World) (h : Row w a cap l) :
    ∃ a' c', (∀ x, Sem.run Try.prog (Instr.slice 22 (.slice a n cap) (some (.int .i64 (i : Int))) (some (.int .i64 ((i : Int) + (m : Int)))) none) x = .ok (.slice a' m c') x) ∧ Row w a' c' ((l.drop i).take m) := by
  have hc := h.1
  refine ⟨if cap = i then a else a.map (·.add i), cap - i, fun x => ?_, ?_, ?_⟩
  · rw [run_slice_lh _ 22 a n cap Try.underlying22 .i64 .i64 i ((i : Int) + m) (by omega) (by omega) (by omega)]
    have e : Sem.run Try.prog (sizeOf (Try.prog.elem 22)) x = .ok 1 x := by kernel_rfl
    rw [e]
    have e2 : ((i : Int) + (m : Int)).toNat - i = m := by omega
    simp [Result.andThen, sliced, e2]
  · simp; omega
  · intro k hk
    have hk' : k < m ∧ i + k < l.length := by simp at hk; omega
    obtain ⟨b, off, rfl, hB, hcc⟩ := h.2 _ hk'.2
    rw [if_neg (by omega)]
    refine ⟨b, off + i, ?_, hB, ?_⟩
    · simp only [Option.map_some, Option.some.injEq]
      unfold Addr.add; split <;> simp_all
    · rw [Nat.add_assoc, hcc]
      simp [List.getD_eq_getElem?_getD, List.getElem?_take, List.getElem?_drop, hk'.1]
def markR (bs : List Int) (p : Nat) (st : Bool) (s : ByteArray) : Nat × Bool :=
  if st = true ∨ (bs.length : Int) - p < s.size ∨ (bs.drop p).take s.size ≠ bytesOf s then (p, true) else (p + s.size, false)
set_option maxRecDepth 20000 in
set_option maxHeartbeats 10000000 in
theorem rmark_short (g : Nat) (a : Option Addr) (c : Nat) (bs : List Int) (p : Nat) (st : Bool) (o : OpD) (al : Option Addr) (cl : Nat) (hk : o.k = 0) (hs : o.s.size ≤ 1000000) (hp : p ≤ bs.length) (hl : bs.length ≤ 1000000) (hB : Byt bs) (w : World) (hR : RdAt w g a c bs.length p st) (hr : Row w a c bs)
    (hbad : st = true ∨ (bs.length : Int) - p < o.s.size) :
    Calls Try.prog 38 #[.pointer (some ⟨g, 0, none⟩), opV o al cl] w fun e w' => e = .returned (.slice none 0 0) ∧ RdAt w' g a c bs.length (markR bs p st o.s).1 (markR bs p st o.s).2 ∧ But g w w' := by
  have HB := Lib.hid (show markR bs p st o.s = (p, true) by unfold markR; rw [if_pos (by rcases hbad with h | h; exact .inl h; exact .inr (.inl h))])
  have sg := sight_of w g a c bs.length p st o al cl hR
  have R1 := hR.below (bel1 w (opO o al cl)) hR.lt
  have B1 : But g w (w.alloc (opO o al cl)) := But.of (bel1 w (opO o al cl))
  have hz : w.heap.size ≤ (w.alloc (opO o al cl)).heap.size := by simp
  obtain ⟨ok, os, on, ob, ol⟩ := o
  simp only at hk sg hbad HB hs
  subst hk
  unfold opV
  simp only
  go_enter Try.func38, Try.ntmps38
  go_upto_region 3 with (fail)
  generalize w.alloc (.cells #[.int .i64 0, .string os, .int .i64 on, .bool ob, .slice al ol.length cl] 103) = W at sg R1 B1 hz ⊢
  have SG := Lib.hid sg
  clear sg hr
  cases st with
  | true =>
    (refine wp_region_text (Old W) 42 (by kernel_rfl) (by kernel_rfl) (Below.refl _ W).drew ?_; simp only [List.take_succ_cons, List.take_zero, List.drop_succ_cons, List.drop_zero])
    repeat (first | (apply Text.sees (hw := by kernel_rfl); (focus (intro x hx K hK; have hc := SG.out x hx; go_simp; exact hK)); simp only [Act.put, List.getElem_toArray, List.getElem_cons_succ, List.getElem_cons_zero, List.setIfInBounds_toArray, List.set_cons_zero, List.set_cons_succ]) | (apply Text.idle; (focus (intro x hx K hK; go_simp; exact hK)); simp only [Act.put, List.getElem_toArray, List.getElem_cons_succ, List.getElem_cons_zero, List.setIfInBounds_toArray, List.set_cons_zero, List.set_cons_succ]))
    intro x hx
    have Rx := R1.below hx R1.lt
    have c2 := Rx.c2
    have f2 := Rx.fr 2
    have Bx := But.trans B1 (But.of hx)
    clear R1 B1 SG hx
    go_wp2
    go_ret
    exact ⟨rfl, by rw [HB.out]; exact Rx.set2 true, Bx.set 2 _⟩
  | false =>
    have hb2 : (bs.length : Int) - p < os.size := by simpa using hbad
    have hw1 : wrap64 ((bs.length : Int) - (p : Int)) = (bs.length : Int) - (p : Int) := by unfold wrap64; omega
    have hw2 : IntKind.i64.wrap ((bs.length : Int) - (p : Int)) = (bs.length : Int) - (p : Int) := by rw [IntKind.wrap_i64]; omega
    have hd : decide ((bs.length : Int) - (p : Int) < (os.size : Int)) = true := by simpa using hb2
    (refine wp_region_text (Old W) 42 (by kernel_rfl) (by kernel_rfl) (Below.refl _ W).drew ?_; simp only [List.take_succ_cons, List.take_zero, List.drop_succ_cons, List.drop_zero])
    repeat (first | (apply Text.sees (hw := by kernel_rfl); (focus (intro x hx K hK; have hc := SG.out x hx; go_simp; exact hK)); simp only [Act.put, List.getElem_toArray, List.getElem_cons_succ, List.getElem_cons_zero, List.setIfInBounds_toArray, List.set_cons_zero, List.set_cons_succ]) | (apply Text.idle; (focus (intro x hx K hK; go_simp; exact hK)); simp only [Act.put, List.getElem_toArray, List.getElem_cons_succ, List.getElem_cons_zero, List.setIfInBounds_toArray, List.set_cons_zero, List.set_cons_succ]))
    intro x hx
    have Rx := R1.below hx R1.lt
    have c2 := Rx.c2
    have f2 := Rx.fr 2
    have Bx := But.trans B1 (But.of hx)
    clear R1 B1 SG hx
    go_wp2
    go_ret
    exact ⟨rfl, by rw [HB.out]; exact Rx.set2 true, Bx.set 2 _⟩
end Go.Proofs.Ytjfjekncmejfpaa
namespace Go.Proofs.Ytjfjekncmejfpaa
open Go.RowKit
set_option maxRecDepth 20000
set_option linter.unusedVariables false
set_option linter.unusedSimpArgs false

theorem toList_ne {S s : ByteArray} (h : ¬ S = s) : (S.toList == s.toList) = false := by
  rw [beq_eq_false_iff_ne]
  intro e
  rw [ByteArray.toList_eq, ByteArray.toList_eq] at e
  exact h (Go.WideShapes.bytes_inj e)
set_option maxRecDepth 20000 in
set_option maxHeartbeats 10000000 in
theorem rmark_long (g : Nat) (a : Option Addr) (c : Nat) (bs : List Int) (p : Nat) (o : OpD) (al : Option Addr) (cl : Nat) (hk : o.k = 0) (hs : o.s.size ≤ 1000000) (hl : bs.length ≤ 1000000) (hB : Byt bs) (w : World) (hR : RdAt w g a c bs.length p false) (hr : Row w a c bs)
    (hfit : p + o.s.size ≤ bs.length) :
    Calls Try.prog 38 #[.pointer (some ⟨g, 0, none⟩), opV o al cl] w fun e w' => e = .returned (.slice none 0 0) ∧ RdAt w' g a c bs.length (markR bs p false o.s).1 (markR bs p false o.s).2 ∧ But g w w' := by
  have hmark : markR bs p false o.s = if strOf ((bs.drop p).take o.s.size) = o.s then (p + o.s.size, false) else (p, true) := by
    have hb : Byt ((bs.drop p).take o.s.size) := fun x hx => hB x (List.mem_of_mem_drop (List.mem_of_mem_take hx))
    unfold markR
    by_cases h : (bs.drop p).take o.s.size = bytesOf o.s
    · rw [if_pos ((str_eq _ hb _).2 h), if_neg (by rintro (h1 | h1 | h1); cases h1; omega; exact h1 h)]
    · rw [if_neg (fun e => h ((str_eq _ hb _).1 e)), if_pos (.inr (.inr h))]
  have sg := sight_of w g a c bs.length p false o al cl hR
  have R1 := hR.below (bel1 w (opO o al cl)) hR.lt
  have B1 : But g w (w.alloc (opO o al cl)) := But.of (bel1 w (opO o al cl))
  have hr1 := hr.carry (bel1 w (opO o al cl))
  obtain ⟨ok, os, on, ob, ol⟩ := o
  simp only at hk sg hs hfit hmark
  subst hk
  unfold opV
  simp only
  go_enter Try.func38, Try.ntmps38
  go_upto_region 3 with (fail)
  generalize w.alloc (.cells #[.int .i64 0, .string os, .int .i64 on, .bool ob, .slice al ol.length cl] 103) = W at sg R1 B1 hr1 ⊢
  obtain ⟨a', c', hcut, hrc⟩ := cut_mid a c bs.length bs p os.size hfit W hr1
  obtain ⟨M, hM⟩ : ∃ M, M = (bs.drop p).take os.size := ⟨_, rfl⟩
  have hMl : M.length = os.size := by rw [hM]; simp; omega
  have hMB : Byt M := fun x hx => hB x (List.mem_of_mem_drop (List.mem_of_mem_take (by rw [← hM]; exact hx)))
  rw [← hM] at hrc hmark
  have hcv : ∀ x, Old W x → (convert 22 9 (.slice a' os.size c')).run Try.prog x = .ok (.string (strOf M)) x := fun x hx => by rw [← hMl]; exact conv_row x a' c' M (hrc.carry hx) hMB
  generalize strOf M = S at *
  have CV := Lib.hid (show ∀ x, Old W x → (x.cell? ⟨g, 0, none⟩ = some (.slice a bs.length c) ∧ x.cell? ⟨g, 1, none⟩ = some (.int .i64 p) ∧ x.cell? ⟨g, 2, none⟩ = some (.bool false) ∧ x.cell? ⟨w.heap.size, 0, none⟩ = some (.int .i64 0) ∧ x.cell? ⟨w.heap.size, 1, none⟩ = some (.string os)) ∧ (convert 22 9 (.slice a' os.size c')).run Try.prog x = .ok (.string S) x from fun x hx => ⟨sg x hx, hcv x hx⟩)
  clear sg hcv hM hMl hMB hrc hr hr1
  have hw1 : wrap64 ((bs.length : Int) - (p : Int)) = (bs.length : Int) - (p : Int) := by unfold wrap64; omega
  have hw2 : IntKind.i64.wrap ((bs.length : Int) - (p : Int)) = (bs.length : Int) - (p : Int) := by rw [IntKind.wrap_i64]; omega
  have hw3 : wrap64 ((p : Int) + (os.size : Int)) = (p : Int) + (os.size : Int) := by unfold wrap64; omega
  have hw4 : IntKind.i64.wrap ((p : Int) + (os.size : Int)) = (p : Int) + (os.size : Int) := by rw [IntKind.wrap_i64]; omega
  have hb2 : ¬ (bs.length : Int) - p < os.size := by omega
  have hd : decide ((bs.length : Int) - (p : Int) < (os.size : Int)) = false := by simpa using hb2
  by_cases hS : S = os
  · rw [if_pos hS] at hmark
    have HM := Lib.hid hmark
    clear hmark
    have hSS := Lib.hid hS
    subst hS
    (refine wp_region_text (Old W) 42 (by kernel_rfl) (by kernel_rfl) (Below.refl _ W).drew ?_; simp only [List.take_succ_cons, List.take_zero, List.drop_succ_cons, List.drop_zero])
    repeat (first | (apply Text.sees (hw := by kernel_rfl); (focus (intro x hx K hK; have hc := CV.out x hx; go_simp; exact hK)); simp only [Act.put, List.getElem_toArray, List.getElem_cons_succ, List.getElem_cons_zero, List.setIfInBounds_toArray, List.set_cons_zero, List.set_cons_succ]) | (apply Text.idle; (focus (intro x hx K hK; go_simp; exact hK)); simp only [Act.put, List.getElem_toArray, List.getElem_cons_succ, List.getElem_cons_zero, List.setIfInBounds_toArray, List.set_cons_zero, List.set_cons_succ]))
    intro x hx
    have Rx := R1.below hx R1.lt
    have c1 := Rx.c1
    have f1 := Rx.fr 1
    have Bx := But.trans B1 (But.of hx)
    have CX := Lib.hid (fun y (hy : Old x y) => (CV.out y (hx.old hy)).1)
    clear R1 B1 CV
    go_upto_region 6 with (fail)
    (refine wp_region_text (Old x) 11 (by kernel_rfl) (by kernel_rfl) (Below.refl _ x).drew ?_; simp only [List.take_succ_cons, List.take_zero, List.drop_succ_cons, List.drop_zero])
    repeat (first | (apply Text.sees (hw := by kernel_rfl); (focus (intro x hx K hK; have hc := CX.out x hx; go_simp; exact hK)); simp only [Act.put, List.getElem_toArray, List.getElem_cons_succ, List.getElem_cons_zero, List.setIfInBounds_toArray, List.set_cons_zero, List.set_cons_succ]) | (apply Text.idle; (focus (intro x hx K hK; go_simp; exact hK)); simp only [Act.put, List.getElem_toArray, List.getElem_cons_succ, List.getElem_cons_zero, List.setIfInBounds_toArray, List.set_cons_zero, List.set_cons_succ]))
    intro y hy
    have Ry := Rx.below hy Rx.lt
    have d1 := Ry.c1
    have e1 := Ry.fr 1
    have By := But.trans Bx (But.of hy)
    clear Rx Bx CX c1 f1
    go_wp2
    go_ret
    exact ⟨rfl, by rw [HM.out]; exact Ry.set1 _, By.set 1 _⟩
  · rw [if_neg hS] at hmark
    have HM := Lib.hid hmark
    clear hmark
    have hD := toList_ne hS
    (refine wp_region_text (Old W) 42 (by kernel_rfl) (by kernel_rfl) (Below.refl _ W).drew ?_; simp only [List.take_succ_cons, List.take_zero, List.drop_succ_cons, List.drop_zero])
    repeat (first | (apply Text.sees (hw := by kernel_rfl); (focus (intro x hx K hK; have hc := CV.out x hx; go_simp; exact hK)); simp only [Act.put, List.getElem_toArray, List.getElem_cons_succ, List.getElem_cons_zero, List.setIfInBounds_toArray, List.set_cons_zero, List.set_cons_succ]) | (apply Text.idle; (focus (intro x hx K hK; go_simp; exact hK)); simp only [Act.put, List.getElem_toArray, List.getElem_cons_succ, List.getElem_cons_zero, List.setIfInBounds_toArray, List.set_cons_zero, List.set_cons_succ]))
    intro x hx
    have Rx := R1.below hx R1.lt
    have c2 := Rx.c2
    have f2 := Rx.fr 2
    have Bx := But.trans B1 (But.of hx)
    clear R1 B1 CV hx
    go_wp2
    go_ret
    exact ⟨rfl, by rw [HM.out]; exact Rx.set2 true, Bx.set 2 _⟩
end Go.Proofs.Ytjfjekncmejfpaa
namespace Go.Proofs.Ytjfjekncmejfpaa
open Go.RowKit
set_option maxRecDepth 20000
set_option linter.unusedVariables false
set_option linter.unusedSimpArgs false

theorem rbool_any (g : Nat) (a : Option Addr) (c : Nat) (bs : List Int) (p : Nat) (st : Bool) (o : OpD) (al : Option Addr) (cl : Nat) (hk : o.k = 2) (hp : p ≤ bs.length) (hl : bs.length ≤ 1000000) (hB : Byt bs) (w : World) (hR : RdAt w g a c bs.length p st) (hr : Row w a c bs) :
    Calls Try.prog 38 #[.pointer (some ⟨g, 0, none⟩), opV o al cl] w fun e w' => ∃ v, e = .returned v ∧ OwnK .i64 2 w' w.heap.size v [(boolR bs p st).1] ∧ RdAt w' g a c bs.length (boolR bs p st).2.1 (boolR bs p st).2.2 ∧ But g w w' := by
  by_cases h : st = true ∨ bs.length ≤ p ∨ 1 < bs.getD p 0
  · exact rbool_bad g a c bs p st o al cl hk hp hl hB w hR hr (if_pos h)
  · cases st with
    | true => simp at h
    | false =>
      have h : ¬ (bs.length ≤ p ∨ 1 < bs.getD p 0) := by simpa using h
      exact rbool_good g a c bs p o al cl hk hp hl hB w hR hr (by omega) (by omega)
theorem boolR_le (bs : List Int) (p : Nat) (st : Bool) (hp : p ≤ bs.length) : (boolR bs p st).2.1 ≤ bs.length ∧ p ≤ (boolR bs p st).2.1 := by
  unfold boolR
  split
  · exact ⟨hp, Nat.le_refl _⟩
  · rename_i h
    have h : ¬ bs.length ≤ p := fun e => h (.inr (.inl e))
    exact ⟨by show p + 1 ≤ _; omega, by show p ≤ p + 1; omega⟩
theorem rmark_any (g : Nat) (a : Option Addr) (c : Nat) (bs : List Int) (p : Nat) (st : Bool) (o : OpD) (al : Option Addr) (cl : Nat) (hk : o.k = 0) (hs : o.s.size ≤ 1000000) (hp : p ≤ bs.length) (hl : bs.length ≤ 1000000) (hB : Byt bs) (w : World) (hR : RdAt w g a c bs.length p st) (hr : Row w a c bs) :
    Calls Try.prog 38 #[.pointer (some ⟨g, 0, none⟩), opV o al cl] w fun e w' => e = .returned (.slice none 0 0) ∧ RdAt w' g a c bs.length (markR bs p st o.s).1 (markR bs p st o.s).2 ∧ But g w w' := by
  by_cases h : st = true ∨ (bs.length : Int) - p < o.s.size
  · exact rmark_short g a c bs p st o al cl hk hs hp hl hB w hR hr h
  · cases st with
    | true => simp at h
    | false =>
      have h : ¬ (bs.length : Int) - p < o.s.size := by simpa using h
      exact rmark_long g a c bs p o al cl hk hs hl hB w hR hr (by omega)
theorem markR_le (bs : List Int) (p : Nat) (st : Bool) (s : ByteArray) (hp : p ≤ bs.length) : (markR bs p st s).1 ≤ bs.length ∧ p ≤ (markR bs p st s).1 := by
  unfold markR
  split
  · exact ⟨hp, Nat.le_refl _⟩
  · rename_i h
    have h : ¬ (bs.length : Int) - p < s.size := fun e => h (.inr (.inl e))
    exact ⟨by show p + s.size ≤ _; omega, by show p ≤ p + s.size; omega⟩
/-- So many bools, until one is not there. -/
def boolsR (bs : List Int) : Nat → Nat → Bool → List Int × Nat × Bool
  | 0, p, st => ([], p, st)
  | n + 1, p, st => if st then ([], p, true) else ((boolR bs p false).1 :: (boolsR bs n (boolR bs p false).2.1 (boolR bs p false).2.2).1, (boolsR bs n (boolR bs p false).2.1 (boolR bs p false).2.2).2)
theorem bools_stop (bs : List Int) (n p : Nat) : boolsR bs n p true = ([], p, true) := by cases n <;> rfl
theorem bools_le (bs : List Int) (n : Nat) : ∀ (p : Nat) (st : Bool), p ≤ bs.length → (boolsR bs n p st).2.1 ≤ bs.length ∧ p ≤ (boolsR bs n p st).2.1 ∧ (boolsR bs n p st).1.length ≤ n := by
  induction n with
  | zero => intro p st hp; exact ⟨hp, Nat.le_refl _, Nat.le_refl _⟩
  | succ n ih =>
    intro p st hp
    unfold boolsR
    split
    · exact ⟨hp, Nat.le_refl _, Nat.zero_le _⟩
    · have h1 := boolR_le bs p false hp
      have h2 := ih (boolR bs p false).2.1 (boolR bs p false).2.2 h1.1
      simp only [List.length_cons]
      omega
def eachR (bs : List Int) (p : Nat) (st : Bool) : List Int × Nat × Bool :=
  let m := boolsR bs (countR bs p st).1.toNat (countR bs p st).2.1 (countR bs p st).2.2
  (if m.2.2 then [] else m.1, m.2)
/-- What one reading tells. -/
def readR (bs : List Int) (p : Nat) (st : Bool) (o : OpD) : List Int × Nat × Bool :=
  if o.k = 0 then ([], markR bs p st o.s) else if o.k = 1 then ([(intR bs p st).1], (intR bs p st).2) else if o.k = 2 then ([(boolR bs p st).1], (boolR bs p st).2) else if o.k = 3 then intsR bs p st
  else if o.k = 4 then ([(countR bs p st).1], (countR bs p st).2) else if o.k = 5 then ([], p, true) else if o.k = 6 then eachR bs p st else ([], p, st)
set_option maxRecDepth 20000 in
set_option maxHeartbeats 10000000 in
theorem rread1 (g : Nat) (a : Option Addr) (c : Nat) (bs : List Int) (p : Nat) (st : Bool) (o : OpD) (al : Option Addr) (cl : Nat) (hp : p ≤ bs.length) (hl : bs.length ≤ 1000000) (hB : Byt bs) (w : World) (hR : RdAt w g a c bs.length p st) (hr : Row w a c bs) (hk : o.k = 1) : Calls Try.prog 38 #[.pointer (some ⟨g, 0, none⟩), opV o al cl] w fun e w' => ∃ v, e = .returned v ∧ OwnK .i64 2 w' w.heap.size v [(intR bs p st).1] ∧ RdAt w' g a c bs.length (intR bs p st).2.1 (intR bs p st).2.2 ∧ But g w w' := by
  have R1 := hR.below (bel1 w (opO o al cl)) hR.lt
  have B1 : But g w (w.alloc (opO o al cl)) := But.of (bel1 w (opO o al cl))
  have hr1 := hr.carry (bel1 w (opO o al cl))
  have ci := rint_any g a c bs p st hp hl hB _ R1 hr1
  have hz : w.heap.size ≤ (w.alloc (opO o al cl)).heap.size := by simp
  obtain ⟨ok, os, on, ob, ol⟩ := o
  simp only at hk
  subst hk
  unfold opV
  simp only
  generalize (intR bs p st).1 = x at *
  generalize (intR bs p st).2.1 = q at *
  generalize (intR bs p st).2.2 = t at *
  go_enter Try.func38, Try.ntmps38
  go_upto_region 8 with (fail)
  generalize w.alloc (.cells #[.int .i64 1, .string os, .int .i64 on, .bool ob, .slice al ol.length cl] 103) = W at ci B1 hz ⊢
  go_wp2_with fail
  refine ci.mono ?_
  rintro e w1 ⟨rfl, R2, B2⟩
  have B3 := But.trans B1 B2
  have hs := B3.size
  have hg := R2.lt
  clear ci R1 B1 hr1 B2 hz
  go_wp2
  go_ret
  exact ⟨_, rfl, own_one _ _ _ hs, R2.below (bel1 _ _) hg, But.trans B3 (But.of (bel1 _ _))⟩
set_option maxRecDepth 20000 in
set_option maxHeartbeats 10000000 in
theorem rread4 (g : Nat) (a : Option Addr) (c : Nat) (bs : List Int) (p : Nat) (st : Bool) (o : OpD) (al : Option Addr) (cl : Nat) (hp : p ≤ bs.length) (hl : bs.length ≤ 1000000) (hB : Byt bs) (w : World) (hR : RdAt w g a c bs.length p st) (hr : Row w a c bs) (hk : o.k = 4) : Calls Try.prog 38 #[.pointer (some ⟨g, 0, none⟩), opV o al cl] w fun e w' => ∃ v, e = .returned v ∧ OwnK .i64 2 w' w.heap.size v [(countR bs p st).1] ∧ RdAt w' g a c bs.length (countR bs p st).2.1 (countR bs p st).2.2 ∧ But g w w' := by
  have R1 := hR.below (bel1 w (opO o al cl)) hR.lt
  have B1 : But g w (w.alloc (opO o al cl)) := But.of (bel1 w (opO o al cl))
  have hr1 := hr.carry (bel1 w (opO o al cl))
  have ci := rcount_any g a c bs p st hp hl hB _ R1 hr1
  have hz : w.heap.size ≤ (w.alloc (opO o al cl)).heap.size := by simp
  obtain ⟨ok, os, on, ob, ol⟩ := o
  simp only at hk
  subst hk
  unfold opV
  simp only
  generalize (countR bs p st).1 = x at *
  generalize (countR bs p st).2.1 = q at *
  generalize (countR bs p st).2.2 = t at *
  go_enter Try.func38, Try.ntmps38
  go_upto_region 18 with (fail)
  generalize w.alloc (.cells #[.int .i64 4, .string os, .int .i64 on, .bool ob, .slice al ol.length cl] 103) = W at ci B1 hz ⊢
  go_wp2_with fail
  refine ci.mono ?_
  rintro e w1 ⟨rfl, R2, B2⟩
  have B3 := But.trans B1 B2
  have hs := B3.size
  have hg := R2.lt
  clear ci R1 B1 hr1 B2 hz
  go_wp2
  go_ret
  exact ⟨_, rfl, own_one _ _ _ hs, R2.below (bel1 _ _) hg, But.trans B3 (But.of (bel1 _ _))⟩
set_option maxRecDepth 20000 in
set_option maxHeartbeats 10000000 in
theorem rread3 (g : Nat) (a : Option Addr) (c : Nat) (bs : List Int) (p : Nat) (st : Bool) (o : OpD) (al : Option Addr) (cl : Nat) (hp : p ≤ bs.length) (hl : bs.length ≤ 1000000) (hB : Byt bs) (w : World) (hR : RdAt w g a c bs.length p st) (hr : Row w a c bs) (hk : o.k = 3) : Calls Try.prog 38 #[.pointer (some ⟨g, 0, none⟩), opV o al cl] w fun e w' => ∃ v, e = .returned v ∧ OwnK .i64 2 w' w.heap.size v (intsR bs p st).1 ∧ RdAt w' g a c bs.length (intsR bs p st).2.1 (intsR bs p st).2.2 ∧ But g w w' := by
  have R1 := hR.below (bel1 w (opO o al cl)) hR.lt
  have B1 : But g w (w.alloc (opO o al cl)) := But.of (bel1 w (opO o al cl))
  have hr1 := hr.carry (bel1 w (opO o al cl))
  have ci := rdints_any g a c bs p st hp hl hB _ R1 hr1
  have hz : w.heap.size ≤ (w.alloc (opO o al cl)).heap.size := by simp
  obtain ⟨ok, os, on, ob, ol⟩ := o
  simp only at hk
  subst hk
  unfold opV
  simp only
  generalize (intsR bs p st).1 = x at *
  generalize (intsR bs p st).2.1 = q at *
  generalize (intsR bs p st).2.2 = t at *
  go_enter Try.func38, Try.ntmps38
  go_upto_region 16 with (fail)
  generalize w.alloc (.cells #[.int .i64 3, .string os, .int .i64 on, .bool ob, .slice al ol.length cl] 103) = W at ci B1 hz ⊢
  go_wp2_with fail
  refine ci.mono ?_
  rintro e w1 ⟨v, rfl, o2, R2, B2⟩
  have B3 := But.trans B1 B2
  clear ci R1 B1 hr1 B2
  have o3 : OwnK .i64 2 w1 w.heap.size v x := by
    refine ⟨o2.1, ?_⟩
    rcases o2.2 with h | ⟨g', cap, cur, h1, h2, h3⟩
    · exact .inl h
    · exact .inr ⟨g', cap, cur, h1, Nat.le_trans hz h2, h3⟩
  clear o2 hz
  go_wp2
  go_ret
  exact ⟨_, rfl, o3, R2, B3⟩
set_option maxRecDepth 20000 in
set_option maxHeartbeats 10000000 in
theorem rread5 (g : Nat) (a : Option Addr) (c : Nat) (bs : List Int) (p : Nat) (st : Bool) (o : OpD) (al : Option Addr) (cl : Nat) (w : World) (hR : RdAt w g a c bs.length p st) (hk : o.k = 5) : Calls Try.prog 38 #[.pointer (some ⟨g, 0, none⟩), opV o al cl] w fun e w' => e = .returned (.slice none 0 0) ∧ RdAt w' g a c bs.length p true ∧ But g w w' := by
  have R1 := hR.below (bel1 w (opO o al cl)) hR.lt
  have B1 : But g w (w.alloc (opO o al cl)) := But.of (bel1 w (opO o al cl))
  obtain ⟨ok, os, on, ob, ol⟩ := o
  simp only at hk
  subst hk
  unfold opV
  simp only
  go_enter Try.func38, Try.ntmps38
  go_upto_region 20 with (fail)
  generalize w.alloc (.cells #[.int .i64 5, .string os, .int .i64 on, .bool ob, .slice al ol.length cl] 103) = W at R1 B1 ⊢
  have c2 := R1.c2
  have f2 := R1.fr 2
  go_wp2
  go_ret
  exact ⟨rfl, R1.set2 true, B1.set 2 _⟩
set_option maxRecDepth 20000 in
set_option maxHeartbeats 10000000 in
theorem rread7 (g : Nat) (a : Option Addr) (c : Nat) (bs : List Int) (p : Nat) (st : Bool) (o : OpD) (al : Option Addr) (cl : Nat) (w : World) (hR : RdAt w g a c bs.length p st) (hk : ¬ (0 ≤ o.k ∧ o.k ≤ 6)) : Calls Try.prog 38 #[.pointer (some ⟨g, 0, none⟩), opV o al cl] w fun e w' => e = .returned (.slice none 0 0) ∧ RdAt w' g a c bs.length p st ∧ But g w w' := by
  have R1 := hR.below (bel1 w (opO o al cl)) hR.lt
  have B1 : But g w (w.alloc (opO o al cl)) := But.of (bel1 w (opO o al cl))
  obtain ⟨ok, os, on, ob, ol⟩ := o
  simp only at hk
  have t0 : (ok == 0) = false := by simp; omega
  have t1 : (ok == 1) = false := by simp; omega
  have t2 : (ok == 2) = false := by simp; omega
  have t3 : (ok == 3) = false := by simp; omega
  have t4 : (ok == 4) = false := by simp; omega
  have t5 : (ok == 5) = false := by simp; omega
  have t6 : (ok == 6) = false := by simp; omega
  unfold opV
  simp only
  clear hk
  go_enter Try.func38, Try.ntmps38
  go_wp2
  go_ret
  exact ⟨rfl, R1, B1⟩
set_option maxRecDepth 20000 in
set_option maxHeartbeats 10000000 in
theorem rread6 (g : Nat) (a : Option Addr) (c : Nat) (bs : List Int) (p : Nat) (st : Bool) (o : OpD) (al : Option Addr) (cl : Nat) (hp : p ≤ bs.length) (hl : bs.length ≤ 1000000) (hB : Byt bs) (w : World) (hR : RdAt w g a c bs.length p st) (hr : Row w a c bs) (hk : o.k = 6) : Calls Try.prog 38 #[.pointer (some ⟨g, 0, none⟩), opV o al cl] w fun e w' => ∃ v, e = .returned v ∧ OwnK .i64 2 w' w.heap.size v (eachR bs p st).1 ∧ RdAt w' g a c bs.length (eachR bs p st).2.1 (eachR bs p st).2.2 ∧ But g w w' := by
  have R0 := hR.below (bel1 w (opO o al cl)) hR.lt
  have B0 : But g w (w.alloc (opO o al cl)) := But.of (bel1 w (opO o al cl))
  have hr0 := hr.carry (bel1 w (opO o al cl))
  have cc := rcount_any g a c bs p st hp hl hB _ R0 hr0
  have hle := countR_le bs p st hp hB
  have hin := countR_in bs p st hp
  have hdef : eachR bs p st = (if (boolsR bs (countR bs p st).1.toNat (countR bs p st).2.1 (countR bs p st).2.2).2.2 then [] else (boolsR bs (countR bs p st).1.toNat (countR bs p st).2.1 (countR bs p st).2.2).1, (boolsR bs (countR bs p st).1.toNat (countR bs p st).2.1 (countR bs p st).2.2).2) := rfl
  obtain ⟨⟨x, q, t⟩, hC⟩ : ∃ r, r = countR bs p st := ⟨_, rfl⟩
  rw [← hC] at cc hle hin hdef
  simp only at cc hle hin hdef
  clear hC
  obtain ⟨N, rfl⟩ := Int.eq_ofNat_of_zero_le hin.1
  rw [Int.toNat_natCast] at hdef
  have hgw := hR.lt
  have HD := Lib.hid hdef
  have HRow := Lib.hid (fun (x : World) (hx : But g w x) => hr.but hR hx)
  clear hdef hr hr0 R0
  obtain ⟨ok, os, on, ob, ol⟩ := o
  simp only at hk
  subst hk
  unfold opV
  simp only
  go_enter Try.func38, Try.ntmps38
  go_upto_region 22 with (fail)
  generalize w.alloc (.cells #[.int .i64 6, .string os, .int .i64 on, .bool ob, .slice al ol.length cl] 103) = W at cc B0 ⊢
  go_wp2_with fail
  refine cc.mono ?_
  rintro e w1 ⟨rfl, R1, B1⟩
  replace B1 := But.trans B0 B1
  clear cc B0 hR
  go_wp2_with fail
  go_loopw [6, 7] (fun v i wr => ∃ (k p' : Nat) (st' : Bool) (acc : List Int), k ≤ N ∧ p' ≤ bs.length ∧ acc.length ≤ k ∧ i = .int .i64 k ∧ OwnK .i64 2 wr w.heap.size v acc ∧ RdAt wr g a c bs.length p' st' ∧ But g w wr ∧
    acc ++ (boolsR bs (N - k) p' st').1 = (boolsR bs N q t).1 ∧ (boolsR bs (N - k) p' st').2 = (boolsR bs N q t).2) (fun _ i _ => N - (intOf i).toNat)
  case atStart => exact ⟨0, q, t, [], Nat.zero_le _, hle.1, Nat.le_refl _, rfl, World.ownsRow_nil _ _ _ _, R1, B1, rfl, rfl⟩
  case round =>
    clear R1 B1
    obtain ⟨k, p', st', acc, hk, hp', hal, rfl, hown, R2, B2, ha, hb⟩ := hrel
    have d2 := R2.c2
    by_cases hlt : k < N
    · cases st' with
      | true =>
        rw [bools_stop] at ha hb
        have hres : eachR bs p st = ([], p', true) := by rw [HD.out, ← hb]; rfl
        have HR := Lib.hid hres
        clear ha hb hres
        go_wp2_with fail
        go_ret
        rw [HR.out]
        exact ⟨_, rfl, World.ownsRow_nil _ _ _ _, R2, B2⟩
      | false =>
        have ci := rbool_any g a c bs p' false ⟨2, ByteArray.empty, 0, false, []⟩ none 0 rfl hp' hl hB wr R2 (HRow.out wr B2)
        unfold opV at ci
        simp only [List.length_nil] at ci
        have hle2 := boolR_le bs p' false hp'
        obtain ⟨j, hj⟩ : ∃ j, N - k = j + 1 := ⟨N - k - 1, by omega⟩
        rw [hj] at ha hb
        simp only [boolsR, Bool.false_eq_true, if_false] at ha hb
        obtain ⟨⟨y, q2, t2⟩, hI⟩ : ∃ r, r = boolR bs p' false := ⟨_, rfl⟩
        rw [← hI] at ci hle2 ha hb
        simp only at ci hle2 ha hb
        rw [show j = N - (k + 1) by omega] at ha hb
        have HA := Lib.hid ha
        have HB := Lib.hid hb
        clear hI ha hb hj
        go_wp2_with fail
        refine ci.mono ?_
        rintro e w3 ⟨v3, rfl, o3, R3, B3⟩
        obtain ⟨a3, k3, rfl, r3⟩ := o3.row
        obtain ⟨b3, f3, rfl, hB3, hc3⟩ := r3.2 0 (by simp)
        replace hc3 : w3.cell? ⟨b3, f3, none⟩ = some (.int .i64 y) := hc3
        have own3 := hown.but B3 hgw
        have But3 := But.trans B2 B3
        have hs3 := But3.size
        clear ci d2 hown B2 B3 R2 o3 r3
        have R4 := R3.below (bel1 w3 (.cells #[.int .i64 y] 2)) R3.lt
        have But4 := But.trans But3 (But.of (bel1 w3 (.cells #[.int .i64 y] 2)))
        clear R3 But3
        simp only [List.length_singleton]
        go_wp2_with (at_builtin; refine wpList_appK Try.underlying100 info2 (by decide) rfl (.tmp 160) (.tmp 166) rfl rfl (own3.alloc1 _) (m := [y]) rfl (rowK_new _ _ _ _ _ (by decide)) (by simp; omega) (by simp; omega) ?_; intro v5 w5 o5 g5)
        have R5 := R4.kept (own3.alloc1 _) g5 hgw
        have But5 := But4.own (own3.alloc1 _) g5
        go_roundw
        case rel =>
          refine ⟨k + 1, q2, t2, acc ++ [y], by omega, hle2.1, by simp; omega, by go_num, o5, R5, But5, ?_, HB.out⟩
          rw [← HA.out]; simp
        case measure => simp [intOf]; omega
    · obtain rfl : k = N := by omega
      rw [Nat.sub_self] at ha hb
      simp only [boolsR, List.append_nil] at ha hb
      cases st' with
      | true =>
        have hres : eachR bs p st = ([], p', true) := by rw [HD.out, ← hb]; rfl
        have HR := Lib.hid hres
        clear ha hb hres
        go_wp2_with fail
        go_ret
        rw [HR.out]
        exact ⟨_, rfl, World.ownsRow_nil _ _ _ _, R2, B2⟩
      | false =>
        have hres : eachR bs p st = (acc, p', false) := by rw [HD.out, ← hb, ← ha]; rfl
        have HR := Lib.hid hres
        clear ha hb hres
        go_wp2_with fail
        go_ret
        rw [HR.out]
        exact ⟨_, rfl, hown, R2, B2⟩
theorem readR_le (bs : List Int) (p : Nat) (st : Bool) (o : OpD) (hp : p ≤ bs.length) (hB : Byt bs) : (readR bs p st o).2.1 ≤ bs.length ∧ p ≤ (readR bs p st o).2.1 := by
  have hc := countR_le bs p st hp hB
  unfold readR
  split
  · exact markR_le bs p st o.s hp
  · split
    · exact intR_le bs p st hp hB
    · split
      · exact boolR_le bs p st hp
      · split
        · have := many_le bs (countR bs p st).1.toNat (countR bs p st).2.1 (countR bs p st).2.2 hc.1 hB
          exact ⟨this.1, Nat.le_trans hc.2 this.2.1⟩
        · split
          · exact hc
          · split
            · exact ⟨hp, Nat.le_refl _⟩
            · split
              · have := bools_le bs (countR bs p st).1.toNat (countR bs p st).2.1 (countR bs p st).2.2 hc.1
                exact ⟨this.1, Nat.le_trans hc.2 this.2.1⟩
              · exact ⟨hp, Nat.le_refl _⟩
theorem readR_len (bs : List Int) (p : Nat) (st : Bool) (o : OpD) (hp : p ≤ bs.length) (hl : bs.length ≤ 1000000) (hB : Byt bs) : (readR bs p st o).1.length ≤ 1000000 := by
  have hc := countR_le bs p st hp hB
  have hi := countR_in bs p st hp
  unfold readR
  split
  · exact Nat.zero_le _
  · split
    · show 1 ≤ _; omega
    · split
      · show 1 ≤ _; omega
      · split
        · have := many_le bs (countR bs p st).1.toNat (countR bs p st).2.1 (countR bs p st).2.2 hc.1 hB
          unfold intsR
          simp only
          split
          · exact Nat.zero_le _
          · omega
        · split
          · show 1 ≤ _; omega
          · split
            · exact Nat.zero_le _
            · split
              · have := bools_le bs (countR bs p st).1.toNat (countR bs p st).2.1 (countR bs p st).2.2 hc.1
                unfold eachR
                simp only
                split
                · exact Nat.zero_le _
                · omega
              · exact Nat.zero_le _
/-- Read. -/
theorem rread_any (g : Nat) (a : Option Addr) (c : Nat) (bs : List Int) (p : Nat) (st : Bool) (o : OpD) (al : Option Addr) (cl : Nat) (hs : o.s.size ≤ 1000000) (hp : p ≤ bs.length) (hl : bs.length ≤ 1000000) (hB : Byt bs) (w : World) (hR : RdAt w g a c bs.length p st) (hr : Row w a c bs) :
    Calls Try.prog 38 #[.pointer (some ⟨g, 0, none⟩), opV o al cl] w fun e w' => ∃ v, e = .returned v ∧ OwnK .i64 2 w' w.heap.size v (readR bs p st o).1 ∧ RdAt w' g a c bs.length (readR bs p st o).2.1 (readR bs p st o).2.2 ∧ But g w w' := by
  unfold readR
  by_cases h0 : o.k = 0
  · simp only [if_pos h0]
    exact (rmark_any g a c bs p st o al cl h0 hs hp hl hB w hR hr).mono fun e w' ⟨he, h1, h2⟩ => ⟨_, he, World.ownsRow_nil _ _ _ _, h1, h2⟩
  · by_cases h1 : o.k = 1
    · simp only [if_neg h0, if_pos h1]
      exact rread1 g a c bs p st o al cl hp hl hB w hR hr h1
    · by_cases h2 : o.k = 2
      · simp only [if_neg h0, if_neg h1, if_pos h2]
        exact rbool_any g a c bs p st o al cl h2 hp hl hB w hR hr
      · by_cases h3 : o.k = 3
        · simp only [if_neg h0, if_neg h1, if_neg h2, if_pos h3]
          exact rread3 g a c bs p st o al cl hp hl hB w hR hr h3
        · by_cases h4 : o.k = 4
          · simp only [if_neg h0, if_neg h1, if_neg h2, if_neg h3, if_pos h4]
            exact rread4 g a c bs p st o al cl hp hl hB w hR hr h4
          · by_cases h5 : o.k = 5
            · simp only [if_neg h0, if_neg h1, if_neg h2, if_neg h3, if_neg h4, if_pos h5]
              exact (rread5 g a c bs p st o al cl w hR h5).mono fun e w' ⟨he, h1, h2⟩ => ⟨_, he, World.ownsRow_nil _ _ _ _, h1, h2⟩
            · by_cases h6 : o.k = 6
              · simp only [if_neg h0, if_neg h1, if_neg h2, if_neg h3, if_neg h4, if_neg h5, if_pos h6]
                exact rread6 g a c bs p st o al cl hp hl hB w hR hr h6
              · simp only [if_neg h0, if_neg h1, if_neg h2, if_neg h3, if_neg h4, if_neg h5, if_neg h6]
                exact (rread7 g a c bs p st o al cl w hR (by omega)).mono fun e w' ⟨he, h1, h2⟩ => ⟨_, he, World.ownsRow_nil _ _ _ _, h1, h2⟩
end Go.Proofs.Ytjfjekncmejfpaa
