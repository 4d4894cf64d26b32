/- The document's Reader: Read of a mark. -/
import Derived.Test.YtbadkfocfgojlaaXReadB
namespace Go.Proofs.Ytbadkfocfgojlaa
open Go.RowKit
set_option linter.unusedVariables false
set_option linter.unusedSimpArgs false

def strOf (l : List Int) : ByteArray := ⟨(l.map fun x => UInt8.ofNat x.toNat).toArray⟩
theorem bytes_str (l : List Int) (h : Byt l) : bytesOf (strOf l) = l := by
  unfold bytesOf strOf
  simp only [List.toList_toArray, List.map_map]
  conv => rhs; rw [← List.map_id l]
  apply List.map_congr_left
  intro x hx
  have := h x hx
  simp only [Function.comp_apply, id_eq, UInt8.toNat_ofNat']
  omega
theorem str_bytes (s : ByteArray) : strOf (bytesOf s) = s := by
  obtain ⟨⟨l⟩⟩ := s
  unfold bytesOf strOf
  simp only [List.map_map]
  congr 2
  conv => rhs; rw [← List.map_id l]
  apply List.map_congr_left
  intro b _
  simp
theorem str_eq (l : List Int) (h : Byt l) (s : ByteArray) : strOf l = s ↔ l = bytesOf s := by
  constructor
  · intro e; rw [← e, bytes_str l h]
  · intro e; rw [e, str_bytes]
theorem str_size (l : List Int) : (strOf l).size = l.length := by unfold strOf; simp [ByteArray.size]
/-- string(b) -/
theorem conv_row (w : World) (a : Option Addr) (c : Nat) (l : List Int) (hr : Row w a c l) (hB : Byt l) : (convert 26 9 (.slice a l.length c)).run Try.prog w = .ok (.string (strOf l)) w := by
  cases a with
  | none =>
    have : l = [] := by
      rcases Nat.eq_zero_or_pos l.length with h | h
      · exact List.eq_nil_of_length_eq_zero h
      · obtain ⟨_, _, e, _⟩ := hr.2 0 h; cases e
    subst this
    show Sem.run Try.prog (convert 26 9 (Value.slice none 0 c)) w = _
    rw [run_convert_bytes_string w 26 9 5 none 0 c Try.underlying26 Try.underlying5 Try.underlying9]
    rfl
  | some ad =>
    have h := run_convert_bytes_back (P := Try.prog) w 26 9 5 ad c (l.map fun x => UInt8.ofNat x.toNat) Try.underlying26 Try.underlying5 Try.underlying9 (fun j hj => by
      have hj' : j < l.length := by simpa using hj
      obtain ⟨b, off, e, _, hc⟩ := hr.2 j hj'
      obtain rfl : ad = ⟨b, off, none⟩ := by simpa using e
      rw [Go.WideShapes.add_plain, hc]
      have := hB (l[j]) (List.getElem_mem hj')
      simp only [List.getElem_map, UInt8.toNat_ofNat']
      have e2 : l.getD j 0 = l[j] := by simp [hj']
      rw [e2]
      congr 2
      omega)
    simpa [strOf] using h
/-- b[i:j] -/
theorem cut_mid (a : Option Addr) (cap n : Nat) (l : List Int) (i m : Nat) (hi : i + m ≤ l.length) (w : World) (h : Row w a cap l) :
    ∃ a' c', (∀ x, Sem.run Try.prog (Instr.slice 26 (.slice a n cap) (some (.int .i64 (i : Int))) (some (.int .i64 ((i : Int) + (m : Int)))) none) x = .ok (.slice a' m c') x) ∧ Row w a' c' ((l.drop i).take m) := by
  have hc := h.1
  refine ⟨if cap = i then a else a.map (·.add i), cap - i, fun x => ?_, ?_, ?_⟩
  · rw [run_slice_lh _ 26 a n cap Try.underlying26 .i64 .i64 i ((i : Int) + m) (by omega) (by omega) (by omega)]
    have e : Sem.run Try.prog (sizeOf (Try.prog.elem 26)) x = .ok 1 x := by kernel_rfl
    rw [e]
    have e2 : ((i : Int) + (m : Int)).toNat - i = m := by omega
    simp [Result.andThen, sliced, e2]
  · simp; omega
  · intro k hk
    have hk' : k < m ∧ i + k < l.length := by simp at hk; omega
    obtain ⟨b, off, rfl, hB, hcc⟩ := h.2 _ hk'.2
    rw [if_neg (by omega)]
    refine ⟨b, off + i, ?_, hB, ?_⟩
    · simp only [Option.map_some, Option.some.injEq]
      unfold Addr.add; split <;> simp_all
    · rw [Nat.add_assoc, hcc]
      simp [List.getD_eq_getElem?_getD, List.getElem?_take, List.getElem?_drop, hk'.1]
def markR (bs : List Int) (p : Nat) (st : Bool) (s : ByteArray) : Nat × Bool :=
  if st = true ∨ (bs.length : Int) - p < s.size ∨ (bs.drop p).take s.size ≠ bytesOf s then (p, true) else (p + s.size, false)
set_option maxRecDepth 20000 in
set_option maxHeartbeats 10000000 in
theorem rmark_short (g : Nat) (a : Option Addr) (c : Nat) (bs : List Int) (p : Nat) (st : Bool) (o : OpD) (al : Option Addr) (cl : Nat) (hk : o.k = 0) (hs : o.s.size ≤ 1000000) (hp : p ≤ bs.length) (hl : bs.length ≤ 1000000) (hB : Byt bs) (w : World) (hR : RdAt w g a c bs.length p st) (hr : Row w a c bs)
    (hbad : st = true ∨ (bs.length : Int) - p < o.s.size) :
    Calls Try.prog 15 #[.pointer (some ⟨g, 0, none⟩), opV o al cl] w fun e w' => e = .returned (.slice none 0 0) ∧ RdAt w' g a c bs.length (markR bs p st o.s).1 (markR bs p st o.s).2 ∧ But g w w' := by
  have HB := Lib.hid (show markR bs p st o.s = (p, true) by unfold markR; rw [if_pos (by rcases hbad with h | h; exact .inl h; exact .inr (.inl h))])
  have sg := sight_of w g a c bs.length p st o al cl hR
  have R1 := hR.below (bel1 w (opO o al cl)) hR.lt
  have B1 : But g w (w.alloc (opO o al cl)) := But.of (bel1 w (opO o al cl))
  have hz : w.heap.size ≤ (w.alloc (opO o al cl)).heap.size := by simp
  obtain ⟨ok, os, on, ob, ol⟩ := o
  simp only at hk sg hbad HB hs
  subst hk
  unfold opV
  simp only
  go_enter Try.func15, Try.ntmps15
  go_upto_region 3 with (fail)
  generalize w.alloc (.cells #[.int .i64 0, .string os, .int .i64 on, .bool ob, .slice al ol.length cl] 37) = W at sg R1 B1 hz ⊢
  have SG := Lib.hid sg
  clear sg hr
  cases st with
  | true =>
    (refine wp_region_text (Old W) 42 (by kernel_rfl) (by kernel_rfl) (Below.refl _ W).drew ?_; simp only [List.take_succ_cons, List.take_zero, List.drop_succ_cons, List.drop_zero])
    repeat (first | (apply Text.sees (hw := by kernel_rfl); (focus (intro x hx K hK; have hc := SG.out x hx; go_simp; exact hK)); simp only [Act.put, List.getElem_toArray, List.getElem_cons_succ, List.getElem_cons_zero, List.setIfInBounds_toArray, List.set_cons_zero, List.set_cons_succ]) | (apply Text.idle; (focus (intro x hx K hK; go_simp; exact hK)); simp only [Act.put, List.getElem_toArray, List.getElem_cons_succ, List.getElem_cons_zero, List.setIfInBounds_toArray, List.set_cons_zero, List.set_cons_succ]))
    intro x hx
    have Rx := R1.below hx R1.lt
    have c2 := Rx.c2
    have f2 := Rx.fr 2
    have Bx := But.trans B1 (But.of hx)
    clear R1 B1 SG hx
    go_wp2
    go_ret
    exact ⟨rfl, by rw [HB.out]; exact Rx.set2 true, Bx.set 2 _⟩
  | false =>
    have hb2 : (bs.length : Int) - p < os.size := by simpa using hbad
    have hw1 : wrap64 ((bs.length : Int) - (p : Int)) = (bs.length : Int) - (p : Int) := by unfold wrap64; omega
    have hw2 : IntKind.i64.wrap ((bs.length : Int) - (p : Int)) = (bs.length : Int) - (p : Int) := by rw [IntKind.wrap_i64]; omega
    have hd : decide ((bs.length : Int) - (p : Int) < (os.size : Int)) = true := by simpa using hb2
    (refine wp_region_text (Old W) 42 (by kernel_rfl) (by kernel_rfl) (Below.refl _ W).drew ?_; simp only [List.take_succ_cons, List.take_zero, List.drop_succ_cons, List.drop_zero])
    repeat (first | (apply Text.sees (hw := by kernel_rfl); (focus (intro x hx K hK; have hc := SG.out x hx; go_simp; exact hK)); simp only [Act.put, List.getElem_toArray, List.getElem_cons_succ, List.getElem_cons_zero, List.setIfInBounds_toArray, List.set_cons_zero, List.set_cons_succ]) | (apply Text.idle; (focus (intro x hx K hK; go_simp; exact hK)); simp only [Act.put, List.getElem_toArray, List.getElem_cons_succ, List.getElem_cons_zero, List.setIfInBounds_toArray, List.set_cons_zero, List.set_cons_succ]))
    intro x hx
    have Rx := R1.below hx R1.lt
    have c2 := Rx.c2
    have f2 := Rx.fr 2
    have Bx := But.trans B1 (But.of hx)
    clear R1 B1 SG hx
    go_wp2
    go_ret
    exact ⟨rfl, by rw [HB.out]; exact Rx.set2 true, Bx.set 2 _⟩
end Go.Proofs.Ytbadkfocfgojlaa
