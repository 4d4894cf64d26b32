/- The walks of Sum (sp and the document's), at slices that may be nil, over the cut of stage 8. -/
import Derived.Test.YtojphpncidjdiaaRe
import Derived.StillTailTactics
import Derived.LoopTactic
import Derived.Lib.Hide
import Derived.Outline
namespace Go.Proofs.Ytojphpncidjdiaa
open Go.RowKit
set_option maxRecDepth 20000
set_option linter.unusedVariables false

/-- Two cells of a block. -/
def SCel (w : World) (b : Nat) (u v : Value) : Prop :=
  w.cell? ⟨b, 0, none⟩ = some u ∧ w.cell? ⟨b, 1, none⟩ = some v ∧ w.frozen? ⟨b, 0, none⟩ = false ∧ w.frozen? ⟨b, 1, none⟩ = false
theorem SCel.carry {w w' : World} {b B : Nat} {u v : Value} (h : SCel w b u v) (hb : Below B w w') (hB : b < B) : SCel w' b u v := by
  obtain ⟨h0, h1, f0, f1⟩ := h
  exact ⟨(hb.cell (p := ⟨b, 0, none⟩) hB).trans h0, (hb.cell (p := ⟨b, 1, none⟩) hB).trans h1, (hb.frozen (p := ⟨b, 0, none⟩) hB).trans f0, (hb.frozen (p := ⟨b, 1, none⟩) hB).trans f1⟩
theorem scel_set {w : World} {b : Nat} {u v : Value} (h : SCel w b u v) (x y : Value) :
    SCel ((w.setCell ⟨b, 0, none⟩ x).setCell ⟨b, 1, none⟩ y) b x y := by
  obtain ⟨h0, h1, f0, f1⟩ := h
  refine ⟨?_, ?_, ?_, ?_⟩ <;> simp [go_sem, *]

/-- The numbers l, of 64 bits each, lie where a slice says, in a block below B; the slice may be nil where there are none. -/
def IRow (B : Nat) (w : World) (a : Option Addr) (l : List Int) : Prop :=
  ∀ k, k < l.length → inR (l.getD k 0) ∧ ∃ b off, a = some ⟨b, off, none⟩ ∧ b < B ∧ w.cell? ⟨b, off + k, none⟩ = some (.int .i64 (l.getD k 0))
theorem IRow.carry {B B' : Nat} {w w' : World} {a : Option Addr} {l : List Int} (h : IRow B w a l) (hb : Below B' w w') (hB : B ≤ B') : IRow B w' a l := fun k hk => by
  obtain ⟨h0, b, off, h1, h2, h3⟩ := h k hk
  exact ⟨h0, b, off, h1, h2, (hb.cell (p := ⟨b, off + k, none⟩) (by simp; omega)).trans h3⟩
theorem IRow.mono {B B' : Nat} {w : World} {a : Option Addr} {l : List Int} (h : IRow B w a l) (hB : B ≤ B') : IRow B' w a l := fun k hk => by
  obtain ⟨h0, b, off, h1, h2, h3⟩ := h k hk
  exact ⟨h0, b, off, h1, by omega, h3⟩
theorem take_getD {l : List Int} {n k : Nat} (h : k < (l.take n).length) : (l.take n).getD k 0 = l.getD k 0 := by
  rw [List.length_take] at h
  rw [List.getD_eq_getElem?_getD, List.getD_eq_getElem?_getD, List.getElem?_take_of_lt (by omega)]
theorem IRow.take {B : Nat} {w : World} {a : Option Addr} {l : List Int} (h : IRow B w a l) (n : Nat) : IRow B w a (l.take n) := fun k hk => by
  rw [take_getD hk]
  exact h k (by rw [List.length_take] at hk; omega)

def total (l : List Int) : Int × Bool := l.foldl stepA (0, true)
theorem fold_false (l : List Int) (x : Int × Bool) (h : x.2 = false) : l.foldl stepA x = x := by
  induction l with
  | nil => rfl
  | cons a r ih => rw [List.foldl_cons, stepA, if_neg (by simp [h]), ih]
theorem total_snoc (l : List Int) (k : Nat) (h : k < l.length) : total (l.take (k + 1)) = stepA (total (l.take k)) (l.getD k 0) := by
  unfold total
  rw [List.take_succ_eq_append_getElem h, List.foldl_append]
  simp [h]
theorem total_stop (l : List Int) (k : Nat) (h : (total (l.take k)).2 = false) : total l = total (l.take k) := by
  conv => lhs; rw [← List.take_append_drop k l]
  unfold total at *
  rw [List.foldl_append, fold_false _ _ h]
theorem tidy_fold (l : List Int) : ∀ x, tidy x → tidy (l.foldl stepA x) := by
  induction l with
  | nil => exact fun _ h => h
  | cons a r ih => exact fun x h => ih _ (tidy_stepA h a)
theorem total_tidy (l : List Int) : tidy (total l) := tidy_fold l _ tidy_zero

theorem rsum_any (a : Option Addr) (cap : Nat) (l : List Int) (w : World) (hn : l.length ≤ 1000000) (hr : IRow w.heap.size w a l) :
    Calls Try.prog 56 #[.slice a l.length cap] w fun e w' => e = .returned (pair (total l)) ∧ Below w.heap.size w w' := by
  go_enter Try.func56, Try.ntmps56
  go_wp2
  go_loopw [4] (fun i wr => ∃ k : Nat, k ≤ l.length ∧ i = .int .i64 k ∧ Below w.heap.size w wr ∧ w.heap.size + 1 < wr.heap.size ∧ SCel wr w.heap.size (.int .i64 0) (.bool false) ∧ SCel wr (w.heap.size + 1) (.int .i64 (total (l.take k)).1) (.bool (total (l.take k)).2)) (fun i _ => l.length - (intOf i).toNat)
  case atStart =>
    refine ⟨0, Nat.zero_le _, rfl, ((Below.refl _ _).alloc (Nat.le_refl _) _).alloc (by simp) _, by simp, ⟨?_, ?_, ?_, ?_⟩, ⟨?_, ?_, ?_, ?_⟩⟩ <;> simp [total]
  case round =>
    obtain ⟨k, hk, rfl, hbl, hz, hc2, hcs⟩ := hrel
    have hT := total_tidy (l.take k)
    have hrk := hr.carry hbl (Nat.le_refl _)
    obtain ⟨x, hx⟩ : ∃ x, x = total (l.take k) := ⟨_, rfl⟩
    rw [← hx] at hcs hT
    have HX := Lib.hid hx
    clear hx
    obtain ⟨v, o⟩ := x
    have hcs' := hcs
    obtain ⟨s0, s1, g0, g1⟩ := hcs'
    have hc2' := hc2
    obtain ⟨r0, r1, e0, e1⟩ := hc2'
    simp only at s0 s1
    by_cases hlt : k < l.length
    · obtain ⟨hyin, b, off, rfl, hB, hck⟩ := hrk k hlt
      obtain ⟨y, hy⟩ : ∃ y, y = l.getD k 0 := ⟨_, rfl⟩
      rw [← hy] at hck hyin
      have HY := Lib.hid hy
      clear hy
      cases o
      · clear hr hrk hyin hck hT
        go_wp2
        refine bodyPost_ret (v := .agg #[.int .i64 v, .bool false]) (by simp [results, Try.results56, go_sem, *]) rfl ⟨?_, (hbl.setCell (p := ⟨w.heap.size, 0, none⟩) (Nat.le_refl _) _).setCell (p := ⟨w.heap.size, 1, none⟩) (Nat.le_refl _) _⟩
        rw [total_stop l k (by rw [← HX.out]), ← HX.out]; rfl
      · have hvin := hT.1
        clear hr hrk hT
        go_wp2_with fail
        go_still_tail 6, (by kernel_rfl)
        change wpList _ _ _ _ _ wr.drew
        go_wp2_with fail
        refine (radd_any _ _ _ hvin hyin).mono ?_
        rintro e w1 ⟨rfl, b1⟩
        have b2 : Below wr.heap.size wr w1 := (Below.refl _ wr).drew.trans b1
        have k1 := hcs.carry b2 (by omega)
        have k2 := hc2.carry b2 (by omega)
        have k3 := b2.size
        have k4 := k1
        obtain ⟨s0', s1', g0', g1'⟩ := k4
        clear b1 s0 s1 g0 g1 r0 r1 e0 e1 hck
        unfold pair
        go_wp2
        go_roundw
        case rel =>
          have bs : Below (w.heap.size + 1) w1 ((w1.setCell ⟨w.heap.size + 1, 0, none⟩ (.int .i64 (addR v y).1)).setCell ⟨w.heap.size + 1, 1, none⟩ (.bool (addR v y).2)) := below_set _ _ _ _
          have et : total (l.take (k + 1)) = addR v y := by
            rw [total_snoc l k hlt, ← HX.out, ← HY.out]; rfl
          refine ⟨k + 1, by omega, by go_num, (hbl.trans (b2.mono (by omega))).trans (bs.mono (by omega)), by simp; omega, k2.carry bs (by omega), ?_⟩
          rw [et]
          exact scel_set k1 _ _
        case measure => simp [intOf]; omega
    · clear hr hrk hT
      go_wp2
      refine bodyPost_ret (v := .agg #[.int .i64 v, .bool o]) (by simp [results, Try.results56, go_sem, *]) rfl ⟨?_, (hbl.setCell (p := ⟨w.heap.size, 0, none⟩) (Nat.le_refl _) _).setCell (p := ⟨w.heap.size, 1, none⟩) (Nat.le_refl _) _⟩
      have e := HX.out
      rw [List.take_of_length_le (by omega)] at e
      rw [← e]; rfl

theorem seach_any (m : Nat) (a : Option Addr) (cap : Nat) (l : List Int) (w : World) (hn : l.length ≤ 1000000) (hr : IRow m w a l) (hm : Met w m (0, true)) :
    Calls Try.prog 73 #[.func (Fn.func 74) #[.pointer (some ⟨m, 0, none⟩)] #[], .slice a l.length cap] w fun e w' => e = .returned (.tuple #[]) ∧ Met w' m (total l) ∧ Below m w w' ∧ w.heap.size ≤ w'.heap.size := by
  go_enter Try.func73, Try.ntmps73
  go_wp2
  go_loopw [8] (fun i wr => ∃ k : Nat, k ≤ l.length ∧ i = .int .i64 k ∧ Below m w wr ∧ w.heap.size ≤ wr.heap.size ∧ Met wr m (total (l.take k)) ∧ (total (l.take k)).2 = true) (fun i _ => l.length - (intOf i).toNat)
  case atStart => exact ⟨0, Nat.zero_le _, rfl, Below.refl _ _, Nat.le_refl _, by simpa [total] using hm, by simp [total]⟩
  case round =>
    obtain ⟨k, hk, rfl, hbl, hz, hM, hT⟩ := hrel
    have hrk := hr.carry hbl (Nat.le_refl _)
    have htd := total_tidy (l.take k)
    have HT := Lib.hid hT
    clear hT
    by_cases hlt : k < l.length
    · obtain ⟨hyin, b, off, rfl, hB, hck⟩ := hrk k hlt
      obtain ⟨y, hy⟩ : ∃ y, y = l.getD k 0 := ⟨_, rfl⟩
      rw [← hy] at hck hyin
      have HY := Lib.hid hy
      clear hy hr hrk
      go_wp2_with fail
      refine (madd_any m _ y wr hM htd hyin).mono ?_
      have et : total (l.take (k + 1)) = stepA (total (l.take k)) y := by rw [total_snoc l k hlt, ← HY.out]
      rw [← et]
      have ET := Lib.hid et
      clear et hM hck htd
      by_cases ho : (total (l.take (k + 1))).2 = true
      · rw [ho]
        have HO := Lib.hid ho
        clear ho
        rintro e w1 ⟨rfl, m1, b1, z1⟩
        go_wp2
        go_roundw
        case rel => exact ⟨k + 1, by omega, by go_num, hbl.trans b1, by omega, m1, HO.out⟩
        case measure => simp [intOf]; omega
      · have ho' : (total (l.take (k + 1))).2 = false := by simpa using ho
        rw [ho']
        have HO := Lib.hid ho'
        clear ho ho'
        rintro e w1 ⟨rfl, m1, b1, z1⟩
        go_wp2
        exact bodyPost_ret (v := .tuple #[]) (by simp [results, Try.results73, go_sem]) rfl ⟨rfl, by rw [total_stop l (k + 1) HO.out]; exact m1, hbl.trans b1, by omega⟩
    · go_wp2
      go_end0
      exact ⟨rfl, by rw [List.take_of_length_le (by omega)] at hM; exact hM, hbl, by omega⟩
theorem ssum_any (a : Option Addr) (cap : Nat) (l : List Int) (w : World) (hn : l.length ≤ 1000000) (hr : IRow w.heap.size w a l) :
    Calls Try.prog 51 #[.slice a l.length cap] w fun e w' => e = .returned (two (total l)) ∧ Below w.heap.size w w' := by
  go_enter Try.func51, Try.ntmps51
  go_wp2_with fail
  refine (new_any _).mono ?_
  rintro e w1 ⟨rfl, m1, b1, z1⟩
  go_wp2_with fail
  refine (seach_any _ a cap l _ hn (hr.carry b1 (Nat.le_refl _)) m1).mono ?_
  rintro e w2 ⟨rfl, m2, b2, z2⟩
  go_wp2_with fail
  refine (mval_any _ _ _ m2 (total_tidy l)).mono ?_
  rintro e w3 ⟨rfl, rfl⟩
  unfold two
  go_wp2
  go_ret2
  exact ⟨rfl, b1.trans b2⟩
/-- 'l[:n]' of a slice, nil or not. -/
theorem icut_to (a : Option Addr) (n cap : Nat) (i : Nat) (hi : i ≤ cap) (hc : cap ≤ maxLen) :
    ∀ x, Sem.run Try.prog (Instr.slice 36 (.slice a n cap) none (some (.int .i64 i)) none) x = .ok (.slice a i cap) x := by
  intro x
  rw [run_slice_h _ 36 a n cap Try.underlying36 .i64 i (by omega) (by omega)]
  have e : Sem.run Try.prog (sizeOf (Try.prog.elem 36)) x = .ok 1 x := by kernel_rfl
  rw [e]
  simp [Result.andThen, sliced]
  intro _
  cases a <;> simp [Addr.add]
end Go.Proofs.Ytojphpncidjdiaa
