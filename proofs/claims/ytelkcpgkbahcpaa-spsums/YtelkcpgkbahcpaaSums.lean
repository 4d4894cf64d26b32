/- The walks of Sum (sp and the document's), over the cut of stage 1. -/
import Derived.Test.YtelkcpgkbahcpaaSpoil
import Derived.StillTailTactics
import Derived.LoopTactic
import Derived.Lib.Hide
import Derived.Outline
namespace Go.Proofs.Ytelkcpgkbahcpaa
open Go.RowKit
set_option linter.unusedVariables false

/-- Two cells of a block. -/
def Cel2 (w : World) (b : Nat) (u v : Value) : Prop :=
  w.cell? ⟨b, 0, none⟩ = some u ∧ w.cell? ⟨b, 1, none⟩ = some v ∧ w.frozen? ⟨b, 0, none⟩ = false ∧ w.frozen? ⟨b, 1, none⟩ = false
theorem Cel2.carry {w w' : World} {b B : Nat} {u v : Value} (h : Cel2 w b u v) (hb : Below B w w') (hB : b < B) : Cel2 w' b u v := by
  obtain ⟨h0, h1, f0, f1⟩ := h
  exact ⟨(hb.cell (p := ⟨b, 0, none⟩) hB).trans h0, (hb.cell (p := ⟨b, 1, none⟩) hB).trans h1, (hb.frozen (p := ⟨b, 0, none⟩) hB).trans f0, (hb.frozen (p := ⟨b, 1, none⟩) hB).trans f1⟩
/-- The numbers of a list lie from an address on. -/
def RowAt (w : World) (b off : Nat) (l : List Int) : Prop := ∀ i, i < l.length → w.cell? ⟨b, off + i, none⟩ = some (.int .i64 (l.getD i 0))
theorem RowAt.carry {w w' : World} {b off B : Nat} {l : List Int} (h : RowAt w b off l) (hb : Below B w w') (hB : b < B) : RowAt w' b off l :=
  fun i hi => (hb.cell (p := ⟨b, off + i, none⟩) hB).trans (h i hi)
def total (l : List Int) : Int × Bool := l.foldl stepA (0, true)
theorem fold_false (l : List Int) (x : Int × Bool) (h : x.2 = false) : l.foldl stepA x = x := by
  induction l with
  | nil => rfl
  | cons a r ih => rw [List.foldl_cons, stepA, if_neg (by simp [h]), ih]
theorem total_snoc (l : List Int) (k : Nat) (h : k < l.length) : total (l.take (k + 1)) = stepA (total (l.take k)) (l.getD k 0) := by
  unfold total
  rw [List.take_succ_eq_append_getElem h, List.foldl_append]
  simp [h]
theorem total_stop (l : List Int) (k : Nat) (h : (total (l.take k)).2 = false) : total l = total (l.take k) := by
  conv => lhs; rw [← List.take_append_drop k l]
  unfold total at *
  rw [List.foldl_append, fold_false _ _ h]
theorem tidy_fold (l : List Int) : ∀ x, tidy x → tidy (l.foldl stepA x) := by
  induction l with
  | nil => exact fun _ h => h
  | cons a r ih => exact fun x h => ih _ (tidy_stepA h a)
theorem total_tidy (l : List Int) : tidy (total l) := tidy_fold l _ tidy_zero

theorem cel_set {w : World} {b : Nat} {u v : Value} (h : Cel2 w b u v) (x y : Value) :
    Cel2 ((w.setCell ⟨b, 0, none⟩ x).setCell ⟨b, 1, none⟩ y) b x y := by
  obtain ⟨h0, h1, f0, f1⟩ := h
  refine ⟨?_, ?_, ?_, ?_⟩ <;> simp [go_sem, *]

theorem rsum_any (b off cap : Nat) (l : List Int) (w : World) (hn : l.length ≤ 100) (hr : RowAt w b off l) (hin : ∀ i, i < l.length → inR (l.getD i 0)) (hB : b < w.heap.size) :
    Calls Try.prog 21 #[.slice (some ⟨b, off, none⟩) l.length cap] w fun e w' => e = .returned (pair (total l)) ∧ Below w.heap.size w w' := by
  go_enter Try.func21, Try.ntmps21
  go_wp2
  go_loopw [4] (fun i wr => ∃ k : Nat, k ≤ l.length ∧ i = .int .i64 k ∧ Below w.heap.size w wr ∧ w.heap.size + 1 < wr.heap.size ∧ Cel2 wr w.heap.size (.int .i64 0) (.bool false) ∧ Cel2 wr (w.heap.size + 1) (.int .i64 (total (l.take k)).1) (.bool (total (l.take k)).2)) (fun i _ => l.length - (intOf i).toNat)
  case atStart =>
    refine ⟨0, Nat.zero_le _, rfl, ((Below.refl _ _).alloc (Nat.le_refl _) _).alloc (by simp) _, by simp, ⟨?_, ?_, ?_, ?_⟩, ⟨?_, ?_, ?_, ?_⟩⟩ <;> simp [total]
  case round =>
    obtain ⟨k, hk, rfl, hbl, hz, hc2, hcs⟩ := hrel
    have hT := total_tidy (l.take k)
    have hrk := hr.carry hbl hB
    have hB' : b < wr.heap.size := by omega
    obtain ⟨x, hx⟩ : ∃ x, x = total (l.take k) := ⟨_, rfl⟩
    rw [← hx] at hcs hT
    have HX := Lib.hid hx
    clear hx
    obtain ⟨v, o⟩ := x
    have hcs' := hcs
    obtain ⟨s0, s1, g0, g1⟩ := hcs'
    have hc2' := hc2
    obtain ⟨r0, r1, e0, e1⟩ := hc2'
    simp only at s0 s1
    by_cases hlt : k < l.length
    · obtain ⟨y, hy⟩ : ∃ y, y = l.getD k 0 := ⟨_, rfl⟩
      have hck := hrk k hlt
      have hyin := hin k hlt
      rw [← hy] at hck hyin
      have HY := Lib.hid hy
      clear hy
      cases o
      · clear hr hrk hin hyin hck hT
        go_wp2
        refine bodyPost_ret (v := .agg #[.int .i64 v, .bool false]) (by simp [results, Try.results21, go_sem, *]) rfl ⟨?_, (hbl.setCell (p := ⟨w.heap.size, 0, none⟩) (Nat.le_refl _) _).setCell (p := ⟨w.heap.size, 1, none⟩) (Nat.le_refl _) _⟩
        rw [total_stop l k (by rw [← HX.out]), ← HX.out]; rfl
      · have hvin := hT.1
        clear hr hrk hin hT
        go_wp2_with fail
        go_still_tail 6, (by kernel_rfl)
        change wpList _ _ _ _ _ wr.drew
        go_wp2_with fail
        refine (radd_any _ _ _ hvin hyin).mono ?_
        rintro e w1 ⟨rfl, b1⟩
        have b2 : Below wr.heap.size wr w1 := (Below.refl _ wr).drew.trans b1
        have k1 := hcs.carry b2 (by omega)
        have k2 := hc2.carry b2 (by omega)
        have k3 := b2.size
        have k4 := k1
        obtain ⟨s0', s1', g0', g1'⟩ := k4
        clear b1 s0 s1 g0 g1 r0 r1 e0 e1 hck
        unfold pair
        go_wp2
        go_roundw
        case rel =>
          have bs : Below (w.heap.size + 1) w1 ((w1.setCell ⟨w.heap.size + 1, 0, none⟩ (.int .i64 (addR v y).1)).setCell ⟨w.heap.size + 1, 1, none⟩ (.bool (addR v y).2)) := below_set _ _ _ _
          have et : total (l.take (k + 1)) = addR v y := by
            rw [total_snoc l k hlt, ← HX.out, ← HY.out]; rfl
          refine ⟨k + 1, by omega, by go_num, (hbl.trans (b2.mono (by omega))).trans (bs.mono (by omega)), by simp; omega, k2.carry bs (by omega), ?_⟩
          rw [et]
          exact cel_set k1 _ _
        case measure => simp [intOf]; omega
    · clear hr hrk hin hT
      go_wp2
      refine bodyPost_ret (v := .agg #[.int .i64 v, .bool o]) (by simp [results, Try.results21, go_sem, *]) rfl ⟨?_, (hbl.setCell (p := ⟨w.heap.size, 0, none⟩) (Nat.le_refl _) _).setCell (p := ⟨w.heap.size, 1, none⟩) (Nat.le_refl _) _⟩
      have e := HX.out
      rw [List.take_of_length_le (by omega)] at e
      rw [← e]; rfl

theorem each_any (m b off cap : Nat) (l : List Int) (w : World) (hn : l.length ≤ 100) (hr : RowAt w b off l) (hin : ∀ i, i < l.length → inR (l.getD i 0)) (hB : b < m) (hm : Met w m (0, true)) :
    Calls Try.prog 29 #[.func (Fn.func 22) #[.pointer (some ⟨m, 0, none⟩)] #[], .slice (some ⟨b, off, none⟩) l.length cap] w fun e w' => e = .returned (.tuple #[]) ∧ Met w' m (total l) ∧ Below m w w' ∧ w.heap.size ≤ w'.heap.size := by
  go_enter Try.func29, Try.ntmps29
  go_wp2
  go_loopw [8] (fun i wr => ∃ k : Nat, k ≤ l.length ∧ i = .int .i64 k ∧ Below m w wr ∧ w.heap.size ≤ wr.heap.size ∧ Met wr m (total (l.take k)) ∧ (total (l.take k)).2 = true) (fun i _ => l.length - (intOf i).toNat)
  case atStart => exact ⟨0, Nat.zero_le _, rfl, Below.refl _ _, Nat.le_refl _, by simpa [total] using hm, by simp [total]⟩
  case round =>
    obtain ⟨k, hk, rfl, hbl, hz, hM, hT⟩ := hrel
    have hrk := hr.carry hbl hB
    have htd := total_tidy (l.take k)
    have HT := Lib.hid hT
    clear hT
    by_cases hlt : k < l.length
    · obtain ⟨y, hy⟩ : ∃ y, y = l.getD k 0 := ⟨_, rfl⟩
      have hck := hrk k hlt
      have hyin := hin k hlt
      rw [← hy] at hck hyin
      have HY := Lib.hid hy
      clear hy hr hrk hin
      go_wp2_with fail
      refine (madd_any m _ y wr hM htd hyin).mono ?_
      have et : total (l.take (k + 1)) = stepA (total (l.take k)) y := by rw [total_snoc l k hlt, ← HY.out]
      rw [← et]
      have ET := Lib.hid et
      clear et hM hck htd
      by_cases ho : (total (l.take (k + 1))).2 = true
      · rw [ho]
        have HO := Lib.hid ho
        clear ho
        rintro e w1 ⟨rfl, m1, b1, z1⟩
        go_wp2
        go_roundw
        case rel => exact ⟨k + 1, by omega, by go_num, hbl.trans b1, by omega, m1, HO.out⟩
        case measure => simp [intOf]; omega
      · have ho' : (total (l.take (k + 1))).2 = false := by simpa using ho
        rw [ho']
        have HO := Lib.hid ho'
        clear ho ho'
        rintro e w1 ⟨rfl, m1, b1, z1⟩
        go_wp2
        exact bodyPost_ret (v := .tuple #[]) (by simp [results, Try.results29, go_sem]) rfl ⟨rfl, by rw [total_stop l (k + 1) HO.out]; exact m1, hbl.trans b1, by omega⟩
    · go_wp2
      go_end0
      exact ⟨rfl, by rw [List.take_of_length_le (by omega)] at hM; exact hM, hbl, by omega⟩
theorem sum_any (b off cap : Nat) (l : List Int) (w : World) (hn : l.length ≤ 100) (hr : RowAt w b off l) (hin : ∀ i, i < l.length → inR (l.getD i 0)) (hB : b < w.heap.size) :
    Calls Try.prog 24 #[.slice (some ⟨b, off, none⟩) l.length cap] w fun e w' => e = .returned (two (total l)) ∧ Below w.heap.size w w' := by
  go_enter Try.func24, Try.ntmps24
  go_wp2_with fail
  refine (new_any _).mono ?_
  rintro e w1 ⟨rfl, m1, b1, z1⟩
  go_wp2_with fail
  refine (each_any _ b off cap l _ hn (hr.carry b1 hB) hin hB m1).mono ?_
  rintro e w2 ⟨rfl, m2, b2, z2⟩
  go_wp2_with fail
  refine (mval_any _ _ _ m2 (total_tidy l)).mono ?_
  rintro e w3 ⟨rfl, rfl⟩
  unfold two
  go_wp2
  go_ret2
  exact ⟨rfl, b1.trans b2⟩
end Go.Proofs.Ytelkcpgkbahcpaa
