/- The walk of the law SpSums, over the cut of stage 1. -/
import Derived.Test.YtelkcpgkbahcpaaSums
import Derived.ProofKit
import Derived.OpenShut
namespace Go.Proofs.Ytelkcpgkbahcpaa
open Go.RowKit
set_option linter.unusedVariables false

/-- Only block b may have turned. -/
def Only (b : Nat) (w w' : World) : Prop := w'.os = w.os ∧ w'.tape = w.tape ∧ w'.output = w.output ∧ w'.heap.size = w.heap.size ∧ ∀ k, k ≠ b → w'.heap[k]? = w.heap[k]?
theorem Only.refl (b : Nat) (w : World) : Only b w w := ⟨rfl, rfl, rfl, rfl, fun _ _ => rfl⟩
theorem Only.below {b : Nat} {w w' : World} (h : Only b w w') : Below b w w' :=
  ⟨h.1, h.2.1, h.2.2.1, Nat.le_of_eq h.2.2.2.1.symm, fun k hk => h.2.2.2.2 k (by omega)⟩
theorem Only.cell {b : Nat} {w w' : World} (h : Only b w w') {p : Addr} (hp : p.block ≠ b) : w'.cell? p = w.cell? p := World.cell?_of_block (w := w) (h.2.2.2.2 _ hp)
theorem Only.frozen {b : Nat} {w w' : World} (h : Only b w w') {p : Addr} (hp : p.block ≠ b) : w'.frozen? p = w.frozen? p := World.frozen?_of_block (w := w) (h.2.2.2.2 _ hp)
theorem only_set (w : World) (b : Nat) (u v : Value) : Only b w ((w.setCell ⟨b, 0, none⟩ u).setCell ⟨b, 1, none⟩ v) :=
  ⟨rfl, rfl, rfl, by simp, fun k hk => (Below.heap_setCell _ _ _ _ hk).trans (Below.heap_setCell _ _ _ _ hk)⟩
theorem madd_ok' (b : Nat) (v a : Int) (w : World) (hm : Met w b (v, true)) (hv : inR v) (ha : inR a) :
    Calls Try.prog 22 #[.pointer (some ⟨b, 0, none⟩), .int .i64 a] w fun e w' => e = .returned (.bool (addR v a).2) ∧ Met w' b (addR v a) ∧ Only b w w' := by
  have hm' := hm
  obtain ⟨h0, h1, f0, f1⟩ := hm'
  simp only [Bool.not_true] at h0 h1
  go_enter Try.func22, Try.ntmps22
  go_wp2_with (first | (go_at_call 7; refine (add_any _ _ _ hv ha).mono ?_; rintro e w' ⟨rfl, rfl⟩; unfold two) | go_in)
  go_ret
  exact ⟨rfl, met_set hm _, only_set w b _ _⟩
theorem madd_only (b : Nat) (x : Int × Bool) (a : Int) (w : World) (hm : Met w b x) (ht : tidy x) (ha : inR a) :
    Calls Try.prog 22 #[.pointer (some ⟨b, 0, none⟩), .int .i64 a] w fun e w' => e = .returned (.bool (stepA x a).2) ∧ Met w' b (stepA x a) ∧ Only b w w' := by
  obtain ⟨v, o⟩ := x
  cases o
  · exact (madd_no b v a w hm).mono fun e w' ⟨he, hw⟩ => by subst hw; exact ⟨he, hm, Only.refl _ _⟩
  · exact madd_ok' b v a w hm ht.1 ha
theorem is_of (v : Int) (o : Bool) (x : Int × Bool) (w : World) (h : x = (v, o)) :
    Calls Try.prog 13 #[.int .i64 x.1, .bool x.2, .agg #[.int .i64 v, .bool o]] w fun e w' => e = .returned (.bool true) ∧ Below w.heap.size w w' := by
  subst h; exact is_same (v, o) w
theorem rsum_n (b off n cap : Nat) (l : List Int) (w : World) (hl : l.length = n) (hn : n ≤ 100) (hr : RowAt w b off l) (hin : ∀ i, i < l.length → inR (l.getD i 0)) (hB : b < w.heap.size) :
    Calls Try.prog 21 #[.slice (some ⟨b, off, none⟩) n cap] w fun e w' => e = .returned (pair (total l)) ∧ Below w.heap.size w w' := by
  subst hl; exact rsum_any b off cap l w hn hr hin hB
theorem sum_n (b off n cap : Nat) (l : List Int) (w : World) (hl : l.length = n) (hn : n ≤ 100) (hr : RowAt w b off l) (hin : ∀ i, i < l.length → inR (l.getD i 0)) (hB : b < w.heap.size) :
    Calls Try.prog 24 #[.slice (some ⟨b, off, none⟩) n cap] w fun e w' => e = .returned (two (total l)) ∧ Below w.heap.size w w' := by
  subst hl; exact sum_any b off cap l w hn hr hin hB
theorem RowAt.take {w : World} {b off : Nat} {l : List Int} (h : RowAt w b off l) (k : Nat) : RowAt w b off (l.take k) := by
  intro i hi
  have h2 := h i (by simp at hi; omega)
  rw [h2]; simp at hi ⊢; rw [List.getElem?_take, if_pos (by omega)]

theorem sums_some (b off cap : Nat) (l : List Int) (w : World) (hcap : l.length ≤ cap) (hn : l.length ≤ 100) (hr : RowAt w b off l) (hin : ∀ i, i < l.length → inR (l.getD i 0)) (hB : b < w.heap.size) :
    Calls Try.prog 4 #[.slice (some ⟨b, off, none⟩) l.length cap] w fun e w' => e = .returned (.bool true) ∧ Below w.heap.size w w' := by
  go_enter Try.func4, Try.ntmps4
  go_wp2_with fail
  refine (new_any _).mono ?_
  rintro e w1 ⟨rfl, m1, b1, z1⟩
  go_wp2_with fail
  go_loopw [4] (fun i wr => ∃ k : Nat, k ≤ l.length ∧ i = .int .i64 k ∧ Below w.heap.size w wr ∧ w.heap.size < wr.heap.size ∧ Met wr w.heap.size (total (l.take k))) (fun i _ => l.length - (intOf i).toNat)
  case atStart => exact ⟨0, Nat.zero_le _, rfl, b1, z1, m1⟩
  case round =>
    obtain ⟨k, hk, rfl, hbl, hz, hM⟩ := hrel
    by_cases hlt : k < l.length
    · have hk1 : (k : Int) + 1 ≤ cap := by omega
      go_wp2_with fail
      refine (rsum_n b off _ cap (l.take (k + 1)) _ (by simp; omega) (by omega) ((hr.carry hbl hB).take _) ?_ (by omega)).mono ?_
      · intro i hi
        have := hin i (by simp at hi; omega)
        simp at hi this ⊢; rw [List.getElem?_take, if_pos (by omega)]; exact this
      rintro e w2 ⟨rfl, b2⟩
      have hb2 := bstep hbl b2
      obtain ⟨y, hy⟩ : ∃ y, y = l.getD k 0 := ⟨_, rfl⟩
      have hck : w2.cell? ⟨b, off + k, none⟩ = some (.int .i64 y) := by rw [hy]; exact (hr.carry hb2 hB) k hlt
      have hyin : inR y := by rw [hy]; exact hin k hlt
      have et : total (l.take (k + 1)) = stepA (total (l.take k)) y := by rw [total_snoc l k hlt, hy]
      have ET := Lib.hid et
      have hB2 : b < w2.heap.size := by have := b2.size; omega
      have hM2 := hM.carry b2 hz
      have htd := total_tidy (l.take k)
      have htd1 := total_tidy (l.take (k + 1))
      clear et hy
      obtain ⟨⟨v, o⟩, hx⟩ : ∃ x, x = total (l.take (k + 1)) := ⟨_, rfl⟩
      rw [← hx]
      have HX := Lib.hid hx
      clear hx
      unfold pair
      go_wp2_with fail
      refine (madd_only _ _ _ _ (hM2.carry ((Below.refl _ w2).alloc (Nat.le_refl _) _) (by have := b2.size; omega)) htd hyin).mono ?_
      rw [← ET.out, ← HX.out]
      rintro e w3 ⟨rfl, m3, o3⟩
      have c0 : w3.cell? ⟨w2.heap.size, 0, none⟩ = some (.int .i64 v) := (o3.cell (p := ⟨w2.heap.size, 0, none⟩) (by show w2.heap.size ≠ w.heap.size; have := b2.size; omega)).trans (by simp)
      have c1 : w3.cell? ⟨w2.heap.size, 1, none⟩ = some (.bool o) := (o3.cell (p := ⟨w2.heap.size, 1, none⟩) (by show w2.heap.size ≠ w.heap.size; have := b2.size; omega)).trans (by simp)
      have hb3 : Below w.heap.size w w3 := (hb2.alloc (by have := hb2.size; omega) _).trans o3.below
      have hs3 : w2.heap.size < w3.heap.size := by rw [o3.2.2.2.1]; simp
      clear hck hM2 hM o3
      go_wp2_with fail
      refine (mval_any _ _ _ m3 (by rw [HX.out]; exact htd1)).mono ?_
      rintro e w4 ⟨rfl, rfl⟩
      unfold two
      go_wp2_with fail
      refine (sum_n b off _ cap (l.take (k + 1)) _ (by simp; omega) (by omega) ((hr.carry hb3 hB).take _) ?_ (by omega)).mono ?_
      · intro i hi
        have := hin i (by simp at hi; omega)
        simp at hi this ⊢; rw [List.getElem?_take, if_pos (by omega)]; exact this
      rw [← HX.out]
      rintro e w5 ⟨rfl, b5⟩
      unfold two
      have c0' := (b5.cell (p := ⟨w2.heap.size, 0, none⟩) hs3).trans c0
      have c1' := (b5.cell (p := ⟨w2.heap.size, 1, none⟩) hs3).trans c1
      have m5 := m3.carry b5 (by have := b2.size; omega)
      have hb5 := bstep hb3 b5
      have hs5 : w2.heap.size < w5.heap.size := by have := b5.size; omega
      clear c0 c1
      have q1 : (o != o) = false := by simp
      go_wp2_with fail
      refine (is_at _ _ _).mono ?_
      rintro e w6 ⟨rfl, b6⟩
      have c0 := (b6.cell (p := ⟨w2.heap.size, 0, none⟩) hs5).trans c0'
      have c1 := (b6.cell (p := ⟨w2.heap.size, 1, none⟩) hs5).trans c1'
      clear c0' c1'
      go_wp2_with fail
      refine (is_at _ _ _).mono ?_
      rintro e w7 ⟨rfl, b7⟩
      clear c0 c1
      have hb7 := bstep (bstep hb5 b6) b7
      have b67 := bstep b6 b7
      have m7 := m5.carry b67 (by have := b2.size; omega)
      rw [HX.out] at m7
      go_wp2
      go_roundw
      case rel => exact ⟨k + 1, by omega, by go_num, hb7, by have := b67.size; have := b2.size; omega, m7⟩
      case measure => simp [intOf]; omega
    · go_wp2_with fail
      refine (awake_any _).mono ?_
      rintro e w4 ⟨rfl, b4⟩
      go_wp2
      go_ret
      exact ⟨rfl, bstep hbl b4⟩
theorem sums_long (a : Option Addr) (n cap : Nat) (w : World) (h : 100 < n) (h' : n ≤ 9223372036854775807) :
    Calls Try.prog 4 #[.slice a n cap] w fun e w' => e = .returned (.bool true) ∧ Below w.heap.size w w' := by
  go_enter Try.func4, Try.ntmps4
  go_wp2_with fail
  refine (awake_any _).mono ?_
  rintro e w4 ⟨rfl, b4⟩
  go_wp2
  go_ret
  exact ⟨rfl, b4⟩
theorem sums_none (a : Option Addr) (cap : Nat) (w : World) :
    Calls Try.prog 4 #[.slice a 0 cap] w fun e w' => e = .returned (.bool true) ∧ Below w.heap.size w w' := by
  go_enter Try.func4, Try.ntmps4
  go_wp2_with fail
  refine (new_any _).mono ?_
  rintro e w1 ⟨rfl, m1, b1, z1⟩
  go_wp2_with fail
  refine wp_loop_rounds 1 ?_
  rw [rounds_succ]
  go_wp2_with fail
  refine (awake_any _).mono ?_
  rintro e w4 ⟨rfl, b4⟩
  go_wp2
  go_ret
  exact ⟨rfl, bstep b1 b4⟩
/-- What the walk is told of a slice of integers that came in. -/
def IsRow (k : IntKind) (w : World) (a : Option Addr) (len cap : Nat) (zs : List Int) : Prop :=
  (a = none ∧ len = 0 ∧ cap = 0 ∧ zs = []) ∨
  ∃ x, a = some x ∧ len ≤ cap ∧ cap ≤ maxLen ∧ zs.length = cap ∧ (∀ i, i < zs.length → w.cell? (x.add i) = some (.int k (zs.getD i 0))) ∧ ∀ n ∈ zs, (Lit.int k n).wf = true
theorem spSums_walk (a : Option Addr) (len cap : Nat) (zs : List Int) (w : World) (h : IsRow .i64 w a len cap zs) :
    Calls Try.prog 4 #[.slice a len cap] w fun e w' => e = .returned (.bool true) ∧ Below w.heap.size w w' := by
  by_cases h0 : len = 0
  · subst h0; exact sums_none a cap w
  · rcases h with ⟨rfl, rfl, _⟩ | ⟨x, rfl, hl, hm, hz, hc, hwf⟩
    · exact absurd rfl h0
    · unfold maxLen at hm
      by_cases h1 : 100 < len
      · exact sums_long _ _ _ w h1 (by omega)
      · obtain ⟨b, off, rfl, hc'⟩ := ints_at hc (by omega)
        have hB : b < w.heap.size := World.block_lt_of_cell? _ _ (hc' 0 (by omega))
        have hL : (zs.take len).length = len := by simp; omega
        have hg : ∀ i, i < len → (zs.take len).getD i 0 = zs.getD i 0 := by
          intro i hi; simp; rw [List.getElem?_take, if_pos hi]
        have := sums_some b off cap (zs.take len) w (by omega) (by omega) (fun i hi => by rw [hg i (by omega)]; exact hc' i (by omega))
          (fun i hi => by rw [hg i (by omega)]; exact inR_wf (hwf _ (by rw [List.getD_eq_getElem?_getD, List.getElem?_eq_getElem (by omega)]; exact List.getElem_mem _))) hB
        rw [hL] at this
        exact this
end Go.Proofs.Ytelkcpgkbahcpaa
