/- The contracts of package wide's product, compare, Ratio and Cmp, and of 'awake', over the cut. -/
import Derived.Test.YtojphpncidjdiaaWNum
namespace Go.Proofs.Ytojphpncidjdiaa
open Go.RowKit
set_option linter.unusedVariables false

theorem bstep {w w1 w2 : World} {B : Nat} (h : Below B w w1) (k : Below w1.heap.size w1 w2) (hB : B ≤ w1.heap.size) : Below B w w2 := h.trans (k.mono hB)
theorem bel_set2 {w w1 : World} {u v x y : Value} {T : TypeId} (hb : Below (w.alloc (.cells #[u, v] T)).heap.size (w.alloc (.cells #[u, v] T)) w1) :
    w1.cell? ⟨w.heap.size, 0, none⟩ = some u ∧ w1.cell? ⟨w.heap.size, 1, none⟩ = some v ∧ w1.frozen? ⟨w.heap.size, 0, none⟩ = false ∧ w1.frozen? ⟨w.heap.size, 1, none⟩ = false ∧
    Below w.heap.size w ((w1.setCell ⟨w.heap.size, 0, none⟩ x).setCell ⟨w.heap.size, 1, none⟩ y) :=
  ⟨(hb.cell (p := ⟨w.heap.size, 0, none⟩) (by simp)).trans (by simp), (hb.cell (p := ⟨w.heap.size, 1, none⟩) (by simp)).trans (by simp),
   (hb.frozen (p := ⟨w.heap.size, 0, none⟩) (by simp)).trans (by simp), (hb.frozen (p := ⟨w.heap.size, 1, none⟩) (by simp)).trans (by simp),
   ((((Below.refl _ w).alloc (Nat.le_refl _) _).trans (hb.mono (by simp))).setCell (p := ⟨w.heap.size, 0, none⟩) (Nat.le_refl _) _).setCell (p := ⟨w.heap.size, 1, none⟩) (Nat.le_refl _) _⟩
theorem prod_walk (a b m n ph pl : Int) (w : World) (ea : IntKind.u64.wrap (if a < 0 then 0 else a) = m) (eb : IntKind.u64.wrap (if b < 0 then 0 else b) = n)
    (c : ∀ w, Calls Try.prog 76 #[.int .u64 m, .int .u64 n] w fun e w' => e = .returned (.agg #[.int .u64 ph, .int .u64 pl]) ∧ Below w.heap.size w w') :
    Calls Try.prog 52 #[.int .i64 a, .int .i64 b] w fun e w' => e = .returned (.agg #[.int .u64 ph, .int .u64 pl]) ∧ Below w.heap.size w w' := by
  go_enter Try.func52, Try.ntmps52
  go_wp2_with (go_at_call 76; (try rw [ea]); (try rw [eb]); refine (c _).mono ?_; rintro e w1 ⟨rfl, b1⟩; obtain ⟨c0, c1, f0, f1, b2⟩ := bel_set2 (x := .int .u64 ph) (y := .int .u64 pl) b1)
  all_goals exact bodyPost_ret (v := .agg #[.int .u64 ph, .int .u64 pl]) (by simp [results, Try.results52, go_sem, *]) rfl ⟨rfl, b2⟩
theorem wrap_pos (a : Int) (h : a < 18446744073709551616) : IntKind.u64.wrap (if a < 0 then 0 else a) = (a.toNat : Int) := by
  rw [IntKind.wrap_u64]; split <;> omega
theorem prod_any (a b : Int) (w : World) (ha : a < 18446744073709551616) (hb : b < 18446744073709551616) :
    Calls Try.prog 52 #[.int .i64 a, .int .i64 b] w fun e w' => e = .returned (nm (a.toNat * b.toNat)) ∧ Below w.heap.size w w' :=
  prod_walk a b a.toNat b.toNat _ _ w (wrap_pos a ha) (wrap_pos b hb) fun w => wmul_any _ _ w (by omega) (by omega)
theorem bel_cells {w w1 : World} {u v x y : Value} {T S : TypeId} (hb : Below ((w.alloc (.cells #[u, v] T)).alloc (.cells #[x, y] S)).heap.size ((w.alloc (.cells #[u, v] T)).alloc (.cells #[x, y] S)) w1) :
    w1.cell? ⟨w.heap.size, 0, none⟩ = some u ∧ w1.cell? ⟨w.heap.size, 1, none⟩ = some v ∧ w1.cell? ⟨w.heap.size + 1, 0, none⟩ = some x ∧ w1.cell? ⟨w.heap.size + 1, 1, none⟩ = some y ∧ Below w.heap.size w w1 :=
  ⟨(hb.cell (p := ⟨w.heap.size, 0, none⟩) (by simp; omega)).trans (by simp), (hb.cell (p := ⟨w.heap.size, 1, none⟩) (by simp; omega)).trans (by simp),
   (hb.cell (p := ⟨w.heap.size + 1, 0, none⟩) (by simp)).trans (by simp), (hb.cell (p := ⟨w.heap.size + 1, 1, none⟩) (by simp)).trans (by simp), (bel2 _ _ _).trans (hb.mono (by simp; omega))⟩
theorem cmp_less (ah al bh bl : Int) (w : World)
    (c : ∀ w, Calls Try.prog 55 #[.agg #[.int .u64 ah, .int .u64 al], .agg #[.int .u64 bh, .int .u64 bl]] w fun e w' => e = .returned (.bool true) ∧ Below w.heap.size w w') :
    Calls Try.prog 54 #[.agg #[.int .u64 ah, .int .u64 al], .agg #[.int .u64 bh, .int .u64 bl], .func (Fn.func 55) #[] #[]] w fun e w' => e = .returned (.int .i64 (-1)) ∧ Below w.heap.size w w' := by
  go_enter Try.func54, Try.ntmps54
  go_wp2_with (go_at_call 55; refine (c _).mono ?_; rintro e w1 ⟨rfl, b1⟩; obtain ⟨c0, c1, c2, c3, b2⟩ := bel_cells b1)
  go_ret
  exact ⟨rfl, b2⟩
theorem cmp_else (ah al bh bl : Int) (o : Bool) (w : World)
    (c : ∀ w, Calls Try.prog 55 #[.agg #[.int .u64 ah, .int .u64 al], .agg #[.int .u64 bh, .int .u64 bl]] w fun e w' => e = .returned (.bool false) ∧ Below w.heap.size w w')
    (d : ∀ w, Calls Try.prog 55 #[.agg #[.int .u64 bh, .int .u64 bl], .agg #[.int .u64 ah, .int .u64 al]] w fun e w' => e = .returned (.bool o) ∧ Below w.heap.size w w') :
    Calls Try.prog 54 #[.agg #[.int .u64 ah, .int .u64 al], .agg #[.int .u64 bh, .int .u64 bl], .func (Fn.func 55) #[] #[]] w fun e w' => e = .returned (.int .i64 (if o then 1 else 0)) ∧ Below w.heap.size w w' := by
  go_enter Try.func54, Try.ntmps54
  go_wp2_with fail
  refine (c _).mono ?_
  rintro e w1 ⟨rfl, b1⟩
  obtain ⟨c0, c1, c2, c3, b2⟩ := bel_cells b1
  clear b1
  cases o
  · go_wp2_with (go_at_call 55; refine (d _).mono ?_; rintro e w2 ⟨rfl, b3⟩)
    go_ret
    exact ⟨rfl, bstep b2 b3 b2.size⟩
  · go_wp2_with (go_at_call 55; refine (d _).mono ?_; rintro e w2 ⟨rfl, b3⟩)
    go_ret
    exact ⟨rfl, bstep b2 b3 b2.size⟩
def cmpN (x y : Nat) : Int := if x < y then -1 else if y < x then 1 else 0
theorem cmp_num (x y : Nat) (w : World) :
    Calls Try.prog 54 #[nm x, nm y, .func (Fn.func 55) #[] #[]] w fun e w' => e = .returned (.int .i64 (cmpN x y)) ∧ Below w.heap.size w w' := by
  by_cases h : x < y
  · have c := fun w => nless_any x y w
    rw [decide_eq_true h] at c
    rw [cmpN, if_pos h]
    exact cmp_less _ _ _ _ w c
  · have c := fun w => nless_any x y w
    rw [decide_eq_false h] at c
    have d := fun w => nless_any y x w
    have e := cmp_else _ _ _ _ (decide (y < x)) w c d
    rw [cmpN, if_neg h]
    simp only [decide_eq_true_eq] at e
    exact e
/-! ### Cmp, Ratio -/
/-- What Ratio answers. -/
def ratR (a b c : Int) : Int × Bool := if a < 0 ∨ b < 0 ∨ c < 1 then (0, false) else if a * b / c ≤ 9223372036854775807 then (a * b / c, true) else (0, false)
theorem ratio_none (a b c : Int) (w : World) (h : a < 0 ∨ b < 0 ∨ c < 1) :
    Calls Try.prog 44 #[.int .i64 a, .int .i64 b, .int .i64 c] w fun e w' => e = .returned (.tuple #[.int .i64 0, .bool false]) ∧ w = w' := by
  by_cases h1 : a < 0
  · go_enter Try.func44, Try.ntmps44
    go_wp2_with fail
    go_ret2
    exact ⟨rfl, rfl⟩
  · by_cases h2 : b < 0
    · go_enter Try.func44, Try.ntmps44
      go_wp2_with fail
      go_ret2
      exact ⟨rfl, rfl⟩
    · have h3 : c < 1 := by omega
      clear h
      go_enter Try.func44, Try.ntmps44
      go_wp2_with fail
      go_ret2
      exact ⟨rfl, rfl⟩
theorem ratio_walk (a b c ah al bh bl t z cc v : Int) (o : Bool) (w : World) (h1 : ¬ a < 0) (h2 : ¬ b < 0) (h3 : ¬ c < 1) (hz : (decide (0 < z)) = o) (ec : IntKind.u64.wrap c = cc) (ev : wrap64 bl = v)
    (p : ∀ w, Calls Try.prog 52 #[.int .i64 a, .int .i64 b] w fun e w' => e = .returned (.agg #[.int .u64 ah, .int .u64 al]) ∧ Below w.heap.size w w')
    (q : ∀ w, Calls Try.prog 53 #[.agg #[.int .u64 ah, .int .u64 al], .int .u64 cc] w fun e w' => e = .returned (.tuple #[.agg #[.int .u64 bh, .int .u64 bl], .int .u64 t, .bool true]) ∧ Below w.heap.size w w')
    (k : ∀ w, Calls Try.prog 54 #[.agg #[.int .u64 bh, .int .u64 bl], .agg #[.int .u64 0, .int .u64 9223372036854775807], .func (Fn.func 55) #[] #[]] w fun e w' => e = .returned (.int .i64 z) ∧ Below w.heap.size w w') :
    Calls Try.prog 44 #[.int .i64 a, .int .i64 b, .int .i64 c] w fun e w' => e = .returned (if o then .tuple #[.int .i64 0, .bool false] else .tuple #[.int .i64 v, .bool true]) ∧ Below w.heap.size w w' := by
  go_enter Try.func44, Try.ntmps44
  go_wp2_with fail
  refine (p _).mono ?_
  rintro e w1 ⟨rfl, b1⟩
  go_wp2_with fail
  refine (q _).mono ?_
  rintro e w2 ⟨rfl, b2⟩
  go_wp2_with fail
  refine (k _).mono ?_
  rintro e w3 ⟨rfl, b3⟩
  have d0 : w3.cell? ⟨w2.heap.size, 1, none⟩ = some (.int .u64 bl) := (b3.cell (p := ⟨w2.heap.size, 1, none⟩) (by simp)).trans (by simp)
  have acc : Below w.heap.size w w3 := bstep ((bstep b1 b2 b1.size).alloc (Nat.le_trans b1.size b2.size) _) b3 (by have := b1.size; have := b2.size; simp; omega)
  clear b1 b2 b3 p q k
  cases o
  · have hz' : ¬ 0 < z := by simpa using hz
    clear hz
    go_wp2_with fail
    go_ret2
    exact ⟨rfl, acc⟩
  · have hz' : 0 < z := by simpa using hz
    clear hz
    go_wp2_with fail
    go_ret2
    exact ⟨rfl, acc⟩
theorem w64_nat (n : Nat) (h : n ≤ 9223372036854775807) : wrap64 (n : Int) = n := by unfold wrap64; omega
theorem ratio_any (a b c : Int) (w : World) (ha : a ≤ 9223372036854775807) (hb : b ≤ 9223372036854775807) (hc : c ≤ 9223372036854775807) :
    Calls Try.prog 44 #[.int .i64 a, .int .i64 b, .int .i64 c] w fun e w' => e = .returned (.tuple #[.int .i64 (ratR a b c).1, .bool (ratR a b c).2]) ∧ Below w.heap.size w w' := by
  by_cases h : a < 0 ∨ b < 0 ∨ c < 1
  · rw [ratR, if_pos h]
    exact (ratio_none a b c w h).mono fun e w' ⟨he, hw⟩ => ⟨he, hw ▸ Below.refl _ _⟩
  · have hp : a.toNat * b.toNat < 340282366920938463463374607431768211456 :=
      Nat.lt_of_le_of_lt (Nat.mul_le_mul (show a.toNat ≤ 9223372036854775807 by omega) (show b.toNat ≤ 9223372036854775807 by omega)) (by decide)
    have q := fun w => ndiv_any (a.toNat * b.toNat) c.toNat w hp (by omega)
    unfold divW at q
    rw [if_neg (by omega)] at q
    have k := fun w => cmp_num (a.toNat * b.toNat / c.toNat) 9223372036854775807 w
    have W := ratio_walk a b c _ _ _ _ _ _ c.toNat _ _ w (by omega) (by omega) (by omega) rfl (by rw [IntKind.wrap_u64]; omega) rfl (fun w => prod_any a b w (by omega) (by omega)) q k
    have e : a * b / c = ((a.toNat * b.toNat / c.toNat : Nat) : Int) := by
      rw [Int.natCast_ediv, Int.natCast_mul, Int.toNat_of_nonneg (by omega), Int.toNat_of_nonneg (by omega), Int.toNat_of_nonneg (by omega)]
    rw [ratR, if_neg h, e]
    generalize a.toNat * b.toNat / c.toNat = n at *
    by_cases hn : (n : Int) ≤ 9223372036854775807
    · rw [if_pos hn]
      have z : ¬ 0 < cmpN n 9223372036854775807 := by unfold cmpN; split <;> (try split) <;> omega
      rw [decide_eq_false z, if_neg (by decide), Nat.mod_eq_of_lt (by omega), w64_nat n (by omega)] at W
      exact W
    · rw [if_neg hn]
      have z : 0 < cmpN n 9223372036854775807 := by unfold cmpN; rw [if_neg (by omega), if_pos (by omega)]; decide
      rw [decide_eq_true z, if_pos rfl] at W
      exact W
end Go.Proofs.Ytojphpncidjdiaa
