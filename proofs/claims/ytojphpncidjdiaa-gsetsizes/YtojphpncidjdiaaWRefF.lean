/- The document's answers for layer 2, over the cut: Ratio, Cmp; and the law's 'same'. -/
import Derived.Test.YtojphpncidjdiaaWRefE
import Derived.Test.YtojphpncidjdiaaWLaw1
namespace Go.Proofs.Ytojphpncidjdiaa
open Go.RowKit
set_option linter.unusedVariables false

theorem yif_of {ops : Array Oper} {S : World → Prop} {o : Oper} {a : Act} {v : Value} (hgd : o.guard = none) (h : ∀ w, S w → (execOp a.eval o).run Try.prog w = .ok (.value v) w) : YieldsIf Try.prog ops S o v a :=
  .inl ⟨by unfold Region.wanted; rw [hgd], h⟩
theorem sz_u64 (w : World) : (sizeOf 58).run Try.prog w = .ok 1 w := by kernel_rfl
theorem pt_0 (u v : Value) (w : World) : (part 58 #[u, v] 0).run Try.prog w = .ok u w := by kernel_rfl
theorem pt_1 (u v : Value) (w : World) : (part 58 #[u, v] 1).run Try.prog w = .ok v w := by kernel_rfl
theorem eq_wordsD (d : Nat) (h l : Int) (w : World) : (Op.equalIn (d + 1 + 1) 103 (.agg #[.int .u64 h, .int .u64 l]) (.agg #[.int .u64 h, .int .u64 l])).run Try.prog w = .ok true w := by
  rw [Op.equalIn]
  have e := fun x => run_equalIn_int (P := Try.prog) w d 58 .u64 .u64 x x Try.underlying58
  generalize Op.equalIn (d + 1) = E at e ⊢
  simp only [Sem.run_bind, run_underlying Try.underlying103, Result.andThen_ok, sz_u64]
  simp [Std.Legacy.Range.forIn_eq_forIn_range', List.range', pt_0, pt_1, e]
theorem eq_words (h l : Int) (w : World) : (Op.equalIn 10000 103 (.agg #[.int .u64 h, .int .u64 l]) (.agg #[.int .u64 h, .int .u64 l])).run Try.prog w = .ok true w := eq_wordsD 9998 h l w
/-! ### Ratio -/
/-- The document's pair, by value. -/
def pairV (x : Int × Bool) : Value := .agg #[.int .i64 x.1, .bool x.2]
theorem rrat_none (a b c : Int) (w : World) (h : a < 0 ∨ b < 0 ∨ c < 1) :
    Calls Try.prog 57 #[.int .i64 a, .int .i64 b, .int .i64 c] w fun e w' => e = .returned (.agg #[.int .i64 0, .bool false]) ∧ Below w.heap.size w w' := by
  by_cases h1 : a < 0
  · go_enter Try.func57, Try.ntmps57
    go_wp2_with fail
    exact bodyPost_ret (v := .agg #[.int .i64 0, .bool false]) (by simp [results, Try.results57, go_sem]) rfl ⟨rfl, bel1 _ _⟩
  · by_cases h2 : b < 0
    · go_enter Try.func57, Try.ntmps57
      go_wp2_with fail
      exact bodyPost_ret (v := .agg #[.int .i64 0, .bool false]) (by simp [results, Try.results57, go_sem]) rfl ⟨rfl, bel1 _ _⟩
    · have h3 : c < 1 := by omega
      clear h
      go_enter Try.func57, Try.ntmps57
      go_wp2_with fail
      exact bodyPost_ret (v := .agg #[.int .i64 0, .bool false]) (by simp [results, Try.results57, go_sem]) rfl ⟨rfl, bel1 _ _⟩
set_option maxRecDepth 100000 in
set_option maxHeartbeats 4000000 in
theorem rrat_walk (a b c m n k h l r v : Int) (f g : Nat → Bool) (w : World) (h1 : ¬ a < 0) (h2 : ¬ b < 0) (h3 : ¬ c < 1) (ea : IntKind.u64.wrap a = m) (eb : IntKind.u64.wrap b = n) (ec : IntKind.u64.wrap c = k) (ev : wrap64 l = v)
    (p : ∀ w, Calls Try.prog 80 #[.int .u64 m, .int .u64 n] w fun e w' => e = .returned (.agg (cellsB 128 f)) ∧ Below w.heap.size w w')
    (q : ∀ w, Calls Try.prog 79 #[.agg (cellsB 128 f), .int .u64 k] w fun e w' => e = .returned (.agg (partsC g r true)) ∧ Below w.heap.size w w')
    (s : ∀ w, Calls Try.prog 81 #[.agg (cellsB 128 g)] w fun e w' => e = .returned (.agg #[.int .u64 h, .int .u64 l]) ∧ Below w.heap.size w w')
    (o : Bool) (ho : o = decide (0 < h ∨ 9223372036854775807 < l)) :
    Calls Try.prog 57 #[.int .i64 a, .int .i64 b, .int .i64 c] w fun e w' => e = .returned (if o then .agg #[.int .i64 0, .bool false] else .agg #[.int .i64 v, .bool true]) ∧ Below w.heap.size w w' := by
  have hf := field_parts
  have HO := Lib.hid ho
  clear ho
  go_enter Try.func57, Try.ntmps57
  go_wp2_with fail
  refine (p _).mono ?_
  rintro e w1 ⟨rfl, b1⟩
  go_wp2_with fail
  refine (q _).mono ?_
  rintro e w2 ⟨rfl, b2⟩
  go_wp2_with fail
  refine (s _).mono ?_
  rintro e w3 ⟨rfl, b3⟩
  have K0 := (cel2_new w (.int .i64 0) (.bool false) 86).carry b1 (by simp)
  have z1 := b1.size
  simp only [World.size_alloc] at z1
  have z2 := b2.size
  have z3 := b3.size
  have K1 := (K0.carry b2 (by omega)).carry b3 (by omega)
  have acc : Below w.heap.size w w3 := bstep (bstep ((bel1 w _).trans (b1.mono (by simp))) b2 (by omega)) b3 (by omega)
  obtain ⟨k0, k1, j0, j1⟩ := K1
  have zz : w.heap.size < w3.heap.size := by omega
  clear b1 b2 b3 K0 p q s hf z1 z2 z3
  have fin : ∀ (u v : Value) (ob : Obj), Below w.heap.size w (((w3.setCell ⟨w.heap.size, 0, none⟩ u).setCell ⟨w.heap.size, 1, none⟩ v).alloc ob) := fun u v ob =>
    ((acc.setCell (p := ⟨w.heap.size, 0, none⟩) (Nat.le_refl _) u).setCell (p := ⟨w.heap.size, 1, none⟩) (Nat.le_refl _) v).alloc (by simp [World.setCell]; omega) ob
  by_cases hh : 0 < h
  · have e : o = true := by rw [HO.out]; exact decide_eq_true (.inl hh)
    subst e
    go_wp2_with fail
    exact bodyPost_ret (v := .agg #[.int .i64 0, .bool false]) (by simp [results, Try.results57, go_sem, *]) rfl ⟨rfl, fin _ _ _⟩
  · by_cases hl : 9223372036854775807 < l
    · have e : o = true := by rw [HO.out]; exact decide_eq_true (.inr hl)
      subst e
      go_wp2_with fail
      exact bodyPost_ret (v := .agg #[.int .i64 0, .bool false]) (by simp [results, Try.results57, go_sem, *]) rfl ⟨rfl, fin _ _ _⟩
    · have e : o = false := by rw [HO.out]; exact decide_eq_false (by omega)
      subst e
      go_wp2_with fail
      exact bodyPost_ret (v := .agg #[.int .i64 v, .bool true]) (by simp [results, Try.results57, go_sem, *]) rfl ⟨rfl, fin _ _ _⟩
theorem rrat_any (a b c : Int) (w : World) (ha : a ≤ 9223372036854775807) (hb : b ≤ 9223372036854775807) (hc : c ≤ 9223372036854775807) :
    Calls Try.prog 57 #[.int .i64 a, .int .i64 b, .int .i64 c] w fun e w' => e = .returned (pairV (ratR a b c)) ∧ Below w.heap.size w w' := by
  by_cases h : a < 0 ∨ b < 0 ∨ c < 1
  · rw [ratR, if_pos h]; exact rrat_none a b c w h
  · have wu : ∀ x : Int, 0 ≤ x → x ≤ 9223372036854775807 → IntKind.u64.wrap x = (x.toNat : Int) := fun x h0 h1 => by rw [IntKind.wrap_u64]; omega
    have hp : a.toNat * b.toNat < 340282366920938463463374607431768211456 := mul_lt (by omega) (by omega)
    have q := fun w => rdiv_any (a.toNat * b.toNat) c.toNat w hp (by omega)
    unfold divF at q
    rw [if_neg (by omega)] at q
    have hq : a.toNat * b.toNat / c.toNat < 340282366920938463463374607431768211456 := Nat.lt_of_le_of_lt (Nat.div_le_self _ _) hp
    have W := rrat_walk a b c _ _ _ _ _ _ _ _ _ w (by omega) (by omega) (by omega) (wu a (by omega) ha) (wu b (by omega) hb) (wu c (by omega) hc) rfl (fun w => wrmul_any _ _ w (by omega) (by omega)) q (fun w => words_any _ w hq) _ rfl
    have e : a * b / c = ((a.toNat * b.toNat / c.toNat : Nat) : Int) := by
      rw [Int.natCast_ediv, Int.natCast_mul, Int.toNat_of_nonneg (by omega), Int.toNat_of_nonneg (by omega), Int.toNat_of_nonneg (by omega)]
    rw [ratR, if_neg h, e]
    generalize a.toNat * b.toNat / c.toNat = n at *
    by_cases hn : (n : Int) ≤ 9223372036854775807
    · rw [if_pos hn]
      rw [decide_eq_false (by omega), if_neg (by decide), Nat.mod_eq_of_lt (by omega), w64_nat n (by omega)] at W
      exact W
    · rw [if_neg hn]
      rw [decide_eq_true (by omega), if_pos rfl] at W
      exact W
/-! ### Cmp -/
theorem wrap_max (a : Int) (h : a < 18446744073709551616) : IntKind.u64.wrap (if 0 < a then a else 0) = (a.toNat : Int) := by
  rw [IntKind.wrap_u64]; split <;> omega
end Go.Proofs.Ytojphpncidjdiaa
