/- The document's answers for layer 2, over the cut: Ratio, Cmp; and the law's 'same'. -/
import Derived.Test.YtmggcdhahimpnaaWRefE
import Derived.Test.YtmggcdhahimpnaaWLaw1
namespace Go.Proofs.Ytmggcdhahimpnaa
open Go.RowKit
set_option linter.unusedVariables false

theorem yif_of {ops : Array Oper} {S : World → Prop} {o : Oper} {a : Act} {v : Value} (hgd : o.guard = none) (h : ∀ w, S w → (execOp a.eval o).run Try.prog w = .ok (.value v) w) : YieldsIf Try.prog ops S o v a :=
  .inl ⟨by unfold Region.wanted; rw [hgd], h⟩
theorem sz_u64 (w : World) : (sizeOf 22).run Try.prog w = .ok 1 w := by kernel_rfl
theorem pt_0 (u v : Value) (w : World) : (part 22 #[u, v] 0).run Try.prog w = .ok u w := by kernel_rfl
theorem pt_1 (u v : Value) (w : World) : (part 22 #[u, v] 1).run Try.prog w = .ok v w := by kernel_rfl
theorem eq_wordsD (d : Nat) (h l : Int) (w : World) : (Op.equalIn (d + 1 + 1) 61 (.agg #[.int .u64 h, .int .u64 l]) (.agg #[.int .u64 h, .int .u64 l])).run Try.prog w = .ok true w := by
  rw [Op.equalIn]
  have e := fun x => run_equalIn_int (P := Try.prog) w d 22 .u64 .u64 x x Try.underlying22
  generalize Op.equalIn (d + 1) = E at e ⊢
  simp only [Sem.run_bind, run_underlying Try.underlying61, Result.andThen_ok, sz_u64]
  simp [Std.Legacy.Range.forIn_eq_forIn_range', List.range', pt_0, pt_1, e]
theorem eq_words (h l : Int) (w : World) : (Op.equalIn 10000 61 (.agg #[.int .u64 h, .int .u64 l]) (.agg #[.int .u64 h, .int .u64 l])).run Try.prog w = .ok true w := eq_wordsD 9998 h l w
set_option maxRecDepth 100000 in
set_option maxHeartbeats 4000000 in
theorem same_walk (n : Nat) (h l : Int) (w : World) (c : ∀ w, Calls Try.prog 27 #[numB n] w fun e w' => e = .returned (.agg #[.int .u64 h, .int .u64 l]) ∧ Below w.heap.size w w') :
    Calls Try.prog 12 #[.agg #[.int .u64 h, .int .u64 l], numB n] w fun e w' => e = .returned (.bool true) ∧ Below w.heap.size w w' := by
  have C := Lib.hid c
  clear c
  unfold numB numF at C
  unfold numB numF
  have B1 := BB.new (w.alloc (.cells #[.int .u64 h, .int .u64 l] 24)) 27 128 (fun i => n.testBit i)
  simp only [World.size_alloc] at B1
  go_enter Try.func12, Try.ntmps12
  go_wp2
  refine wp_region_held_drew (S := fun X => BB X (w.heap.size + 1) 27 128 (fun i => n.testBit i) ∧ X.cell? ⟨w.heap.size, 0, none⟩ = some (.int .u64 h) ∧ X.cell? ⟨w.heap.size, 1, none⟩ = some (.int .u64 l)) (by kernel_rfl) ⟨B1, by simp, by simp⟩ (fun hS => ?_)
  refine wpAnyH_take (i := 0) (v := .agg (cellsB 128 fun i => n.testBit i)) rfl (by kernel_rfl) (by kernel_rfl) (by kernel_rfl) (fun _ _ _ h => h) (yif_ld rfl _ rfl (w.heap.size + 1) rfl _ fun X hX => hX.1) hS ?_
  refine wpAnyH_take (i := 2) (v := .pointer (some ⟨w.heap.size, 0, none⟩)) rfl (by kernel_rfl) (by kernel_rfl) (by kernel_rfl) (fun _ _ _ h => h) (yif_of rfl fun X _ => by kernel_rfl) hS ?_
  refine wpAnyH_take (i := 3) (v := .int .u64 h) rfl (by kernel_rfl) (by kernel_rfl) (by kernel_rfl) (fun _ _ _ h => h) (yif_of rfl fun X hX => by have h2 := hX.2.1; clear hX; go_simp) hS ?_
  refine wpAnyH_take (i := 4) (v := .pointer (some ⟨w.heap.size, 1, none⟩)) rfl (by kernel_rfl) (by kernel_rfl) (by kernel_rfl) (fun _ _ _ h => h) (yif_of rfl fun X _ => by kernel_rfl) hS ?_
  refine wpAnyH_take (i := 5) (v := .int .u64 l) rfl (by kernel_rfl) (by kernel_rfl) (by kernel_rfl) (fun _ _ _ h => h) (yif_of rfl fun X hX => by have h2 := hX.2.2; clear hX; go_simp) hS ?_
  refine wpAnyH_take (i := 6) (v := .agg #[.int .u64 h, .int .u64 l]) rfl (by kernel_rfl) (by kernel_rfl) (by kernel_rfl) (fun _ _ _ h => h) (yif_of rfl fun X _ => by kernel_rfl) hS ?_
  simp only [Act.put, List.getElem_toArray, List.getElem_cons_succ, List.getElem_cons_zero, List.setIfInBounds_toArray, List.set_cons_zero, List.set_cons_succ]
  refine wpAnyH_ready (rs := [1]) (by kernel_rfl) (by simp) ?_
  refine AllReadyH.cons rfl (fun K hK => ?_) AllReadyH.nil
  go_simp
  refine (C.out _).mono ?_
  rintro e w2 ⟨rfl, c1⟩
  go_wp2_with fail
  have b2 : Below (w.heap.size + 2) ((w.alloc (.cells #[.int .u64 h, .int .u64 l] 24)).alloc (.cells (cellsB 128 fun i => n.testBit i) 27)) w2 := ((Below.refl _ _).drew.trans c1).mono (by simp)
  have hS2 : BB w2 (w.heap.size + 1) 27 128 (fun i => n.testBit i) ∧ w2.cell? ⟨w.heap.size, 0, none⟩ = some (.int .u64 h) ∧ w2.cell? ⟨w.heap.size, 1, none⟩ = some (.int .u64 l) :=
    ⟨B1.carry b2 (by omega), (b2.cell (p := ⟨w.heap.size, 0, none⟩) (by simp)).trans (by simp), (b2.cell (p := ⟨w.heap.size, 1, none⟩) (by simp)).trans (by simp)⟩
  refine hK.out _ _ hS2 (fun _ => ?_)
  have acc : Below w.heap.size w w2 := (bel2 w _ _).trans (b2.mono (by omega))
  clear hK K hS B1 b2 c1
  refine wpAnyH_take (i := 7) (v := .bool true) rfl (by kernel_rfl) (by kernel_rfl) (by kernel_rfl) (fun _ _ _ h => h) (yif_of rfl fun X hX => by clear hX; have e := eq_words h l X; go_simp) hS2 ?_
  refine wpAnyH_take (i := 8) (v := .bool true) rfl (by kernel_rfl) (by kernel_rfl) (by kernel_rfl) (fun _ _ _ h => h) (yif_of rfl fun X hX => by clear hX; go_simp) hS2 ?_
  simp only [Act.put, List.getElem_toArray, List.getElem_cons_succ, List.getElem_cons_zero, List.setIfInBounds_toArray, List.set_cons_zero, List.set_cons_succ]
  refine wpAnyH_done (by kernel_rfl) ?_ _
  go_wp2_with fail
  go_ret
  exact ⟨rfl, acc⟩
theorem same_yes (n : Nat) (w : World) (hn : n < 340282366920938463463374607431768211456) :
    Calls Try.prog 12 #[nm n, numB n] w fun e w' => e = .returned (.bool true) ∧ Below w.heap.size w w' :=
  same_walk n _ _ w fun w => words_any n w hn
/-! ### Ratio -/
/-- The document's pair, by value. -/
def pairV (x : Int × Bool) : Value := .agg #[.int .i64 x.1, .bool x.2]
theorem rrat_none (a b c : Int) (w : World) (h : a < 0 ∨ b < 0 ∨ c < 1) :
    Calls Try.prog 19 #[.int .i64 a, .int .i64 b, .int .i64 c] w fun e w' => e = .returned (.agg #[.int .i64 0, .bool false]) ∧ Below w.heap.size w w' := by
  by_cases h1 : a < 0
  · go_enter Try.func19, Try.ntmps19
    go_wp2_with fail
    exact bodyPost_ret (v := .agg #[.int .i64 0, .bool false]) (by simp [results, Try.results19, go_sem]) rfl ⟨rfl, bel1 _ _⟩
  · by_cases h2 : b < 0
    · go_enter Try.func19, Try.ntmps19
      go_wp2_with fail
      exact bodyPost_ret (v := .agg #[.int .i64 0, .bool false]) (by simp [results, Try.results19, go_sem]) rfl ⟨rfl, bel1 _ _⟩
    · have h3 : c < 1 := by omega
      clear h
      go_enter Try.func19, Try.ntmps19
      go_wp2_with fail
      exact bodyPost_ret (v := .agg #[.int .i64 0, .bool false]) (by simp [results, Try.results19, go_sem]) rfl ⟨rfl, bel1 _ _⟩
set_option maxRecDepth 100000 in
set_option maxHeartbeats 4000000 in
theorem rrat_walk (a b c m n k h l r v : Int) (f g : Nat → Bool) (w : World) (h1 : ¬ a < 0) (h2 : ¬ b < 0) (h3 : ¬ c < 1) (ea : IntKind.u64.wrap a = m) (eb : IntKind.u64.wrap b = n) (ec : IntKind.u64.wrap c = k) (ev : wrap64 l = v)
    (p : ∀ w, Calls Try.prog 14 #[.int .u64 m, .int .u64 n] w fun e w' => e = .returned (.agg (cellsB 128 f)) ∧ Below w.heap.size w w')
    (q : ∀ w, Calls Try.prog 11 #[.agg (cellsB 128 f), .int .u64 k] w fun e w' => e = .returned (.agg (partsC g r true)) ∧ Below w.heap.size w w')
    (s : ∀ w, Calls Try.prog 27 #[.agg (cellsB 128 g)] w fun e w' => e = .returned (.agg #[.int .u64 h, .int .u64 l]) ∧ Below w.heap.size w w')
    (o : Bool) (ho : o = decide (0 < h ∨ 9223372036854775807 < l)) :
    Calls Try.prog 19 #[.int .i64 a, .int .i64 b, .int .i64 c] w fun e w' => e = .returned (if o then .agg #[.int .i64 0, .bool false] else .agg #[.int .i64 v, .bool true]) ∧ Below w.heap.size w w' := by
  have hf := field_parts
  have HO := Lib.hid ho
  clear ho
  go_enter Try.func19, Try.ntmps19
  go_wp2_with fail
  refine (p _).mono ?_
  rintro e w1 ⟨rfl, b1⟩
  go_wp2_with fail
  refine (q _).mono ?_
  rintro e w2 ⟨rfl, b2⟩
  go_wp2_with fail
  refine (s _).mono ?_
  rintro e w3 ⟨rfl, b3⟩
  have K0 := (cel2_new w (.int .i64 0) (.bool false) 50).carry b1 (by simp)
  have z1 := b1.size
  simp only [World.size_alloc] at z1
  have z2 := b2.size
  have z3 := b3.size
  have K1 := (K0.carry b2 (by omega)).carry b3 (by omega)
  have acc : Below w.heap.size w w3 := bstep (bstep ((bel1 w _).trans (b1.mono (by simp))) b2 (by omega)) b3 (by omega)
  obtain ⟨k0, k1, j0, j1⟩ := K1
  have zz : w.heap.size < w3.heap.size := by omega
  clear b1 b2 b3 K0 p q s hf z1 z2 z3
  have fin : ∀ (u v : Value) (ob : Obj), Below w.heap.size w (((w3.setCell ⟨w.heap.size, 0, none⟩ u).setCell ⟨w.heap.size, 1, none⟩ v).alloc ob) := fun u v ob =>
    ((acc.setCell (p := ⟨w.heap.size, 0, none⟩) (Nat.le_refl _) u).setCell (p := ⟨w.heap.size, 1, none⟩) (Nat.le_refl _) v).alloc (by simp [World.setCell]; omega) ob
  by_cases hh : 0 < h
  · have e : o = true := by rw [HO.out]; exact decide_eq_true (.inl hh)
    subst e
    go_wp2_with fail
    exact bodyPost_ret (v := .agg #[.int .i64 0, .bool false]) (by simp [results, Try.results19, go_sem, *]) rfl ⟨rfl, fin _ _ _⟩
  · by_cases hl : 9223372036854775807 < l
    · have e : o = true := by rw [HO.out]; exact decide_eq_true (.inr hl)
      subst e
      go_wp2_with fail
      exact bodyPost_ret (v := .agg #[.int .i64 0, .bool false]) (by simp [results, Try.results19, go_sem, *]) rfl ⟨rfl, fin _ _ _⟩
    · have e : o = false := by rw [HO.out]; exact decide_eq_false (by omega)
      subst e
      go_wp2_with fail
      exact bodyPost_ret (v := .agg #[.int .i64 v, .bool true]) (by simp [results, Try.results19, go_sem, *]) rfl ⟨rfl, fin _ _ _⟩
theorem rrat_any (a b c : Int) (w : World) (ha : a ≤ 9223372036854775807) (hb : b ≤ 9223372036854775807) (hc : c ≤ 9223372036854775807) :
    Calls Try.prog 19 #[.int .i64 a, .int .i64 b, .int .i64 c] w fun e w' => e = .returned (pairV (ratR a b c)) ∧ Below w.heap.size w w' := by
  by_cases h : a < 0 ∨ b < 0 ∨ c < 1
  · rw [ratR, if_pos h]; exact rrat_none a b c w h
  · have wu : ∀ x : Int, 0 ≤ x → x ≤ 9223372036854775807 → IntKind.u64.wrap x = (x.toNat : Int) := fun x h0 h1 => by rw [IntKind.wrap_u64]; omega
    have hp : a.toNat * b.toNat < 340282366920938463463374607431768211456 := mul_lt (by omega) (by omega)
    have q := fun w => rdiv_any (a.toNat * b.toNat) c.toNat w hp (by omega)
    unfold divF at q
    rw [if_neg (by omega)] at q
    have hq : a.toNat * b.toNat / c.toNat < 340282366920938463463374607431768211456 := Nat.lt_of_le_of_lt (Nat.div_le_self _ _) hp
    have W := rrat_walk a b c _ _ _ _ _ _ _ _ _ w (by omega) (by omega) (by omega) (wu a (by omega) ha) (wu b (by omega) hb) (wu c (by omega) hc) rfl (fun w => rmul_any _ _ w (by omega) (by omega)) q (fun w => words_any _ w hq) _ rfl
    have e : a * b / c = ((a.toNat * b.toNat / c.toNat : Nat) : Int) := by
      rw [Int.natCast_ediv, Int.natCast_mul, Int.toNat_of_nonneg (by omega), Int.toNat_of_nonneg (by omega), Int.toNat_of_nonneg (by omega)]
    rw [ratR, if_neg h, e]
    generalize a.toNat * b.toNat / c.toNat = n at *
    by_cases hn : (n : Int) ≤ 9223372036854775807
    · rw [if_pos hn]
      rw [decide_eq_false (by omega), if_neg (by decide), Nat.mod_eq_of_lt (by omega), w64_nat n (by omega)] at W
      exact W
    · rw [if_neg hn]
      rw [decide_eq_true (by omega), if_pos rfl] at W
      exact W
/-! ### Cmp -/
theorem wrap_max (a : Int) (h : a < 18446744073709551616) : IntKind.u64.wrap (if 0 < a then a else 0) = (a.toNat : Int) := by
  rw [IntKind.wrap_u64]; split <;> omega
set_option maxRecDepth 100000 in
set_option maxHeartbeats 4000000 in
theorem rcmp_walk (a b c d m n m' n' : Int) (f g : Nat → Bool) (o o' : Bool) (w : World)
    (ea : IntKind.u64.wrap (if 0 < a then a else 0) = m) (eb : IntKind.u64.wrap (if 0 < b then b else 0) = n) (ec : IntKind.u64.wrap (if 0 < c then c else 0) = m') (ed : IntKind.u64.wrap (if 0 < d then d else 0) = n')
    (p : ∀ w, Calls Try.prog 14 #[.int .u64 m, .int .u64 n] w fun e w' => e = .returned (.agg (cellsB 128 f)) ∧ Below w.heap.size w w')
    (q : ∀ w, Calls Try.prog 14 #[.int .u64 m', .int .u64 n'] w fun e w' => e = .returned (.agg (cellsB 128 g)) ∧ Below w.heap.size w w')
    (k : ∀ w, Calls Try.prog 16 #[.agg (cellsB 128 f), .agg (cellsB 128 g)] w fun e w' => e = .returned (.bool o) ∧ Below w.heap.size w w')
    (k' : ∀ w, Calls Try.prog 16 #[.agg (cellsB 128 g), .agg (cellsB 128 f)] w fun e w' => e = .returned (.bool o') ∧ Below w.heap.size w w') :
    Calls Try.prog 21 #[.int .i64 a, .int .i64 b, .int .i64 c, .int .i64 d] w fun e w' => e = .returned (.int .i64 (if o then -1 else if o' then 1 else 0)) ∧ Below w.heap.size w w' := by
  have z := zvNum
  have P := Lib.hid p
  have Q := Lib.hid q
  have KK := Lib.hid k
  have KL := Lib.hid k'
  clear p q k k'
  cases o <;> cases o'
  all_goals
    go_enter Try.func21, Try.ntmps21
    go_upto_region 2 with (first
      | (go_at_call 14; (try rw [ea]); (try rw [eb]); (with_reducible refine (P.out _).mono ?_); rintro e w1 ⟨rfl, b1⟩)
      | (go_at_call 14; (try rw [ec]); (try rw [ed]); (with_reducible refine (Q.out _).mono ?_); rintro e w2 ⟨rfl, b2⟩; have X1 := (BB.new w2 27 128 (fun _ => false)).alloc (.cells (cellsB 128 fun _ => false) 27); have X2 := BB.new (w2.alloc (.cells (cellsB 128 fun _ => false) 27)) 27 128 (fun _ => false); simp only [World.size_alloc] at X2; have X3 := X2.rowOther (g' := w2.heap.size) (by omega) (cellsB 128 f))
      | (refine st_num rfl _ _ rfl _ _ _ rfl rfl X1 ?_) | (refine st_num rfl _ _ rfl _ _ _ rfl rfl X3 ?_))
    have Y1 := (X1.row f).rowOther (g' := w2.heap.size + 1) (by omega) (cellsB 128 g)
    have Y2 := X3.row g
    have acc0 : Below w.heap.size w w2 := bstep b1 b2 b1.size
    have acc := Below.setRow (Below.setRow ((acc0.alloc acc0.size (.cells (cellsB 128 fun _ => false) 27)).alloc (by have := acc0.size; simp; omega) (.cells (cellsB 128 fun _ => false) 27)) (g := w2.heap.size) acc0.size (cellsB 128 f)) (g := w2.heap.size + 1) (by have := acc0.size; omega) (cellsB 128 g)
    clear X1 X2 X3 acc0 b1 b2 ea eb ec ed z
    generalize (((w2.alloc (.cells (cellsB 128 fun _ => false) 27)).alloc (.cells (cellsB 128 fun _ => false) 27)).setRow w2.heap.size (cellsB 128 f)).setRow (w2.heap.size + 1) (cellsB 128 g) = w3 at Y1 Y2 acc ⊢
    go_wp2_with (first
      | (refine ld_num rfl _ rfl _ rfl _ Y1 ?_)
      | (refine ld_num rfl _ rfl _ rfl _ Y2 ?_)
      | (refine ld_num rfl _ rfl _ rfl _ Z1 ?_)
      | (refine ld_num rfl _ rfl _ rfl _ Z2 ?_)
      | (go_at_call 16; (with_reducible refine (KK.out _).mono ?_); rintro e w4 ⟨rfl, b4⟩; have acc4 : Below w.heap.size w w4 := bstep acc b4 acc.size; have Z1 := Y1.carry b4 Y1.lt; have Z2 := Y2.carry b4 Y2.lt; clear Y1 Y2 b4 acc)
      | (go_at_call 16; (with_reducible refine (KL.out _).mono ?_); rintro e w5 ⟨rfl, b5⟩; have acc5 : Below w.heap.size w w5 := bstep acc4 b5 acc4.size; clear acc4))
    all_goals (go_ret; first | exact ⟨rfl, acc5⟩ | exact ⟨rfl, acc4⟩)
theorem rcmp_any (a b c d : Int) (w : World) (ha : a ≤ 9223372036854775807) (hb : b ≤ 9223372036854775807) (hc : c ≤ 9223372036854775807) (hd : d ≤ 9223372036854775807) :
    Calls Try.prog 21 #[.int .i64 a, .int .i64 b, .int .i64 c, .int .i64 d] w fun e w' => e = .returned (.int .i64 (cmpN (a.toNat * b.toNat) (c.toNat * d.toNat))) ∧ Below w.heap.size w w' := by
  have p1 : a.toNat * b.toNat < 340282366920938463463374607431768211456 := mul_lt (by omega) (by omega)
  have p2 : c.toNat * d.toNat < 340282366920938463463374607431768211456 := mul_lt (by omega) (by omega)
  have W := rcmp_walk a b c d _ _ _ _ _ _ _ _ w (wrap_max a (by omega)) (wrap_max b (by omega)) (wrap_max c (by omega)) (wrap_max d (by omega)) (fun w => rmul_any _ _ w (by omega) (by omega)) (fun w => rmul_any _ _ w (by omega) (by omega))
    (fun w => rless_any _ _ w p1 p2) (fun w => rless_any _ _ w p2 p1)
  unfold cmpN
  simp only [decide_eq_true_eq] at W
  exact W
end Go.Proofs.Ytmggcdhahimpnaa
