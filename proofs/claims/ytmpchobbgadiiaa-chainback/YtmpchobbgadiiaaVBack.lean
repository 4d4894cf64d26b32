/- ChainBack. -/
import Derived.Test.YtmpchobbgadiiaaVLaw
import Derived.Test.YtmpchobbgadiiaaDetV
namespace Go.Proofs.Ytmpchobbgadiiaa
open Go.RowKit
set_option linter.unusedVariables false
set_option linter.unusedSimpArgs false

theorem back_long (n : Int) (a b : Option Addr) (la ca lb cb : Nat) (w : World) (h : 100 < la ∨ 100 < lb) (hla : la ≤ 9223372036854775807) (hlb : lb ≤ 9223372036854775807) :
    Calls Try.prog 5 #[.int .i64 n, .slice a la ca, .slice b lb cb] w fun e w' => e = .returned (.bool true) ∧ Below w.heap.size w w' := by
  by_cases h1 : 100 < la
  · go_enter Try.func5, Try.ntmps5
    go_wp2_with (go_at_call 6; refine (awake_any _).mono ?_; rintro e w1 ⟨rfl, b1⟩)
    go_ret
    exact ⟨rfl, b1⟩
  · have h2 : 100 < lb := by omega
    go_enter Try.func5, Try.ntmps5
    go_wp2_with (go_at_call 6; refine (awake_any _).mono ?_; rintro e w1 ⟨rfl, b1⟩)
    go_ret
    exact ⟨rfl, b1⟩
theorem got_back (l m : List Int) (n : Int) (h0 : -9223372036854775808 ≤ n) (h1 : n ≤ 9223372036854775807) :
    gotR (l.length : Nat) ((l ++ chainL (foldZ n)) ++ m) = (n, (l.length : Int) + (chainL (foldZ n)).length, 0) := by
  obtain ⟨f0, f1⟩ := fold_range n h0 h1
  rw [got_some l.length ((l ++ chainL (foldZ n)) ++ m) (by simp) (foldZ n) (chainL (foldZ n)).length (by
    rw [List.append_assoc, List.drop_left]
    exact get_chain _ _ f0 f1), unfold_fold]
/-- What is got of any bytes has just these. -/
theorem got_these (m : List Int) (hB : Byt m) : (∃ n k : Int, gotR 0 m = (n, k, 2)) ∨
    ∃ (n : Int) (k : Nat), gotR 0 m = (n, (k : Int), 0) ∧ k ≤ m.length ∧ -9223372036854775808 ≤ n ∧ n ≤ 9223372036854775807 ∧ chainL (foldZ n) = m.take k := by
  have e0 : m.drop 0 = m := rfl
  cases hg : getR m 0 0 with
  | none => exact .inl ⟨_, _, got_none 0 m (by omega) hg⟩
  | some r =>
    obtain ⟨u, k⟩ := r
    obtain ⟨h0, h1, hm, hml, ht⟩ := get_sound hB hg
    have hr := unfold_range u h0 h1
    refine .inr ⟨unfoldZ u, k, ?_, hml, hr.1, hr.2, ?_⟩
    · have := got_some 0 m (by omega) u k hg
      simpa using this
    · rw [fold_unfold u h0, ht]
theorem own_empty (w : World) (B : Nat) (hB : B ≤ w.heap.size) : Own (w.alloc (.cells #[] 5)) B (.slice (some ⟨w.heap.size, 0, none⟩) 0 0) [] :=
  World.ownsRow_lit w #[] 0 hB (by unfold maxLen; omega) rfl
theorem back_short (n : Int) (n0 : -9223372036854775808 ≤ n) (n1 : n ≤ 9223372036854775807) (a b : Option Addr) (ca cb : Nat) (l m : List Int) (w : World) (hl : l.length ≤ 100) (hm : m.length ≤ 100)
    (hBl : Byt l) (hBm : Byt m) (hrl : Row w a ca l) (hrm : Row w b cb m) :
    Calls Try.prog 5 #[.int .i64 n, .slice a l.length ca, .slice b m.length cb] w fun e w' => e = .returned (.bool true) ∧ Below w.heap.size w w' := by
  obtain ⟨f0, f1⟩ := fold_range n n0 n1
  have c7 := fold_any n n0 n1
  have c9 := unfold_any (foldZ n) f0 f1
  rw [unfold_fold] at c9
  have c12 := put_any a ca l n n0 n1 w (by omega) hrl
  have hten := chain_ten _ f0 f1
  have hgb := got_back l m n n0 n1
  have hBX : Byt (l ++ chainL (foldZ n)) := hBl.app (chain_bytes _ f0)
  have hXl : (l ++ chainL (foldZ n)).length ≤ 110 := by simp; omega
  rw [show (l.length : Int) + (chainL (foldZ n)).length = (((l ++ chainL (foldZ n)).length : Nat) : Int) by simp] at hgb
  generalize foldZ n = U at *
  generalize l ++ chainL U = X at *
  have c15 := fun a c (x : World) (h : Row x a c (X ++ m)) => get_any a c (X ++ m) (l.length : Nat) (by simp; omega) (hBX.app hBm) x h
  rw [hgb] at c15
  unfold trip at c15
  obtain ⟨Y, hY⟩ : ∃ Y, Y = X ++ m := ⟨_, rfl⟩
  rw [← hY] at c15
  have HY := Lib.hid hY
  clear hY hgb
  go_enter Try.func5, Try.ntmps5
  go_wp2_with fail
  refine c12.mono ?_
  rintro e w1 ⟨v1, rfl, o1, b1⟩
  obtain ⟨a1, k1, rfl, r1⟩ := own_row o1
  have r1' := r1.carry (bel1 w1 (.cells #[] 5))
  have b1' := b1.alloc b1.size (.cells #[] 5)
  have e1 := own_empty w1 w.heap.size b1.size
  have s1 := b1.size
  clear c12 o1 r1 b1
  go_wp2_with (first
    | (at_builtin; refine wpList_app rfl (.tmp 29) (.tmp 30) rfl rfl e1 rfl r1' (by simp; omega) b1' b1'.size ?_; intro v2 w2 o2 b2; have r2 := hrm.carry b2)
    | (at_builtin; refine wpList_app rfl (.tmp 31) (.tmp 32) rfl rfl o2 rfl r2 (by simp; omega) b2 b2.size ?_; intro v3 w3 o3 b3; rw [List.nil_append, ← HY.out] at o3; obtain ⟨a3, k3, rfl, r3⟩ := own_row o3)
    | (go_at_call 15; with_reducible refine (c15 _ _ _ r3).mono ?_; rintro e w' ⟨rfl, rfl⟩)
    | (go_at_call 7; with_reducible refine (c7 _).mono ?_; rintro e w' ⟨rfl, rfl⟩)
    | (go_at_call 9; with_reducible refine (c9 _).mono ?_; rintro e w' ⟨rfl, rfl⟩)
    | fail)
  have hrm3 := hrm.carry b3
  clear c15 c7 c9 r3 r2 r1' b1' e1 o2 o3 b2 hrl hrm hBX HY
  have c0 := get_any b cb m 0 (by omega) hBm w3 hrm3
  rcases got_these m hBm with ⟨q, k, hq⟩ | ⟨q, k, hq, hk, q0, q1, hc⟩
  · rw [hq] at c0
    unfold trip at c0
    clear hq hBm hrm3
    refine c0.mono ?_
    rintro e w' ⟨rfl, rfl⟩
    go_wp2_with fail
    have CE := Lib.hid (show ∀ x, Old w3 x → True from fun _ _ => trivial)
    (refine wp_region_text (Old w3) 19 (by kernel_rfl) (by kernel_rfl) (Below.refl _ w3).drew ?_; simp only [List.take_succ_cons, List.take_zero, List.drop_succ_cons, List.drop_zero])
    repeat (first | (apply Text.sees (hw := by kernel_rfl); (focus (intro x hx K hK; have hc := CE.out x hx; go_simp; exact hK)); simp only [Act.put, List.getElem_toArray, List.getElem_cons_succ, List.getElem_cons_zero, List.setIfInBounds_toArray, List.set_cons_zero, List.set_cons_succ]) | (apply Text.idle; (focus (intro x hx K hK; go_simp; exact hK)); simp only [Act.put, List.getElem_toArray, List.getElem_cons_succ, List.getElem_cons_zero, List.setIfInBounds_toArray, List.set_cons_zero, List.set_cons_succ]))
    (refine Text.call (Old.call fun x _ => awake_any x) (by kernel_rfl) (fun _ => by kernel_rfl) ?_; simp only [Act.put, List.getElem_toArray, List.getElem_cons_succ, List.getElem_cons_zero, List.setIfInBounds_toArray, List.set_cons_zero, List.set_cons_succ])
    repeat (first | (apply Text.sees (hw := by kernel_rfl); (focus (intro x hx K hK; have hc := CE.out x hx; go_simp; exact hK)); simp only [Act.put, List.getElem_toArray, List.getElem_cons_succ, List.getElem_cons_zero, List.setIfInBounds_toArray, List.set_cons_zero, List.set_cons_succ]) | (apply Text.idle; (focus (intro x hx K hK; go_simp; exact hK)); simp only [Act.put, List.getElem_toArray, List.getElem_cons_succ, List.getElem_cons_zero, List.setIfInBounds_toArray, List.set_cons_zero, List.set_cons_succ]))
    intro x hx
    have hx' := b3.trans (hx.mono b3.size)
    go_wp2
    go_ret
    exact ⟨rfl, hx'⟩
  · rw [hq] at c0
    unfold trip at c0
    clear hq hBm
    refine c0.mono ?_
    rintro e w' ⟨rfl, rfl⟩
    have cp := fun w => put_any none 0 [] q q0 q1 w (by decide) (Row.none w 0)
    simp only [List.nil_append, List.length_nil] at cp
    rw [hc] at cp
    obtain ⟨a4, k4, hcut, r4⟩ := cut_to b cb m.length m k hk w3 hrm3
    obtain ⟨Z, hZ⟩ : ∃ Z, Z = m.take k := ⟨_, rfl⟩
    have hZl : Z.length = k := by rw [hZ]; simp; omega
    rw [← hZ] at cp r4
    rw [← hZl] at hcut
    have cs := fun a c (x : World) (h : Row x a c Z) (h' : Row x a4 k4 Z) => same_any a a4 c k4 Z Z x (by omega) (by omega) h h'
    simp only [decide_true] at cs
    clear hc hZ hrm3
    obtain rfl : k = Z.length := hZl.symm
    clear hZl
    have hd : decide ((Z.length : Int) ≤ (m.length : Int)) = true := by simp; exact hk
    go_wp2_with fail
    have CE := Lib.hid (show ∀ x, Old w3 x → ∀ y, Sem.run Try.prog (Instr.slice 23 (.slice b m.length cb) none (some (.int .i64 (Z.length : Int))) none) y = .ok (.slice a4 Z.length k4) y from fun _ _ => hcut)
    clear hcut
    (refine wp_region_plan 19 [(0, true), (1, true), (2, true), (3, true), (4, true), (5, true), (6, true), (7, true), (8, true), (10, true), (11, true), (12, true), (9, false), (13, true), (14, true), (15, true), (16, true), (17, true), (18, true)] (by kernel_rfl) (by kernel_rfl) ?_; simp only [pick, List.getElem?_cons_succ, List.getElem?_cons_zero, List.drop_succ_cons, List.drop_zero])
    repeat (first | (apply TextV.sees (hw := by kernel_rfl); (focus (intro x hx K hK; have hc := CE.out x hx; go_simp; exact hK)); simp only [Act.put, List.getElem_toArray, List.getElem_cons_succ, List.getElem_cons_zero, List.setIfInBounds_toArray, List.set_cons_zero, List.set_cons_succ]) | (apply TextV.idle; (focus (intro x hx K hK; go_simp; exact hK)); simp only [Act.put, List.getElem_toArray, List.getElem_cons_succ, List.getElem_cons_zero, List.setIfInBounds_toArray, List.set_cons_zero, List.set_cons_succ]))
    (refine TextV.loud (V := fun v y => ∃ a c, v = .slice a Z.length c ∧ Row y a c Z) (fun x hx => (cp x).mono fun e y ⟨v, he, ho, hb⟩ => ⟨v, he, own_row ho, hb⟩) (by kernel_rfl) (fun _ => by kernel_rfl) (fun v y hv hy => ?_); simp only [Act.put, List.getElem_toArray, List.getElem_cons_succ, List.getElem_cons_zero, List.setIfInBounds_toArray, List.set_cons_zero, List.set_cons_succ])
    obtain ⟨a5, k5, rfl, r5⟩ := hv
    have CF := Lib.hid (show ∀ x, Old y x → True from fun _ _ => trivial)
    (refine TextV.call (fun x hx => cs a5 k5 x (r5.carry hx) (r4.carry (hy.old hx))) (by kernel_rfl) (fun _ => by kernel_rfl) ?_; simp only [Act.put, List.getElem_toArray, List.getElem_cons_succ, List.getElem_cons_zero, List.setIfInBounds_toArray, List.set_cons_zero, List.set_cons_succ])
    repeat (first | (apply TextV.sees (hw := by kernel_rfl); (focus (intro x hx K hK; have hc := CF.out x hx; go_simp; exact hK)); simp only [Act.put, List.getElem_toArray, List.getElem_cons_succ, List.getElem_cons_zero, List.setIfInBounds_toArray, List.set_cons_zero, List.set_cons_succ]) | (apply TextV.idle; (focus (intro x hx K hK; go_simp; exact hK)); simp only [Act.put, List.getElem_toArray, List.getElem_cons_succ, List.getElem_cons_zero, List.setIfInBounds_toArray, List.set_cons_zero, List.set_cons_succ]))
    (refine TextV.call (fun x _ => awake_any x) (by kernel_rfl) (fun _ => by kernel_rfl) ?_; simp only [Act.put, List.getElem_toArray, List.getElem_cons_succ, List.getElem_cons_zero, List.setIfInBounds_toArray, List.set_cons_zero, List.set_cons_succ])
    repeat (first | (apply TextV.sees (hw := by kernel_rfl); (focus (intro x hx K hK; have hc := CF.out x hx; go_simp; exact hK)); simp only [Act.put, List.getElem_toArray, List.getElem_cons_succ, List.getElem_cons_zero, List.setIfInBounds_toArray, List.set_cons_zero, List.set_cons_succ]) | (apply TextV.idle; (focus (intro x hx K hK; go_simp; exact hK)); simp only [Act.put, List.getElem_toArray, List.getElem_cons_succ, List.getElem_cons_zero, List.setIfInBounds_toArray, List.set_cons_zero, List.set_cons_succ]))
    intro x hx
    have hx' := b3.trans ((hy.old hx).mono b3.size)
    go_wp2
    go_ret
    exact ⟨rfl, hx'⟩
theorem chainBack_walk (n : Int) (hn : (Lit.int .i64 n).wf = true) (a : Option Addr) (la ca : Nat) (za : List Int) (b : Option Addr) (lb cb : Nat) (zb : List Int) (w : World) (ha : IsRow .u8 w a la ca za) (hb : IsRow .u8 w b lb cb zb) :
    Calls Try.prog 5 #[.int .i64 n, .slice a la ca, .slice b lb cb] w fun e w' => e = .returned (.bool true) ∧ Below w.heap.size w w' := by
  by_cases h : 100 < la ∨ 100 < lb
  · exact back_long n a b la ca lb cb w h ha.le hb.le
  · obtain ⟨l, rfl, hr, hB⟩ := ha.row
    obtain ⟨m, rfl, hr', hB'⟩ := hb.row
    obtain ⟨n0, n1⟩ := i64_in hn
    exact back_short n n0 n1 a b ca cb l m w (by omega) (by omega) hB hB' hr hr'
end Go.Proofs.Ytmpchobbgadiiaa
