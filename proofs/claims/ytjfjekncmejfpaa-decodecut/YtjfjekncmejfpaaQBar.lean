/- Which fields an item has, what they hold, and whether an item is bare: package encode. Whether an item is bare, and whether all are: package encode. -/
import Derived.Test.YtjfjekncmejfpaaQEnc
import Derived.Test.YtjfjekncmejfpaaJSm
namespace Go.Proofs.Ytjfjekncmejfpaa
open Go.RowKit
set_option maxRecDepth 20000
set_option linter.unusedVariables false
set_option linter.unusedSimpArgs false

/-- Has an item of the kind k its field i? -/
def ownQ (k : Int) : Nat → Bool
  | 0 => decide (k = 1) || decide (k = 2)
  | 1 => decide (k = 1)
  | 2 => decide (k = 2)
  | 3 => decide (k = 2)
  | 4 => decide (k = 2)
  | 5 => decide (3 ≤ k) && decide (k ≤ 6)
  | _ => false
def ownA (k : Int) : Array Value := #[.bool (ownQ k 0), .bool (ownQ k 1), .bool (ownQ k 2), .bool (ownQ k 3), .bool (ownQ k 4), .bool (ownQ k 5)]
def valQ (x : I7) : Nat → Int
  | 0 => x.h
  | 1 => x.f
  | 2 => x.s
  | 3 => x.o
  | 4 => x.r
  | 5 => x.n
  | _ => 0
def valA (x : I7) : Array Value := #[.int .i64 x.h, .int .i64 x.f, .int .i64 x.s, .int .i64 x.o, .int .i64 x.r, .int .i64 x.n]
theorem owned_any (k : Int) (w : World) :
    Calls Try.prog 53 #[.int .i64 k] w fun e w' => e = .returned (.agg (ownA k)) ∧ Below w.heap.size w w' := by
  by_cases h : k = 1 ∨ k = 2 ∨ k = 3 ∨ k = 4 ∨ k = 5 ∨ k = 6
  · rcases h with rfl | rfl | rfl | rfl | rfl | rfl
    · rw [show ownA 1 = #[.bool true, .bool true, .bool false, .bool false, .bool false, .bool false] from rfl]
      go_enter Try.func53, Try.ntmps53
      go_wp2
      exact bodyPost_ret (v := .agg #[.bool true, .bool true, .bool false, .bool false, .bool false, .bool false]) (by simp [results, Try.results53, go_sem]) rfl ⟨rfl, tbel1 w _⟩
    · rw [show ownA 2 = #[.bool true, .bool false, .bool true, .bool true, .bool true, .bool false] from rfl]
      go_enter Try.func53, Try.ntmps53
      go_wp2
      exact bodyPost_ret (v := .agg #[.bool true, .bool false, .bool true, .bool true, .bool true, .bool false]) (by simp [results, Try.results53, go_sem]) rfl ⟨rfl, tbel1 w _⟩
    all_goals
      show Calls _ _ _ _ fun e w' => e = .returned (.agg #[.bool false, .bool false, .bool false, .bool false, .bool false, .bool true]) ∧ _
      go_enter Try.func53, Try.ntmps53
      go_wp2
      exact bodyPost_ret (v := .agg #[.bool false, .bool false, .bool false, .bool false, .bool false, .bool true]) (by simp [results, Try.results53, go_sem]) rfl ⟨rfl, tbel1 w _⟩
  · have e : ownA k = #[.bool false, .bool false, .bool false, .bool false, .bool false, .bool false] := by
      have h1 : ¬ k = 1 := by omega
      have h2 : ¬ k = 2 := by omega
      have h3 : (decide (3 ≤ k) && decide (k ≤ 6)) = false := by simp; omega
      simp [ownA, ownQ, h1, h2, h3]
    rw [e]
    obtain ⟨h1, h2, h3, h4, h5, h6⟩ : ¬ k = 1 ∧ ¬ k = 2 ∧ ¬ k = 3 ∧ ¬ k = 4 ∧ ¬ k = 5 ∧ ¬ k = 6 := by omega
    clear h e
    go_enter Try.func53, Try.ntmps53
    go_wp2
    exact bodyPost_ret (v := .agg #[.bool false, .bool false, .bool false, .bool false, .bool false, .bool false]) (by simp [results, Try.results53, go_sem]) rfl ⟨rfl, tbel1 w _⟩
theorem values_any (x : I7) (w : World) :
    Calls Try.prog 54 #[itm x] w fun e w' => e = .returned (.agg (valA x)) ∧ Below w.heap.size w w' := by
  unfold itm valA
  obtain ⟨k, h, f, s, o, r, n⟩ := x
  dsimp only
  go_enter Try.func54, Try.ntmps54
  go_wp2
  exact bodyPost_ret (v := .agg #[.int .i64 h, .int .i64 f, .int .i64 s, .int .i64 o, .int .i64 r, .int .i64 n]) (by simp [results, Try.results54, go_sem]) rfl ⟨rfl, tbel2 w _ _⟩
end Go.Proofs.Ytjfjekncmejfpaa
namespace Go.Proofs.Ytjfjekncmejfpaa
open Go.RowKit
set_option maxRecDepth 20000
set_option linter.unusedVariables false
set_option linter.unusedSimpArgs false

theorem six_cases {j : Nat} (hj : j < 6) : j = 0 ∨ j = 1 ∨ j = 2 ∨ j = 3 ∨ j = 4 ∨ j = 5 := by omega
theorem at6 (x : I7) (j : Nat) (hj : j < 6) (w : World) : Sem.run Try.prog (Instr.index 119 (.agg (valA x)) (.int .i64 j)) w = .ok (.int .i64 (valQ x j)) w := by
  unfold valA
  obtain ⟨k, h, f, s, o, r, n⟩ := x
  dsimp only
  rcases six_cases hj with rfl | rfl | rfl | rfl | rfl | rfl
  all_goals
    clear hj
    show _ = _
    kernel_rfl
theorem ownA_at (k : Int) (j : Nat) (hj : j < 6) : (ownA k)[j]? = some (.bool (ownQ k j)) := by
  rcases six_cases hj with rfl | rfl | rfl | rfl | rfl | rfl <;> rfl
theorem bare_iff (x : I7) : bareI x ↔ (1 ≤ x.k ∧ x.k ≤ 7) ∧ ∀ i, i < 6 → valQ x i = 0 ∨ ownQ x.k i = true := by
  obtain ⟨k, h, f, s, o, r, n⟩ := x
  unfold bareI
  constructor
  · rintro ⟨h1, h2, h3⟩
    refine ⟨⟨h1, h2⟩, fun i hi => ?_⟩
    dsimp only at *
    by_cases e1 : k = 1
    · subst e1
      rw [if_pos rfl] at h3
      rcases six_cases hi with rfl | rfl | rfl | rfl | rfl | rfl <;> simp [valQ, ownQ, h3]
    · rw [if_neg e1] at h3
      by_cases e2 : k = 2
      · subst e2
        rw [if_pos rfl] at h3
        rcases six_cases hi with rfl | rfl | rfl | rfl | rfl | rfl <;> simp [valQ, ownQ, h3]
      · rw [if_neg e2] at h3
        obtain ⟨g1, g2, g3, g4, g5, g6⟩ := h3
        rcases six_cases hi with rfl | rfl | rfl | rfl | rfl | rfl
        · exact .inl g1
        · exact .inl g2
        · exact .inl g3
        · exact .inl g4
        · exact .inl g5
        · by_cases e7 : k = 7
          · exact .inl (g6 e7)
          · right
            simp [ownQ]
            omega
  · rintro ⟨⟨h1, h2⟩, h3⟩
    dsimp only at *
    refine ⟨h1, h2, ?_⟩
    have v0 := h3 0 (by omega)
    have v1 := h3 1 (by omega)
    have v2 := h3 2 (by omega)
    have v3 := h3 3 (by omega)
    have v4 := h3 4 (by omega)
    have v5 := h3 5 (by omega)
    simp only [valQ, ownQ, Bool.or_eq_true, Bool.and_eq_true, decide_eq_true_eq] at v0 v1 v2 v3 v4 v5
    split
    · omega
    · split
      · omega
      · omega
theorem info6b : (Try.prog.info? 117).map (·.size) = some 6 := by kernel_rfl
theorem Bare_any (x : I7) (w : World) :
    Calls Try.prog 50 #[itm x] w fun e w' => e = .returned (.bool (isB (bareI x))) ∧ Below w.heap.size w w' := by
  rw [isB_congr (bare_iff x)]
  obtain ⟨R, hR⟩ : ∃ R, R = isB ((1 ≤ x.k ∧ x.k ≤ 7) ∧ ∀ i, i < 6 → valQ x i = 0 ∨ ownQ x.k i = true) := ⟨_, rfl⟩
  rw [← hR]
  have HR := Lib.hid hR
  clear hR
  by_cases hk : 1 ≤ x.k ∧ x.k ≤ 7
  · have c1 := fun w => owned_any x.k w
    have c2 := fun w => values_any x w
    have HI := Lib.hid (at6 x)
    have HC := Lib.hid (ownA_at x.k)
    generalize valA x = V at *
    generalize valQ x = q at *
    have hO : ownA x.k = #[.bool (ownQ x.k 0), .bool (ownQ x.k 1), .bool (ownQ x.k 2), .bool (ownQ x.k 3), .bool (ownQ x.k 4), .bool (ownQ x.k 5)] := rfl
    generalize ownQ x.k = p at *
    obtain ⟨k, h, f, s, o, r, n⟩ := x
    unfold itm at *
    dsimp only at *
    obtain ⟨k1, k2⟩ := hk
    have HK := Lib.hid (And.intro k1 k2)
    rw [hO] at c1 HC
    clear hO
    go_enter Try.func50, Try.ntmps50
    go_wp2_with fail
    refine (c1 _).mono ?_
    rintro e w1 ⟨rfl, b1⟩
    have E1 := (blk_new w #[.int .i64 k, .int .i64 h, .int .i64 f, .int .i64 s, .int .i64 o, .int .i64 r, .int .i64 n] 49).old b1
    have b1' := tstep (tbel1 w _) b1 (by simp)
    have bx := tbel1 w1 (.cells #[.bool (p 0), .bool (p 1), .bool (p 2), .bool (p 3), .bool (p 4), .bool (p 5)] 117)
    have B2 := blk_new w1 #[.bool (p 0), .bool (p 1), .bool (p 2), .bool (p 3), .bool (p 4), .bool (p 5)] 117
    obtain ⟨r0, r1, r2, r3, r4, r5, r6⟩ := (E1.old bx).seven
    clear E1 c1 b1
    have b2 := tstep b1' bx b1'.size
    clear b1' bx
    go_wp2_with fail
    refine (c2 _).mono ?_
    rintro e w2 ⟨rfl, b3⟩
    have b4 := tstep b2 b3 b2.size
    have B4 := B2.old b3
    clear r0 r1 r2 r3 r4 r5 r6 c2 b2 b3 B2
    go_wp2_with fail
    go_loopw [19] (fun i wr => ∃ j : Nat, j ≤ 6 ∧ i = .int .i64 j ∧ Below w2.heap.size w2 wr ∧ Hid (∀ m, m < j → q m = 0 ∨ p m = true)) (fun i _ => 6 - (intOf i).toNat)
    case atStart => exact ⟨0, by omega, rfl, Below.refl _ _, Lib.hid fun m hm => by omega⟩
    case round =>
      obtain ⟨j, hj, rfl, hbl, HP⟩ := hrel
      by_cases hlt : j < 6
      · have hix := HI.out j hlt
        have hcl : wr.cell? ⟨w1.heap.size, j, none⟩ = some (.bool (p j)) := ((B4.old hbl).cell j).trans (HC.out j hlt)
        have HS : Hid (q j = 0 ∨ p j = true → ∀ m, m < j + 1 → q m = 0 ∨ p m = true) := Lib.hid fun h m hm => by
          rcases Nat.lt_or_ge m j with h' | h'
          · exact HP.out m h'
          · obtain rfl : m = j := by omega
            exact h
        have HN : Hid (¬ (q j = 0 ∨ p j = true) → R = false) := Lib.hid fun h => by rw [HR.out]; exact isB_no fun g => h (g.2 j hlt)
        clear HP
        generalize q j = v at *
        generalize p j = c at *
        by_cases hv : v = 0
        · replace HS := Lib.hid (HS.out (.inl hv))
          clear HN
          go_wp2
          go_roundw
          case rel => exact ⟨j + 1, by omega, by go_num, hbl, HS⟩
          case measure => simp [intOf]; omega
        · cases c
          · have HE := Lib.hid (HN.out (by simp [hv]))
            clear HN HS HR
            go_wp2
            go_ret
            exact ⟨by rw [HE.out]; rfl, tstep b4 hbl b4.size⟩
          · replace HS := Lib.hid (HS.out (.inr rfl))
            clear HN
            go_wp2
            go_roundw
            case rel => exact ⟨j + 1, by omega, by go_num, hbl, HS⟩
            case measure => simp [intOf]; omega
      · have HE : Hid (R = true) := Lib.hid (by
          rw [HR.out]
          exact isB_yes ⟨HK.out, fun i hi => HP.out i (by omega)⟩)
        clear HR
        go_wp2
        go_ret
        exact ⟨by rw [HE.out]; rfl, tstep b4 hbl b4.size⟩
  · have e : R = false := by rw [HR.out]; exact isB_no fun h => hk h.1
    rw [e]
    clear HR e
    obtain ⟨k, h, f, s, o, r, n⟩ := x
    unfold itm
    dsimp only at *
    have hk' : k < 1 ∨ 7 < k := by omega
    clear hk
    rcases hk' with hk | hk
    all_goals
      go_enter Try.func50, Try.ntmps50
      go_wp2
      go_ret
      exact ⟨rfl, tbel1 w _⟩
/-- Are all bare? -/
theorem bare_any (a : Option Addr) (cap : Nat) (l : List I7) (w : World) (hl : l.length ≤ 1000000) (ha : Els 7 encI w a l.length fun k => l.getD k zeroI) :
    Calls Try.prog 26 #[.slice a l.length cap] w fun e w' => e = .returned (.bool (isB (∀ x ∈ l, bareI x))) ∧ Below w.heap.size w w' := by
  obtain ⟨R, hR⟩ : ∃ R, R = isB (∀ x ∈ l, bareI x) := ⟨_, rfl⟩
  rw [← hR]
  have HR := Lib.hid hR
  have HA := Lib.hid ha
  clear hR ha
  go_enter Try.func26, Try.ntmps26
  go_wp2_with fail
  go_loopw [7] (fun i wr => ∃ k : Nat, k ≤ l.length ∧ i = .int .i64 k ∧ Below w.heap.size w wr ∧ Hid (∀ j, j < k → bareI (l.getD j zeroI))) (fun i _ => l.length - (intOf i).toNat)
  case atStart => exact ⟨0, Nat.zero_le _, rfl, Below.refl _ _, Lib.hid fun j hj => by omega⟩
  case round =>
    obtain ⟨k, hk, rfl, hbl, HP⟩ := hrel
    by_cases hlt : k < l.length
    · obtain ⟨b1, o1, rfl, hB1, p0, p1, p2, p3, p4, p5, p6⟩ := els7 (HA.out.carry hbl) hlt
      have HS : Hid (bareI (l.getD k zeroI) → ∀ j, j < k + 1 → bareI (l.getD j zeroI)) := Lib.hid fun h j hj => by
        rcases Nat.lt_or_ge j k with h' | h'
        · exact HP.out j h'
        · obtain rfl : j = k := by omega
          exact h
      have HN : Hid (¬ bareI (l.getD k zeroI) → R = false) := Lib.hid fun h => by rw [HR.out]; exact isB_no fun g => h (g _ (mem_getD hlt))
      clear HP
      have c := fun w => Bare_any (l.getD k zeroI) w
      generalize l.getD k zeroI = x at *
      obtain ⟨q, hq⟩ : ∃ q, q = isB (bareI x) := ⟨_, rfl⟩
      rw [← hq] at c
      have HQ := Lib.hid hq
      clear hq
      unfold itm at c
      have bx := tbel1 wr (.cells #[.int .i64 x.k, .int .i64 x.h, .int .i64 x.f, .int .i64 x.s, .int .i64 x.o, .int .i64 x.r, .int .i64 x.n] 49)
      have bw := tstep hbl bx hbl.size
      cases q
      · have HE := Lib.hid (HN.out fun h => by have := HQ.out; rw [isB_yes h] at this; cases this)
        clear HN HS HR
        go_wp2_with (with_reducible refine (c _).mono ?_; rintro e w1 ⟨rfl, b1⟩)
        go_ret
        exact ⟨by rw [HE.out]; rfl, tstep bw b1 bw.size⟩
      · replace HS := Lib.hid (HS.out (isB_iff.1 HQ.out.symm))
        clear HN
        go_wp2_with (with_reducible refine (c _).mono ?_; rintro e w1 ⟨rfl, b1⟩)
        go_roundw
        case rel => exact ⟨k + 1, by omega, by go_num, tstep bw b1 bw.size, HS⟩
        case measure => simp [intOf]; omega
    · have HE : Hid (R = true) := Lib.hid (by
        rw [HR.out]
        refine isB_yes fun x hx => ?_
        obtain ⟨i, hi, rfl⟩ := List.getElem_of_mem hx
        have := HP.out i (by omega)
        rwa [List.getD_eq_getElem?_getD, List.getElem?_eq_getElem hi] at this)
      clear HR HP
      go_wp2
      go_ret
      exact ⟨by rw [HE.out]; rfl, hbl⟩
end Go.Proofs.Ytjfjekncmejfpaa
