/- Breaks and Between of package vlist. -/
import Derived.Test.YtnajjgohodnfhaaAFnd
import Derived.Test.YtnajjgohodnfhaaNSm
namespace Go.Proofs.Ytnajjgohodnfhaa
open Go.RowKit
set_option maxRecDepth 20000
set_option linter.unusedVariables false
set_option linter.unusedSimpArgs false

/-- What is left to come. -/
def brkM (z : Int) : Nat := if z < 0 then 0 else 1000002 - z.toNat
theorem brk_yes {l : List I7} {n : Int} {k : Nat} (h1 : n.toNat < k) (h2 : mayV l k = true) (h3 : (k : Int) ≤ forceV l n) : isBrk l n k = true := by
  unfold isBrk
  rw [decide_eq_true h1, h2, decide_eq_true h3]
  rfl
theorem brk_may {l : List I7} {n : Int} {k : Nat} (h : mayV l k = false) : isBrk l n k = false := by
  unfold isBrk
  rw [h]
  simp
theorem brk_low {l : List I7} {n : Int} {k : Nat} (h : k ≤ n.toNat) : isBrk l n k = false := by
  unfold isBrk
  rw [decide_eq_false (by omega)]
  rfl
theorem brk_high {l : List I7} {n : Int} {k : Nat} (h : forceV l n < k) : isBrk l n k = false := by
  unfold isBrk
  rw [decide_eq_false (p := (k : Int) ≤ _) (by omega)]
  simp
theorem selQ_skip' {p : Nat → Bool} {k m : Nat} (hm : k ≤ m) (h : ∀ j, k ≤ j → j < m → p j = false) : selQ p m = selQ p k := by
  rw [show m = k + (m - k) by omega]
  exact selQ_skip _ fun j h1 h2 => h j h1 (by omega)
theorem selQ_none {p : Nat → Bool} {m : Nat} (h : ∀ j, j < m → p j = false) : selQ p m = [] := (selQ_skip' (Nat.zero_le m) fun j _ hj => h j hj).trans rfl
/-- Where the search for the next break stands: at k, or at the end. -/
def Stand (l : List I7) (n z : Int) (k : Nat) : Prop := (z = -1 ∧ k = l.length + 1) ∨ (z = k ∧ k ≤ l.length ∧ n.toNat < k ∧ mayV l k = true)
theorem stand_of {l : List I7} {n b : Int} (hb : n.toNat ≤ b.toNat) : ∃ k : Nat, Stand l n (firstV l b) k ∧ b.toNat < k ∧ (∀ j : Nat, b.toNat < j → j < k → isBrk l n j = false) ∨ (firstV l b = -1 ∧ k = l.length + 1 ∧ Stand l n (firstV l b) k ∧ ∀ j : Nat, b.toNat < j → j < k → isBrk l n j = false) := by
  rcases afterV_any (l := l) (mayV l) b with ⟨h1, h2⟩ | ⟨m, h1, h2, h3, h4, h5⟩
  · exact ⟨l.length + 1, .inr ⟨h1, rfl, .inl ⟨h1, rfl⟩, fun j h3 h4 => brk_may (h2 j h3 (by omega))⟩⟩
  · exact ⟨m, .inl ⟨.inr ⟨h1, h3, by omega, h4⟩, h2, fun j h6 h7 => brk_may (h5 j h6 h7)⟩⟩
/-- The first break: nothing is ahead of it. -/
theorem sel_start (l : List I7) (n : Int) : ∃ k : Nat, Stand l n (firstV l n) k ∧ selQ (isBrk l n) k = [] := by
  obtain ⟨k, ⟨h1, _, h3⟩ | ⟨_, _, h1, h3⟩⟩ := stand_of (l := l) (Nat.le_refl n.toNat)
  all_goals
    exact ⟨k, h1, selQ_none fun j hj => by
      rcases Nat.lt_or_ge n.toNat j with h | h
      · exact h3 j h hj
      · exact brk_low h⟩
theorem sel_step {l : List I7} {n : Int} {k : Nat} (hk : k ≤ l.length) (h1 : n.toNat < k) (h2 : mayV l k = true) (h3 : (k : Int) ≤ forceV l n) : ∃ m : Nat, Stand l n (firstV l k) m ∧ selQ (isBrk l n) m = selQ (isBrk l n) k ++ [(k : Int)] ∧ (firstV l k = -1 ∨ k < m) := by
  obtain ⟨m, ⟨g1, g2, g3⟩ | ⟨g0, g2, g1, g3⟩⟩ := stand_of (l := l) (n := n) (b := (k : Int)) (by omega)
  all_goals
    refine ⟨m, g1, ?_, by first | exact .inl g0 | (right; omega)⟩
    rw [← selQ_yes (brk_yes h1 h2 h3)]
    exact selQ_skip' (by omega) fun j h4 h5 => g3 j (by omega) h5
theorem sel_end {l : List I7} {n z : Int} {k : Nat} (h : Stand l n z k) (hz : z < 0 ∨ forceV l n < z) : selQ (isBrk l n) k = breaksV l n := by
  unfold breaksV
  rcases h with ⟨_, rfl⟩ | ⟨rfl, hk, _, _⟩
  · rfl
  · exact (selQ_skip' (by omega) fun j h1 h2 => brk_high (by omega)).symm
set_option maxHeartbeats 2000000 in
theorem vbreaks_any (v : Value) (l : List I7) (n : Int) (w : World) (h : VAt w v l) (hl : l.length ≤ 1000000) :
    Calls Try.prog 13 #[v, .int .i64 n] w fun e w' => ∃ u, e = .returned u ∧ OwnN w' w.heap.size u (breaksV l n) ∧ Below w.heap.size w w' := by
  have hmx : 1000002 ≤ maxLen := by decide
  obtain ⟨i0, hi, hz0, hz1, hz2⟩ := info_parts infoInt
  have cF := vforce_any v l n w h hl
  have HC := Lib.hid fun (z : Int) x (hx : Below w.heap.size w x) => vfirst_any v l z x (h.carry hx) hl
  have HF := Lib.hid (findV_in (l := l) (mayV l) n hl)
  have HG := Lib.hid (sel_start l n)
  clear h
  generalize hF : forceV l n = F at *
  have HFF := Lib.hid hF
  clear hF
  go_enter Try.func13, Try.ntmps13
  go_wp2_with fail
  refine cF.mono ?_
  rintro e w1 ⟨rfl, b1⟩
  clear cF
  go_wp2_with fail
  refine (HC.out n w1 b1).mono ?_
  rintro e w2 ⟨rfl, b2⟩
  replace b2 := tstep b1 b2 b1.size
  generalize firstV l n = r at *
  clear HF
  go_wp2_with fail
  go_loopw [5, 7] (fun u i wr => ∃ (u' : Value) (z : Int) (k : Nat), u' = u ∧ i = .int .i64 z ∧ Below w.heap.size w wr ∧ Hid (Stand l n z k) ∧ OwnN wr w.heap.size u' (selQ (isBrk l n) k)) (fun _ i _ => brkM (intOf i))
  case atStart =>
    obtain ⟨k, h1, h2⟩ := HG.out
    exact ⟨_, _, k, rfl, rfl, b2, Lib.hid h1, by rw [h2]; exact ownN_nil _ _⟩
  case round =>
    obtain ⟨u, z, k, rfl, rfl, hbl, HS, hown⟩ := hrel
    by_cases hz : z < 0
    · have HE : Hid (selQ (isBrk l n) k = breaksV l n) := Lib.hid (sel_end HS.out (.inl hz))
      clear HS HC HG
      go_wp2
      go_ret
      exact ⟨_, rfl, by rw [← HE.out]; exact hown, hbl⟩
    · obtain ⟨hzk, hk, h1, h2⟩ : z = k ∧ k ≤ l.length ∧ n.toNat < k ∧ mayV l k = true := by
        rcases HS.out with ⟨h, _⟩ | h
        · omega
        · exact h
      subst hzk
      by_cases hF : (k : Int) ≤ F
      · have hin := findV_in (l := l) (mayV l) k hl
        have hst := sel_step hk h1 h2 (by rw [HFF.out]; exact hF)
        have HT := Lib.hid hst
        have hkl := selQ_len (isBrk l n) k
        have hzr := hbl.size
        have HI : Hid (∀ j, inR ((selQ (isBrk l n) k ++ [(k : Int)]).getD j 0)) := Lib.hid (by rw [← selQ_yes (brk_yes h1 h2 (by rw [HFF.out]; exact hF))]; exact selQ_in (by omega))
        have hfi : inR ((k : Int)) := by unfold inR; omega
        clear h1 h2 hst HS HG
        go_wp2_with (at_builtin; refine wpList_append_own _ rfl _ _ 35 rfl w.heap.size 3 i0 (.int .i64 0) 1 8 Try.underlying35 hi hz0 hz1 hz2 rfl (by decide) _ _ _ rfl (hown.own.alloc _) ⟨wr.heap.size, 0, none⟩ 1 1 [.int .i64 k] rfl rfl (cell_one_new _ _ _) (by simp [Value.oneCell']) (by omega) (by omega) (by simp; omega) ?_; intro v' w4 hown' hgrow _; have hb4 : Below w.heap.size w w4 := hown.grow hbl (by omega) hgrow)
        have ho4 : OwnN w4 w.heap.size v' (selQ (isBrk l n) k ++ [(k : Int)]) := ⟨by simpa using hown', HI.out⟩
        have c4 := HC.out (k : Int) w4 hb4
        clear hown' hgrow hown
        rw [show firstV l (k : Int) = afterV l (mayV l) k from rfl] at c4 HT
        generalize afterV l (mayV l) (k : Int) = r2 at *
        refine c4.mono ?_
        rintro e w5 ⟨rfl, b5⟩
        clear c4 HC
        go_wp2
        go_roundw
        case rel =>
          obtain ⟨m, g1, g2, g3⟩ := HT.out
          exact ⟨_, _, m, rfl, rfl, tstep hb4 b5 hb4.size, Lib.hid g1, by rw [g2]; exact ho4.carry b5⟩
        case measure =>
          obtain ⟨m, g1, g2, g3⟩ := HT.out
          show brkM r2 < brkM (k : Int)
          unfold brkM
          rcases g1 with ⟨h, _⟩ | ⟨h, h', _⟩
          · rw [if_pos (by omega), if_neg (by omega)]; omega
          · rcases g3 with g3 | g3
            · omega
            · rw [if_neg (by omega), if_neg (by omega)]; omega
      · have HE : Hid (selQ (isBrk l n) k = breaksV l n) := Lib.hid (sel_end HS.out (.inr (by rw [HFF.out]; omega)))
        clear HS HC HG h1 h2
        go_wp2
        go_ret
        exact ⟨_, rfl, by rw [← HE.out]; exact hown, hbl⟩
theorem btw_yes {n b : Int} {k : Nat} (h1 : n.toNat ≤ k) (h2 : (k : Int) < b) : isBtw n b k = true := by
  unfold isBtw
  rw [decide_eq_true h1, decide_eq_true h2]
  rfl
theorem btw_low {n b : Int} {k : Nat} (h : k < n.toNat) : isBtw n b k = false := by
  unfold isBtw
  rw [decide_eq_false (by omega)]
  rfl
theorem btw_high {n b : Int} {k : Nat} (h : b ≤ k) : isBtw n b k = false := by
  unfold isBtw
  rw [decide_eq_false (p := (k : Int) < b) (by omega)]
  simp
/-- All that comes has come. -/
theorem btw_end {l : List I7} {n b : Int} {k : Nat} (h : ¬ (k : Int) < min b l.length) : selQ (isBtw n b) (min k l.length) = betweenV l n b := by
  unfold betweenV
  exact (selQ_skip' (by omega) fun j h1 h2 => btw_high (by omega)).symm
theorem btw_start (l : List I7) (n b : Int) : selQ (isBtw n b) (min n.toNat l.length) = [] := selQ_none fun j hj => btw_low (by omega)
theorem btw_step {l : List I7} {n b : Int} {k : Nat} (h0 : n.toNat ≤ k) (h : (k : Int) < min b l.length) : selQ (isBtw n b) (min (k + 1) l.length) = selQ (isBtw n b) (min k l.length) ++ [(k : Int)] := by
  rw [show min (k + 1) l.length = k + 1 by omega, show min k l.length = k by omega]
  exact selQ_yes (btw_yes h0 (by omega))
set_option maxHeartbeats 2000000 in
theorem vbetween_any (v : Value) (l : List I7) (n b : Int) (w : World) (h : VAt w v l) (hl : l.length ≤ 1000000) (hn : inR n) :
    Calls Try.prog 14 #[v, .int .i64 n, .int .i64 b] w fun e w' => ∃ u, e = .returned u ∧ OwnN w' w.heap.size u (betweenV l n b) ∧ Below w.heap.size w w' := by
  have hmx : 1000002 ≤ maxLen := by decide
  obtain ⟨i0, hi, hz0, hz1, hz2⟩ := info_parts infoInt
  have HL := Lib.hid fun w' (hb : Below w.heap.size w w') => vlen_any v l w' (h.carry hb)
  clear h
  obtain ⟨s, hs, hs2⟩ : ∃ s : Nat, n.toNat = s ∧ (s : Int) = max n 0 := ⟨n.toNat, rfl, by omega⟩
  have hsi : (s : Int) ≤ 9223372036854775807 := by unfold inR at hn; omega
  have HB := Lib.hid (btw_start l n b)
  rw [hs] at HB
  have HE : Hid (∀ k : Nat, ¬ (k : Int) < min b l.length → selQ (isBtw n b) (min k l.length) = betweenV l n b) := Lib.hid fun k h => btw_end h
  have HT : Hid (∀ k : Nat, s ≤ k → (k : Int) < min b l.length → selQ (isBtw n b) (min (k + 1) l.length) = selQ (isBtw n b) (min k l.length) ++ [(k : Int)]) := Lib.hid fun k h1 h2 => btw_step (by omega) h2
  rcases (by omega : (n < 0 ∧ (0 : Int) = s) ∨ (¬ n < 0 ∧ n = s)) with ⟨g1, g2⟩ | ⟨g1, g2⟩
  all_goals
    rcases (by omega : (b ≤ (l.length : Int) ∧ min b (l.length : Int) = b) ∨ (¬ b ≤ (l.length : Int) ∧ min b (l.length : Int) = l.length)) with ⟨f1, f2⟩ | ⟨f1, f2⟩
    all_goals
      rw [f2] at HE HT
      have G2 := Lib.hid g2
      have F2 := Lib.hid f2
      clear hs hs2 g2 f2
      go_enter Try.func14, Try.ntmps14
      go_wp2_with fail
      go_loopw [7, 8] (fun u i wr => ∃ (u' : Value) (k : Nat), u' = u ∧ i = .int .i64 k ∧ s ≤ k ∧ (k = s ∨ k ≤ 1000000) ∧ Below w.heap.size w wr ∧ OwnN wr w.heap.size u' (selQ (isBtw n b) (min k l.length))) (fun _ i _ => l.length - (intOf i).toNat)
      case atStart => exact ⟨_, s, rfl, by first | (rw [← G2.out]; done) | (rw [G2.out]; done), Nat.le_refl _, .inl rfl, Below.refl _ _, by rw [HB.out]; exact ownN_nil _ _⟩
      case round =>
        obtain ⟨u, k, rfl, rfl, hsk, hks, hbl, hown⟩ := hrel
        have cl := HL.out _ hbl
        have hkl := selQ_len (isBtw n b) (min k l.length)
        have hzr := hbl.size
        have hk1 : (k : Int) ≤ 9223372036854775807 := by omega
        have f2 := F2.out
        by_cases hlt : (k : Int) < min b l.length
        · have HT1 := Lib.hid (HT.out k hsk (by omega))
          have HI : Hid (∀ j, inR ((selQ (isBtw n b) (min (k + 1) l.length)).getD j 0)) := Lib.hid (selQ_in (by omega))
          have hl1 : k < l.length := by omega
          rw [f2] at hlt
          clear f2
          go_wp2_with fail
          refine cl.mono ?_
          rintro e w1 ⟨rfl, rfl⟩
          clear cl HL HE HT HB
          go_wp2_with (at_builtin; refine wpList_append_own _ rfl _ _ 35 rfl w.heap.size 3 i0 (.int .i64 0) 1 8 Try.underlying35 hi hz0 hz1 hz2 rfl (by decide) _ _ _ rfl (hown.own.alloc _) ⟨w1.heap.size, 0, none⟩ 1 1 [.int .i64 k] rfl rfl (cell_one_new _ _ _) (by simp [Value.oneCell']) (by omega) (by omega) (by simp; omega) ?_; intro v' w4 hown' hgrow _; have hb4 : Below w.heap.size w w4 := hown.grow hbl (by omega) hgrow)
          have ho4 : OwnN w4 w.heap.size v' (selQ (isBtw n b) (min (k + 1) l.length)) := ⟨by rw [HT1.out]; simpa using hown', HI.out⟩
          clear hown' hgrow hown
          go_wp2
          go_roundw
          case rel => exact ⟨_, k + 1, rfl, by go_num, by omega, .inr (by omega), hb4, ho4⟩
          case measure => simp [intOf]; omega
        · rw [f2] at hlt
          have HE1 := Lib.hid (HE.out k (by omega))
          clear f2
          go_wp2_with fail
          refine cl.mono ?_
          rintro e w1 ⟨rfl, rfl⟩
          clear cl HL HE HT HB
          go_wp2
          go_ret
          exact ⟨_, rfl, by rw [← HE1.out]; exact hown, hbl⟩
end Go.Proofs.Ytnajjgohodnfhaa
