/- The walk of gset.Sizes where nothing is shared. The walk of gset.Sizes where all shrink. -/
import Derived.Test.YtojphpncidjdiaaGArr
import Derived.Test.YtojphpncidjdiaaDet
namespace Go.Proofs.Ytojphpncidjdiaa
open Go.RowKit
set_option maxRecDepth 20000
set_option linter.unusedVariables false
set_option linter.unusedSimpArgs false

/-- Nothing is set: By does not fit. -/
theorem sizes_a (s : S5) (a : Option Addr) (cap len : Nat) (w : World) (hb : fitB s.bye = false) :
    Calls Try.prog 15 #[stg s, .slice a len cap] w fun e w' => e = .returned (.slice none 0 0) ∧ Below w.heap.size w w' := by
  have c := fits_any s.bye
  rw [hb] at c
  unfold stg
  go_enter Try.func15, Try.ntmps15
  go_wp2_with (with_reducible refine (c _).mono ?_; rintro e w1 ⟨rfl, rfl⟩)
  go_ret
  exact ⟨rfl, tbel1 w _⟩
/-- Nothing is set: a total does not fit. -/
theorem sizes_b (s : S5) (a : Option Addr) (cap : Nat) (l : List T6) (w : World) (hn : l.length ≤ 1000000) (hr : GRow w.heap.size w a l) (hb : fitB s.bye = true) (hs : l.all soundT = false) :
    Calls Try.prog 15 #[stg s, .slice a l.length cap] w fun e w' => e = .returned (.slice none 0 0) ∧ Below w.heap.size w w' := by
  have c := fits_any s.bye
  rw [hb] at c
  have b0 := tbel1 w (.cells #[.int .i64 s.how, .int .i64 s.ord, .int .i64 s.bye, .int .i64 s.off, .int .i64 s.left] 28)
  have c2 := contains_any a cap l _ hn ((hr.carry b0 (Nat.le_refl _)).mono b0.size)
  rw [hs, Bool.not_false] at c2
  unfold stg
  go_enter Try.func15, Try.ntmps15
  go_wp2_with (first | (with_reducible refine (c _).mono ?_; rintro e w1 ⟨rfl, rfl⟩) | (refine c2.mono ?_; rintro e w2 ⟨rfl, b2⟩))
  go_ret
  exact ⟨rfl, tstep b0 b2 b0.size⟩
set_option maxHeartbeats 1000000 in
theorem sizes_0 (s : S5) (a : Option Addr) (cap : Nat) (l : List T6) (w : World) (hn : l.length ≤ 1000000) (hr : GRow w.heap.size w a l) (hb : fitB s.bye = true) (hs : l.all soundT = true) (hh : s.how = 0) :
    Calls Try.prog 15 #[stg s, .slice a l.length cap] w fun e w' => ∃ g, e = .returned (.slice (some ⟨g, 0, none⟩) l.length l.length) ∧ w.heap.size ≤ g ∧ ArrF w' g l.length (fldK T6.n l) ∧ Below w.heap.size w w' := by
  have c := fits_any s.bye
  rw [hb] at c
  have HR := Lib.hid hr
  have B0 := blk_new w #[.int .i64 s.how, .int .i64 s.ord, .int .i64 s.bye, .int .i64 s.off, .int .i64 s.left] 28
  have b0 := tbel1 w (.cells #[.int .i64 s.how, .int .i64 s.ord, .int .i64 s.bye, .int .i64 s.off, .int .i64 s.left] 28)
  have c2 := contains_any a cap l _ hn ((hr.carry b0 (Nat.le_refl _)).mono b0.size)
  rw [hs, Bool.not_true] at c2
  clear hr
  unfold stg
  rw [hh] at B0 b0 c2 ⊢
  go_enter Try.func15, Try.ntmps15
  go_wp2_with (first | (with_reducible refine (c _).mono ?_; rintro e w1 ⟨rfl, rfl⟩) | (with_reducible refine c2.mono ?_; rintro e w2 ⟨rfl, b2⟩; replace B0 := B0.old b2; replace b0 := tstep b0 b2 b0.size; clear b2) | fail)
  refine (fnat_any a cap l _ hn ((HR.out.carry b0 (Nat.le_refl _)).mono b0.size)).mono ?_
  rintro e w3 ⟨g, rfl, hg, A, b3⟩
  have hB0 := B0.lt
  replace B0 := B0.old b3
  have hg0 := b0.size
  replace b0 := tstep b0 b3 b0.size
  have hg1 : w.heap.size < g := by omega
  have hA := A.lt
  have h3 := b0.size
  clear b3 hg c c2
  have f0 := ((B0.alloc (.cells #[.slice (some ⟨g, 0, none⟩) l.length l.length] 36)).alloc (.cells #[.int .i64 (-1)] 22)).five
  go_wp2
  go_ret
  exact ⟨g, rfl, by omega, (A.alloc _).alloc _, (b0.alloc b0.size _).alloc (by simp; omega) _⟩
set_option maxHeartbeats 1000000 in
theorem sizes_d (s : S5) (a : Option Addr) (cap : Nat) (l : List T6) (w : World) (hn : l.length ≤ 1000000) (hr : GRow w.heap.size w a l) (hb : fitB s.bye = true) (hs : l.all soundT = true)
    (d0 : (s.how == 0) = false) (d1 : (s.how == 1) = false) (d2 : (s.how == 2) = false) (d3 : (s.how == 3) = false) :
    Calls Try.prog 15 #[stg s, .slice a l.length cap] w fun e w' => e = .returned (.slice none 0 0) ∧ Below w.heap.size w w' := by
  have c := fits_any s.bye
  rw [hb] at c
  have HR := Lib.hid hr
  have B0 := blk_new w #[.int .i64 s.how, .int .i64 s.ord, .int .i64 s.bye, .int .i64 s.off, .int .i64 s.left] 28
  have b0 := tbel1 w (.cells #[.int .i64 s.how, .int .i64 s.ord, .int .i64 s.bye, .int .i64 s.off, .int .i64 s.left] 28)
  have c2 := contains_any a cap l _ hn ((hr.carry b0 (Nat.le_refl _)).mono b0.size)
  rw [hs, Bool.not_true] at c2
  clear hr
  unfold stg
  go_enter Try.func15, Try.ntmps15
  go_wp2_with (first | (with_reducible refine (c _).mono ?_; rintro e w1 ⟨rfl, rfl⟩) | (with_reducible refine c2.mono ?_; rintro e w2 ⟨rfl, b2⟩; replace B0 := B0.old b2; replace b0 := tstep b0 b2 b0.size; clear b2) | fail)
  refine (fnat_any a cap l _ hn ((HR.out.carry b0 (Nat.le_refl _)).mono b0.size)).mono ?_
  rintro e w3 ⟨g, rfl, hg, A, b3⟩
  have hB0 := B0.lt
  replace B0 := B0.old b3
  have hg0 := b0.size
  replace b0 := tstep b0 b3 b0.size
  have hg1 : w.heap.size < g := by omega
  have hA := A.lt
  have h3 := b0.size
  clear b3 hg c c2
  have f0 := ((B0.alloc (.cells #[.slice (some ⟨g, 0, none⟩) l.length l.length] 36)).alloc (.cells #[.int .i64 (-1)] 22)).five
  go_wp2
  go_ret
  exact ⟨rfl, (b0.alloc b0.size _).alloc (by simp; omega) _⟩
end Go.Proofs.Ytojphpncidjdiaa
namespace Go.Proofs.Ytojphpncidjdiaa
open Go.RowKit
set_option maxRecDepth 20000
set_option linter.unusedVariables false
set_option linter.unusedSimpArgs false

theorem Blk.one {w : World} {g : Nat} {T : TypeId} {v0 : Value} (h : Blk w g #[v0] T) : w.cell? ⟨g, 0, none⟩ = some v0 := by
  unfold Blk at h
  simp [World.cell?, h]
set_option maxHeartbeats 1000000 in
theorem sizes_3 (s : S5) (a : Option Addr) (cap : Nat) (l : List T6) (w : World) (hn : l.length ≤ 1000000) (hr : GRow w.heap.size w a l) (hb : fitB s.bye = true) (hs : l.all soundT = true) (hh : s.how = 3) :
    Calls Try.prog 15 #[stg s, .slice a l.length cap] w fun e w' => ∃ g, e = .returned (.slice (some ⟨g, 0, none⟩) l.length l.length) ∧ w.heap.size ≤ g ∧ ArrF w' g l.length (fun k => (l.getD k zeroT).n - (l.getD k zeroT).h) ∧ Below w.heap.size w w' := by
  have HS := Lib.hid (all_get hs)
  have c := fits_any s.bye
  rw [hb] at c
  have HR := Lib.hid hr
  have B0 := blk_new w #[.int .i64 s.how, .int .i64 s.ord, .int .i64 s.bye, .int .i64 s.off, .int .i64 s.left] 28
  have b0 := tbel1 w (.cells #[.int .i64 s.how, .int .i64 s.ord, .int .i64 s.bye, .int .i64 s.off, .int .i64 s.left] 28)
  have c2 := contains_any a cap l _ hn ((hr.carry b0 (Nat.le_refl _)).mono b0.size)
  rw [hs, Bool.not_true] at c2
  clear hr
  unfold stg
  rw [hh] at B0 b0 c2 ⊢
  clear hs hb hh
  go_enter Try.func15, Try.ntmps15
  go_wp2_with (first | (with_reducible refine (c _).mono ?_; rintro e w1 ⟨rfl, rfl⟩) | (with_reducible refine c2.mono ?_; rintro e w2 ⟨rfl, b2⟩; replace B0 := B0.old b2; replace b0 := tstep b0 b2 b0.size; clear b2) | fail)
  refine (fnat_any a cap l _ hn ((HR.out.carry b0 (Nat.le_refl _)).mono b0.size)).mono ?_
  rintro e w3 ⟨g, rfl, hg, A, b3⟩
  have hB0 := B0.lt
  replace B0 := B0.old b3
  have hg0 := b0.size
  replace b0 := tstep b0 b3 b0.size
  have hg1 : w.heap.size < g := by omega
  have hA := A.lt
  have h3 := b0.size
  clear b3 hg c c2
  have f0 := ((B0.alloc (.cells #[.slice (some ⟨g, 0, none⟩) l.length l.length] 36)).alloc (.cells #[.int .i64 (-1)] 22)).five
  have S1 := (blk_new w3 #[.slice (some ⟨g, 0, none⟩) l.length l.length] 36).alloc (.cells #[.int .i64 (-1)] 22)
  replace A := (A.alloc (.cells #[.slice (some ⟨g, 0, none⟩) l.length l.length] 36)).alloc (.cells #[.int .i64 (-1)] 22)
  replace b0 := (b0.alloc b0.size (.cells #[.slice (some ⟨g, 0, none⟩) l.length l.length] 36)).alloc (by simp; omega) (.cells #[.int .i64 (-1)] 22)
  go_wp2_with fail
  clear f0 B0
  go_loopw [54] (fun i wr => ∃ k : Nat, k ≤ l.length ∧ i = .int .i64 k ∧ Below w.heap.size w wr ∧ Blk wr w3.heap.size #[.slice (some ⟨g, 0, none⟩) l.length l.length] 36 ∧ ArrF wr g l.length (fun j => if j < k then (l.getD j zeroT).n - (l.getD j zeroT).h else (l.getD j zeroT).n)) (fun i _ => l.length - (intOf i).toNat)
  case atStart => exact ⟨0, Nat.zero_le _, rfl, b0, S1, A.congr fun j _ => by rw [if_neg (Nat.not_lt_zero j)]; rfl⟩
  case round =>
    clear b0 S1 A
    obtain ⟨k, hk, rfl, hbl, S1, A⟩ := hrel
    by_cases hlt : k < l.length
    · obtain ⟨hiy, b, off, rfl, hB, h0, h1, h2, h3', h4, h5⟩ := HR.out.carry hbl (Nat.le_refl _) k hlt
      have hsy := HS.out k hlt
      have HA := Lib.hid A
      have hA0 := A.cell k hlt
      have hA1 := A.lt
      have hS1 := S1.lt
      rw [if_neg (Nat.lt_irrefl k)] at hA0
      obtain ⟨y, hy⟩ : ∃ y, y = l.getD k zeroT := ⟨_, rfl⟩
      rw [← hy] at h0 h1 h2 h3' h4 h5 hsy hA0
      obtain ⟨_, _, _, _, q1, q2⟩ := soundT_true hsy
      have q1' := fitB_true q1
      have q2' := fitB_true q2
      obtain ⟨z, hz⟩ : ∃ z, z = y.n - y.h := ⟨_, rfl⟩
      have hw : wrap64 (y.n - y.h) = z := by rw [hz]; unfold wrap64; omega
      have HY := Lib.hid (And.intro hy hz)
      have b1 := hbl.alloc hbl.size (.cells #[.int .i64 y.n, .int .i64 y.s0, .int .i64 y.s1, .int .i64 y.s2, .int .i64 y.s3, .int .i64 y.h] 25)
      have S2 := S1.alloc (.cells #[.int .i64 y.n, .int .i64 y.s0, .int .i64 y.s1, .int .i64 y.s2, .int .i64 y.s3, .int .i64 y.h] 25)
      have A2 := A.alloc (.cells #[.int .i64 y.n, .int .i64 y.s0, .int .i64 y.s1, .int .i64 y.s2, .int .i64 y.s3, .int .i64 y.h] 25)
      have T2 := blk_new wr #[.int .i64 y.n, .int .i64 y.s0, .int .i64 y.s1, .int .i64 y.s2, .int .i64 y.s3, .int .i64 y.h] 25
      clear hy hz hiy hsy q1 q2 q1' q2' A S1 hbl
      go_wp2_with fail
      clear h0 h1 h2 h3' h4 h5 hA0
      generalize wr.heap.size = gt at *
      generalize wr.alloc _ = V at *
      have hA0 := A2.cell k hlt
      rw [if_neg (Nat.lt_irrefl k), ← HY.out.1] at hA0
      have CE := Lib.hid fun x (hx : Old V x) => And.intro (S2.old hx).one (And.intro (T2.old hx).six (And.intro ((hx.cell (p := ⟨g, k, none⟩) A2.lt).trans hA0) (And.intro ((A2.old hx).free k) (And.intro hlt (Nat.not_le.2 hlt)))))
      (refine wp_region_text (Old V) 8 (by kernel_rfl) (by kernel_rfl) (Below.refl _ V).drew ?_; simp only [List.take_succ_cons, List.take_zero, List.drop_succ_cons, List.drop_zero])
      repeat (first | (apply Text.sees (hw := by kernel_rfl); (focus (intro x hx K hK; have hc := CE.out x hx; go_simp; exact hK)); simp only [Act.put, List.getElem_toArray, List.getElem_cons_succ, List.getElem_cons_zero, List.setIfInBounds_toArray, List.set_cons_zero, List.set_cons_succ]) | (apply Text.idle; (focus (intro x hx K hK; go_simp; exact hK)); simp only [Act.put, List.getElem_toArray, List.getElem_cons_succ, List.getElem_cons_zero, List.setIfInBounds_toArray, List.set_cons_zero, List.set_cons_succ]))
      intro x hx
      have hc := CE.out x hx
      have A3 := Lib.hid ((A2.old hx).set k z)
      have S3 := Lib.hid ((S2.old hx).other (b := g) (by omega) k (.int .i64 z))
      have b3 := Lib.hid ((tstep b1 hx b1.size).setCell (p := ⟨g, k, none⟩) (by simp; omega) (.int .i64 z))
      clear CE A2 S2 T2 b1 hx hA0
      go_wp2
      go_roundw
      case rel =>
        refine ⟨k + 1, by omega, by go_num, b3.out, S3.out, A3.out.congr fun j hj => ?_⟩
        by_cases hj' : j = k
        · subst hj'
          rw [if_pos rfl, if_pos (by omega), HY.out.2, HY.out.1]
        · rw [if_neg hj']
          by_cases hj2 : j < k
          · rw [if_pos hj2, if_pos (by omega)]
          · rw [if_neg hj2, if_neg (by omega)]
      case measure => simp [intOf]; omega
    · obtain rfl : k = l.length := by omega
      have hS := S1.one
      go_wp2
      go_ret
      exact ⟨g, rfl, by omega, A.congr fun j hj => by rw [if_pos hj], hbl⟩
end Go.Proofs.Ytojphpncidjdiaa
