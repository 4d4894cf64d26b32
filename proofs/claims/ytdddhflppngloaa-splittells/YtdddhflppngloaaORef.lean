/- The document's Next, High and Lines of layer 22. -/
import Derived.Test.YtdddhflppngloaaOHgh
namespace Go.Proofs.Ytdddhflppngloaa
open Go.RowKit
set_option maxRecDepth 20000
set_option linter.unusedVariables false
set_option linter.unusedSimpArgs false

theorem oref_any (s : SpO) (w : World) : Calls Try.prog 9 #[spo s] w fun e w' => e = .returned (spo s) ∧ Below w.heap.size w w' := by
  obtain ⟨s0, s1, s2, s3⟩ := s
  unfold spo
  dsimp only
  have b2 := tbel2 w (.cells #[.int .i64 s0, .int .i64 s1, .int .i64 s2, .bool s3] 24) (.cells #[.int .i64 0, .int .i64 0, .int .i64 0, .bool false] 34)
  go_enter Try.func9, Try.ntmps9
  go_wp2
  refine bodyPost_ret (v := .agg #[.int .i64 s0, .int .i64 s1, .int .i64 s2, .bool s3]) (by simp [results, Try.results9, go_sem]) rfl ⟨rfl, ?_⟩
  exact tbel2 w _ _
set_option maxHeartbeats 2000000 in
theorem ronext_any (a : Option Addr) (cap : Nat) (l : List N2) (s : SpO) (pa : Option Addr) (pc : Nat) (p : List PcO) (w : World) (hl : l.length ≤ 1000000) (hp : p.length ≤ 1000000) (hN : NotesAt w a l) (hP : Els 3 encP w pa p.length fun k => p.getD k zPc) :
    Calls Try.prog 8 #[.slice a l.length cap, spo s, .slice pa p.length pc] w fun e w' => e = .returned (.agg #[.int .i64 (nextO l s p).1, .int .i64 (nextO l s p).2]) ∧ Below w.heap.size w w' := by
  obtain ⟨s0, s1, s2, s3⟩ := s
  have b2 := tbel2 w (.cells #[.int .i64 s0, .int .i64 s1, .int .i64 s2, .bool s3] 34) (.cells #[.int .i64 0, .int .i64 0] 32)
  rcases Nat.eq_zero_or_pos p.length with h0 | h0
  · rw [nextO_nil h0, h0]
    unfold spo
    dsimp only
    clear hN hP
    go_enter Try.func8, Try.ntmps8
    go_wp2
    refine bodyPost_ret (v := .agg #[.int .i64 s0, .int .i64 s1]) (by simp [results, Try.results8, go_sem]) rfl ⟨rfl, ?_⟩
    exact tbel2 w _ _
  · obtain ⟨m, hm⟩ : ∃ m, p.length = m + 1 := ⟨p.length - 1, by omega⟩
    obtain ⟨pb, off, rfl, hB, q0, q1, q2⟩ := elsP hP (k := m) (by omega)
    obtain ⟨⟨n, f, t⟩, hx⟩ : ∃ x, p.getD m zPc = x := ⟨_, rfl⟩
    rw [hx] at q0 q1 q2
    dsimp only at q0 q1 q2
    rw [hm]
    have b3 := b2.alloc b2.size (.cells #[.int .i64 n, .int .i64 f, .int .i64 t] 44)
    have B3 := blk_three w (.cells #[.int .i64 s0, .int .i64 s1, .int .i64 s2, .bool s3] 34) (.cells #[.int .i64 0, .int .i64 0] 32) #[.int .i64 n, .int .i64 f, .int .i64 t] 44
    have B2 := (blk_two w (.cells #[.int .i64 s0, .int .i64 s1, .int .i64 s2, .bool s3] 34) #[.int .i64 0, .int .i64 0] 32).alloc (.cells #[.int .i64 n, .int .i64 f, .int .i64 t] 44)
    have hm1 : ((m + 1 : Nat) : Int) - 1 = (m : Int) := by omega
    by_cases h1 : 0 ≤ n
    · by_cases h2 : n < l.length
      · obtain ⟨k, rfl, hk⟩ : ∃ k : Nat, n = k ∧ k < l.length := ⟨n.toNat, by omega, by omega⟩
        obtain ⟨nb, noff, la, lc, qa, qc, rfl, hnb, c0, c1, _⟩ := hN.get hk
        have hlen : lenO l (k : Int) = ((l.getD k zeroN).l.length : Int) := by simp [lenO]
        have hi := isO_yes h1 h2
        generalize (l.getD k zeroN).l.length = z at *
        have c0' := Lib.hid fun (x : World) (hx : Below w.heap.size w x) => (hx.cell (p := ⟨nb, noff + k * 2, none⟩) hnb).trans c0
        have g1 : decide ((0 : Int) ≤ k) = true := decide_eq_true h1
        have g2 : decide ((k : Int) < l.length) = true := decide_eq_true h2
        by_cases ht : t = z
        · rw [nextO_end hm hx hi (ht.trans hlen.symm)]
          subst ht
          have ew : wrap64 ((k : Int) + 1) = (k : Int) + 1 := by unfold wrap64; omega
          clear hP hN hi hx hlen c0 c1
          unfold spo
          dsimp only
          go_enter Try.func8, Try.ntmps8
          go_wp2_with fail
          generalize ((w.alloc _).alloc _).alloc _ = W at *
          have CE := Lib.hid fun x (hx : Old W x) => And.intro (Blk.cell3 (Blk.old B3 hx)) (c0'.out x (tstep b3 hx b3.size))
          (refine wp_region_text (Old W) 21 (by kernel_rfl) (by kernel_rfl) (Below.refl _ W).drew ?_; simp only [List.take_succ_cons, List.take_zero, List.drop_succ_cons, List.drop_zero])
          repeat (first | (apply Text.sees (hw := by kernel_rfl); (focus (intro x hx K hK; have hc := CE.out x hx; go_simp; exact hK)); simp only [Act.put, List.getElem_toArray, List.getElem_cons_succ, List.getElem_cons_zero, List.setIfInBounds_toArray, List.set_cons_zero, List.set_cons_succ]) | (apply Text.idle; (focus (intro x hx K hK; go_simp; exact hK)); simp only [Act.put, List.getElem_toArray, List.getElem_cons_succ, List.getElem_cons_zero, List.setIfInBounds_toArray, List.set_cons_zero, List.set_cons_succ]))
          intro x hx
          have hc := CE.out x hx
          have hf := (Blk.old B2 hx).free
          have hr := (Blk.old B2 hx).two
          have f0 := hf 0
          have f1 := hf 1
          clear hf
          go_wp2
          refine bodyPost_ret (v := .agg #[.int .i64 ((k : Int) + 1), .int .i64 0]) (by simp [results, Try.results8, go_sem, *]) rfl ⟨rfl, ?_⟩
          have hb := tstep b3 hx b3.size
          exact (hb.setCell (p := ⟨w.heap.size + 1, 0, none⟩) (Nat.le_succ _) _).setCell (p := ⟨w.heap.size + 1, 1, none⟩) (Nat.le_succ _) _
        · rw [nextO_in hm hx (fun h => ht (h.2.trans hlen))]
          have eg : (t == (z : Int)) = false := by simpa using ht
          clear hP hN hi hx hlen c0 c1
          unfold spo
          dsimp only
          go_enter Try.func8, Try.ntmps8
          go_wp2_with fail
          generalize ((w.alloc _).alloc _).alloc _ = W at *
          have CE := Lib.hid fun x (hx : Old W x) => And.intro (Blk.cell3 (Blk.old B3 hx)) (And.intro (c0'.out x (tstep b3 hx b3.size)) eg)
          (refine wp_region_text (Old W) 21 (by kernel_rfl) (by kernel_rfl) (Below.refl _ W).drew ?_; simp only [List.take_succ_cons, List.take_zero, List.drop_succ_cons, List.drop_zero])
          repeat (first | (apply Text.sees (hw := by kernel_rfl); (focus (intro x hx K hK; have hc := CE.out x hx; go_simp; exact hK)); simp only [Act.put, List.getElem_toArray, List.getElem_cons_succ, List.getElem_cons_zero, List.setIfInBounds_toArray, List.set_cons_zero, List.set_cons_succ]) | (apply Text.idle; (focus (intro x hx K hK; go_simp; exact hK)); simp only [Act.put, List.getElem_toArray, List.getElem_cons_succ, List.getElem_cons_zero, List.setIfInBounds_toArray, List.set_cons_zero, List.set_cons_succ]))
          intro x hx
          have hc := CE.out x hx
          have hf := (Blk.old B2 hx).free
          have hr := (Blk.old B2 hx).two
          have f0 := hf 0
          have f1 := hf 1
          clear hf
          go_wp2
          refine bodyPost_ret (v := .agg #[.int .i64 (k : Int), .int .i64 t]) (by simp [results, Try.results8, go_sem, *]) rfl ⟨rfl, ?_⟩
          have hb := tstep b3 hx b3.size
          exact (hb.setCell (p := ⟨w.heap.size + 1, 0, none⟩) (Nat.le_succ _) _).setCell (p := ⟨w.heap.size + 1, 1, none⟩) (Nat.le_succ _) _
      · rw [nextO_in hm hx (fun h => by rw [isO_high h2] at h; exact absurd h.1 (by decide))]
        have g1 : decide ((0 : Int) ≤ n) = true := decide_eq_true h1
        have g2 : decide (n < (l.length : Int)) = false := decide_eq_false h2
        clear hP hN hx
        unfold spo
        dsimp only
        go_enter Try.func8, Try.ntmps8
        go_wp2_with fail
        generalize ((w.alloc _).alloc _).alloc _ = W at *
        have CE := Lib.hid fun x (hx : Old W x) => Blk.cell3 (Blk.old B3 hx)
        (refine wp_region_text (Old W) 21 (by kernel_rfl) (by kernel_rfl) (Below.refl _ W).drew ?_; simp only [List.take_succ_cons, List.take_zero, List.drop_succ_cons, List.drop_zero])
        repeat (first | (apply Text.sees (hw := by kernel_rfl); (focus (intro x hx K hK; have hc := CE.out x hx; go_simp; exact hK)); simp only [Act.put, List.getElem_toArray, List.getElem_cons_succ, List.getElem_cons_zero, List.setIfInBounds_toArray, List.set_cons_zero, List.set_cons_succ]) | (apply Text.idle; (focus (intro x hx K hK; go_simp; exact hK)); simp only [Act.put, List.getElem_toArray, List.getElem_cons_succ, List.getElem_cons_zero, List.setIfInBounds_toArray, List.set_cons_zero, List.set_cons_succ]))
        intro x hx
        have hc := CE.out x hx
        have hf := (Blk.old B2 hx).free
        have hr := (Blk.old B2 hx).two
        have f0 := hf 0
        have f1 := hf 1
        clear hf
        go_wp2
        refine bodyPost_ret (v := .agg #[.int .i64 n, .int .i64 t]) (by simp [results, Try.results8, go_sem, *]) rfl ⟨rfl, ?_⟩
        have hb := tstep b3 hx b3.size
        exact (hb.setCell (p := ⟨w.heap.size + 1, 0, none⟩) (Nat.le_succ _) _).setCell (p := ⟨w.heap.size + 1, 1, none⟩) (Nat.le_succ _) _
    · rw [nextO_in hm hx (fun h => by rw [isO_neg h1] at h; exact absurd h.1 (by decide))]
      have g1 : decide ((0 : Int) ≤ n) = false := decide_eq_false h1
      clear hP hN hx
      unfold spo
      dsimp only
      go_enter Try.func8, Try.ntmps8
      go_wp2_with fail
      generalize ((w.alloc _).alloc _).alloc _ = W at *
      have CE := Lib.hid fun x (hx : Old W x) => Blk.cell3 (Blk.old B3 hx)
      (refine wp_region_text (Old W) 21 (by kernel_rfl) (by kernel_rfl) (Below.refl _ W).drew ?_; simp only [List.take_succ_cons, List.take_zero, List.drop_succ_cons, List.drop_zero])
      repeat (first | (apply Text.sees (hw := by kernel_rfl); (focus (intro x hx K hK; have hc := CE.out x hx; go_simp; exact hK)); simp only [Act.put, List.getElem_toArray, List.getElem_cons_succ, List.getElem_cons_zero, List.setIfInBounds_toArray, List.set_cons_zero, List.set_cons_succ]) | (apply Text.idle; (focus (intro x hx K hK; go_simp; exact hK)); simp only [Act.put, List.getElem_toArray, List.getElem_cons_succ, List.getElem_cons_zero, List.setIfInBounds_toArray, List.set_cons_zero, List.set_cons_succ]))
      intro x hx
      have hc := CE.out x hx
      have hf := (Blk.old B2 hx).free
      have hr := (Blk.old B2 hx).two
      have f0 := hf 0
      have f1 := hf 1
      clear hf
      go_wp2
      refine bodyPost_ret (v := .agg #[.int .i64 n, .int .i64 t]) (by simp [results, Try.results8, go_sem, *]) rfl ⟨rfl, ?_⟩
      have hb := tstep b3 hx b3.size
      exact (hb.setCell (p := ⟨w.heap.size + 1, 0, none⟩) (Nat.le_succ _) _).setCell (p := ⟨w.heap.size + 1, 1, none⟩) (Nat.le_succ _) _
end Go.Proofs.Ytdddhflppngloaa
