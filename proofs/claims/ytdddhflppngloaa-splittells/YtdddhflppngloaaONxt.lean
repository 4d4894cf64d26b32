/- Next of package split. -/
import Derived.Test.YtdddhflppngloaaOPce
namespace Go.Proofs.Ytdddhflppngloaa
open Go.RowKit
set_option maxRecDepth 20000
set_option linter.unusedVariables false
set_option linter.unusedSimpArgs false

/-- One note of a list: where its numbers lie. -/
theorem NotesAt.get {w : World} {a : Option Addr} {l : List N2} (h : NotesAt w a l) {k : Nat} (hk : k < l.length) :
    ∃ b off la lc pa pc, a = some ⟨b, off, none⟩ ∧ b < w.heap.size ∧ w.cell? ⟨b, off + k * 2, none⟩ = some (.slice la (l.getD k zeroN).l.length lc) ∧ w.cell? ⟨b, off + k * 2 + 1, none⟩ = some (.slice pa (l.getD k zeroN).p.length pc) ∧ NoteOk w ⟨la, (l.getD k zeroN).l.length, lc, pa, (l.getD k zeroN).p.length, pc⟩ (l.getD k zeroN) := by
  obtain ⟨hs, h1, h2⟩ := h
  obtain ⟨b, off, ha, hb, c0, c1⟩ := els2 h1 hk
  have ok := h2 k hk
  obtain ⟨e1, e2, h3⟩ := ok
  rw [e1] at c0
  rw [e2] at c1
  refine ⟨b, off, _, _, _, _, ha, hb, c0, c1, rfl, rfl, ?_⟩
  rw [e1, e2] at h3
  exact h3
/-- The notes' lines are not too many. -/
def SmallN (l : List N2) : Prop := ∀ k, k < l.length → (l.getD k zeroN).l.length ≤ 1000000
theorem NotesAt.some {w : World} {a : Option Addr} {l : List N2} (h : NotesAt w a l) (hk : 0 < l.length) : ∃ ad, a = some ad := by
  obtain ⟨b, off, _, _, _, _, e, _⟩ := h.get hk
  exact ⟨_, e⟩
theorem Blk.cell3 {w : World} {g : Nat} {T : TypeId} {v0 v1 v2 : Value} (h : Blk w g #[v0, v1, v2] T) : w.cell? ⟨g, 0, none⟩ = some v0 ∧ w.cell? ⟨g, 1, none⟩ = some v1 ∧ w.cell? ⟨g, 2, none⟩ = some v2 :=
  ⟨h.cell 0, h.cell 1, h.cell 2⟩
theorem nextO_nil {l : List N2} {s : SpO} {p : List PcO} (h : p.length = 0) : nextO l s p = (s.n, s.l) := by unfold nextO; rw [if_pos h]
theorem nextO_end {l : List N2} {s : SpO} {p : List PcO} {m : Nat} {n f t : Int} (h : p.length = m + 1) (hx : p.getD m zPc = (n, f, t)) (h1 : isO l.length n = true) (h2 : t = lenO l n) : nextO l s p = (n + 1, 0) := by
  unfold nextO
  rw [if_neg (by omega), show p.length - 1 = m by omega]
  simp only [hx]
  rw [if_pos ⟨h1, h2⟩]
theorem nextO_in {l : List N2} {s : SpO} {p : List PcO} {m : Nat} {n f t : Int} (h : p.length = m + 1) (hx : p.getD m zPc = (n, f, t)) (h1 : ¬ (isO l.length n = true ∧ t = lenO l n)) : nextO l s p = (n, t) := by
  unfold nextO
  rw [if_neg (by omega), show p.length - 1 = m by omega]
  simp only [hx]
  rw [if_neg h1]
set_option maxHeartbeats 2000000 in
theorem onext_any (a : Option Addr) (cap : Nat) (l : List N2) (s : SpO) (pa : Option Addr) (pc : Nat) (p : List PcO) (w : World) (hl : l.length ≤ 1000000) (hp : p.length ≤ 1000000) (hN : NotesAt w a l) (hP : Els 3 encP w pa p.length fun k => p.getD k zPc) :
    Calls Try.prog 6 #[.slice a l.length cap, spo s, .slice pa p.length pc] w fun e w' => e = .returned (.tuple #[.int .i64 (nextO l s p).1, .int .i64 (nextO l s p).2]) ∧ Below w.heap.size w w' := by
  obtain ⟨s0, s1, s2, s3⟩ := s
  have b1 := tbel1 w (.cells #[.int .i64 s0, .int .i64 s1, .int .i64 s2, .bool s3] 24)
  rcases Nat.eq_zero_or_pos p.length with h0 | h0
  · rw [nextO_nil h0, h0]
    unfold spo
    dsimp only
    clear hN hP
    go_enter Try.func6, Try.ntmps6
    go_wp2_with fail
    go_quiet (fail)
    go_wp2
    refine bodyPost_ret (v := .tuple #[.int .i64 s0, .int .i64 s1]) (by simp [results, Try.results6, go_sem]) rfl ⟨rfl, ?_⟩
    exact ndrewN b1 _
  · obtain ⟨m, hm⟩ : ∃ m, p.length = m + 1 := ⟨p.length - 1, by omega⟩
    obtain ⟨pb, off, rfl, hB, q0, q1, q2⟩ := elsP hP (k := m) (by omega)
    obtain ⟨⟨n, f, t⟩, hx⟩ : ∃ x, p.getD m zPc = x := ⟨_, rfl⟩
    rw [hx] at q0 q1 q2
    dsimp only at q0 q1 q2
    rw [hm]
    have ce := fun x => oexists_any a l.length cap n x hl
    have b2 := b1.alloc b1.size (.cells #[.int .i64 n, .int .i64 f, .int .i64 t] 44)
    have B2 := blk_two w (.cells #[.int .i64 s0, .int .i64 s1, .int .i64 s2, .bool s3] 24) #[.int .i64 n, .int .i64 f, .int .i64 t] 44
    have hm1 : ((m + 1 : Nat) : Int) - 1 = (m : Int) := by omega
    by_cases hi : isO l.length n = true
    · rw [hi] at ce
      obtain ⟨k, rfl, hk⟩ : ∃ k : Nat, n = k ∧ k < l.length := by
        unfold isO at hi
        simp at hi
        exact ⟨n.toNat, by omega, by omega⟩
      obtain ⟨nb, noff, la, lc, qa, qc, rfl, hnb, c0, c1, _⟩ := hN.get hk
      have hlen : lenO l (k : Int) = ((l.getD k zeroN).l.length : Int) := by simp [lenO]
      generalize (l.getD k zeroN).l.length = z at *
      have c0' := Lib.hid fun (x : World) (hx : Below w.heap.size w x) => (hx.cell (p := ⟨nb, noff + k * 2, none⟩) hnb).trans c0
      by_cases ht : t = z
      · rw [nextO_end hm hx hi (ht.trans hlen.symm)]
        subst ht
        have ew : wrap64 ((k : Int) + 1) = (k : Int) + 1 := by unfold wrap64; omega
        have eg : decide ((z : Int) = z) = true := by simp
        clear hP hN hi hx hlen c0 c1
        unfold spo
        dsimp only
        go_enter Try.func6, Try.ntmps6
        go_wp2_with fail
        generalize (w.alloc _).alloc _ = W at *
        have CE := Lib.hid fun x (hx : Old W x) => And.intro (Blk.cell3 (Blk.old B2 hx)) (c0'.out x (tstep b2 hx b2.size))
        (refine wp_region_text (Old W) 15 (by kernel_rfl) (by kernel_rfl) (Below.refl _ W).drew ?_; simp only [List.take_succ_cons, List.take_zero, List.drop_succ_cons, List.drop_zero])
        repeat (first | (apply Text.sees (hw := by kernel_rfl); (focus (intro x hx K hK; have hc := CE.out x hx; go_simp; exact hK)); simp only [Act.put, List.getElem_toArray, List.getElem_cons_succ, List.getElem_cons_zero, List.setIfInBounds_toArray, List.set_cons_zero, List.set_cons_succ]) | (apply Text.idle; (focus (intro x hx K hK; go_simp; exact hK)); simp only [Act.put, List.getElem_toArray, List.getElem_cons_succ, List.getElem_cons_zero, List.setIfInBounds_toArray, List.set_cons_zero, List.set_cons_succ]))
        (refine Text.call (fun x hx => (ce x).mono fun e y h => ⟨h.1, h.2 ▸ hx⟩) (by kernel_rfl) (fun _ => by kernel_rfl) ?_; simp only [Act.put, List.getElem_toArray, List.getElem_cons_succ, List.getElem_cons_zero, List.setIfInBounds_toArray, List.set_cons_zero, List.set_cons_succ])
        repeat (first | (apply Text.sees (hw := by kernel_rfl); (focus (intro x hx K hK; have hc := CE.out x hx; go_simp; exact hK)); simp only [Act.put, List.getElem_toArray, List.getElem_cons_succ, List.getElem_cons_zero, List.setIfInBounds_toArray, List.set_cons_zero, List.set_cons_succ]) | (apply Text.idle; (focus (intro x hx K hK; go_simp; exact hK)); simp only [Act.put, List.getElem_toArray, List.getElem_cons_succ, List.getElem_cons_zero, List.setIfInBounds_toArray, List.set_cons_zero, List.set_cons_succ]))
        intro x hx
        have hc := CE.out x hx
        go_wp2
        refine bodyPost_ret (v := .tuple #[.int .i64 ((k : Int) + 1), .int .i64 0]) (by simp [results, Try.results6, go_sem]) rfl ⟨rfl, ?_⟩
        exact tstep b2 hx b2.size
      · rw [nextO_in hm hx (fun h => ht (h.2.trans hlen))]
        have eg : (t == (z : Int)) = false := by simpa using ht
        clear hP hN hi hx hlen c0 c1 ht
        unfold spo
        dsimp only
        go_enter Try.func6, Try.ntmps6
        go_wp2_with fail
        generalize (w.alloc _).alloc _ = W at *
        have CE := Lib.hid fun x (hx : Old W x) => And.intro (Blk.cell3 (Blk.old B2 hx)) (And.intro (c0'.out x (tstep b2 hx b2.size)) eg)
        (refine wp_region_text (Old W) 15 (by kernel_rfl) (by kernel_rfl) (Below.refl _ W).drew ?_; simp only [List.take_succ_cons, List.take_zero, List.drop_succ_cons, List.drop_zero])
        repeat (first | (apply Text.sees (hw := by kernel_rfl); (focus (intro x hx K hK; have hc := CE.out x hx; go_simp; exact hK)); simp only [Act.put, List.getElem_toArray, List.getElem_cons_succ, List.getElem_cons_zero, List.setIfInBounds_toArray, List.set_cons_zero, List.set_cons_succ]) | (apply Text.idle; (focus (intro x hx K hK; go_simp; exact hK)); simp only [Act.put, List.getElem_toArray, List.getElem_cons_succ, List.getElem_cons_zero, List.setIfInBounds_toArray, List.set_cons_zero, List.set_cons_succ]))
        (refine Text.call (fun x hx => (ce x).mono fun e y h => ⟨h.1, h.2 ▸ hx⟩) (by kernel_rfl) (fun _ => by kernel_rfl) ?_; simp only [Act.put, List.getElem_toArray, List.getElem_cons_succ, List.getElem_cons_zero, List.setIfInBounds_toArray, List.set_cons_zero, List.set_cons_succ])
        repeat (first | (apply Text.sees (hw := by kernel_rfl); (focus (intro x hx K hK; have hc := CE.out x hx; go_simp; exact hK)); simp only [Act.put, List.getElem_toArray, List.getElem_cons_succ, List.getElem_cons_zero, List.setIfInBounds_toArray, List.set_cons_zero, List.set_cons_succ]) | (apply Text.idle; (focus (intro x hx K hK; go_simp; exact hK)); simp only [Act.put, List.getElem_toArray, List.getElem_cons_succ, List.getElem_cons_zero, List.setIfInBounds_toArray, List.set_cons_zero, List.set_cons_succ]))
        intro x hx
        have hc := CE.out x hx
        go_wp2_with fail
        go_quiet (fail)
        go_wp2
        refine bodyPost_ret (v := .tuple #[.int .i64 (k : Int), .int .i64 t]) (by simp [results, Try.results6, go_sem]) rfl ⟨rfl, ?_⟩
        exact ndrewN (tstep b2 hx b2.size) _
    · rw [nextO_in hm hx (fun h => hi h.1)]
      rw [Bool.eq_false_iff.2 hi] at ce
      clear hP hN hi hx
      unfold spo
      dsimp only
      go_enter Try.func6, Try.ntmps6
      go_wp2_with fail
      generalize (w.alloc _).alloc _ = W at *
      have CE := Lib.hid fun x (hx : Old W x) => Blk.cell3 (Blk.old B2 hx)
      (refine wp_region_text (Old W) 15 (by kernel_rfl) (by kernel_rfl) (Below.refl _ W).drew ?_; simp only [List.take_succ_cons, List.take_zero, List.drop_succ_cons, List.drop_zero])
      repeat (first | (apply Text.sees (hw := by kernel_rfl); (focus (intro x hx K hK; have hc := CE.out x hx; go_simp; exact hK)); simp only [Act.put, List.getElem_toArray, List.getElem_cons_succ, List.getElem_cons_zero, List.setIfInBounds_toArray, List.set_cons_zero, List.set_cons_succ]) | (apply Text.idle; (focus (intro x hx K hK; go_simp; exact hK)); simp only [Act.put, List.getElem_toArray, List.getElem_cons_succ, List.getElem_cons_zero, List.setIfInBounds_toArray, List.set_cons_zero, List.set_cons_succ]))
      (refine Text.call (fun x hx => (ce x).mono fun e y h => ⟨h.1, h.2 ▸ hx⟩) (by kernel_rfl) (fun _ => by kernel_rfl) ?_; simp only [Act.put, List.getElem_toArray, List.getElem_cons_succ, List.getElem_cons_zero, List.setIfInBounds_toArray, List.set_cons_zero, List.set_cons_succ])
      repeat (first | (apply Text.sees (hw := by kernel_rfl); (focus (intro x hx K hK; have hc := CE.out x hx; go_simp; exact hK)); simp only [Act.put, List.getElem_toArray, List.getElem_cons_succ, List.getElem_cons_zero, List.setIfInBounds_toArray, List.set_cons_zero, List.set_cons_succ]) | (apply Text.idle; (focus (intro x hx K hK; go_simp; exact hK)); simp only [Act.put, List.getElem_toArray, List.getElem_cons_succ, List.getElem_cons_zero, List.setIfInBounds_toArray, List.set_cons_zero, List.set_cons_succ]))
      intro x hx
      have hc := CE.out x hx
      go_wp2_with fail
      go_quiet (fail)
      go_wp2
      refine bodyPost_ret (v := .tuple #[.int .i64 n, .int .i64 t]) (by simp [results, Try.results6, go_sem]) rfl ⟨rfl, ?_⟩
      exact ndrewN (tstep b2 hx b2.size) _
end Go.Proofs.Ytdddhflppngloaa
