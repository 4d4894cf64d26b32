/- The walk of ValidMany. -/
import Derived.Test.YthcgncgnbjhniaaGreatKRck
import Derived.Test.YthcgncgnbjhniaaGreatKAw
import Derived.Test.YthcgncgnbjhniaaGreatDetZ
import Derived.Laws.MakeOwn
namespace Go.Proofs.YthcgncgnbjhniaaGreat
open Go.RowKit
set_option maxRecDepth 20000
set_option linter.unusedVariables false
set_option linter.unusedSimpArgs false

theorem made_at {zs : Array Value} {sz n k j : Nat} (hs : zs.size = sz) (hk : k < n) (hj : j < sz) : (madeCells zs (n * sz))[k * sz + j]? = zs[j]? := by
  have h1 : k * sz + j < n * sz := by
    have := Nat.mul_le_mul_right sz (show k + 1 ≤ n by omega)
    rw [Nat.add_mul] at this
    omega
  have h2 : (k * sz + j) % sz = j := by rw [Nat.mul_comm, Nat.mul_add_mod, Nat.mod_eq_of_lt hj]
  subst hs
  simp [madeCells, h1, h2, hj]
theorem els_made {α : Type} {sz n g : Nat} {enc : α → List Value} {z : α} {zs : Array Value} {w : World} {T : TypeId} (hs : zs.size = sz) (hz : ∀ j : Nat, zs[j]? = (enc z)[j]?) (hb : Blk w g (madeCells zs (n * sz)) T) {F : Nat → α} (hF : ∀ k, k < n → F k = z) :
    Els sz enc w (some ⟨g, 0, none⟩) n F := fun k j hk hj => by
  refine ⟨g, 0, rfl, hb.lt, ?_⟩
  rw [hb.cell, Nat.zero_add, made_at hs hk hj, hF k hk, hz]
def sevenZ : Array Value := #[.int .i64 0, .int .i64 0, .int .i64 0, .int .i64 0, .int .i64 0, .int .i64 0, .int .i64 0]
def threeZ : Array Value := #[.int .i64 0, .int .i64 0, .int .i64 0]
def twoZ : Array Value := #[.slice none 0 0, .slice none 0 0]
/-- A job of so many items, floats and notes, all of zeros. -/
def manyJ (n m k : Nat) (c : Int) : J4 := ⟨⟨c, 0, 0, 0, 0, 0, 0, 0, 0, 0, 0, 0, 0, 0, 0, 0, 0, 0, false⟩, List.replicate n zeroI, List.replicate k zeroN, List.replicate m zeroF⟩
def manyS (n m k g h i : Nat) : S3 := ⟨some ⟨g, 0, none⟩, n, some ⟨i, 0, none⟩, k, some ⟨h, 0, none⟩, m⟩
theorem rep_get {α : Type} (n k : Nat) (z : α) : (List.replicate n z).getD k z = z := by
  rw [List.getD_eq_getElem?_getD, List.getElem?_replicate]
  split <;> rfl
theorem many_lists {n m k g h i : Nat} {c : Int} {w : World} (hc : inR c) (hn : n ≤ 5000) (hm : m ≤ 400) (hk : k ≤ 700) (B1 : Blk w g (madeCells sevenZ (n * 7)) 46) (B2 : Blk w h (madeCells threeZ (m * 3)) 48) (B3 : Blk w i (madeCells twoZ (k * 2)) 44) : Lists w (manyJ n m k c) (manyS n m k g h i) := by
  have z : inR 0 := by decide
  have e1 : (manyJ n m k c).items.length = n := List.length_replicate
  have e2 : (manyJ n m k c).notes.length = k := List.length_replicate
  have e3 : (manyJ n m k c).floats.length = m := List.length_replicate
  refine ⟨⟨⟨hc, z, z, z, z, z, z, z, z, z, z, z, z, z, z, z, z, z⟩, fun t => ?_, fun t => ?_⟩, ?_, ⟨fun _ => ⟨none, 0, 0, none, 0, 0⟩, ?_, fun t ht => ?_⟩, ?_, ?_, ?_, ?_⟩
  · show inI ((List.replicate n zeroI).getD t zeroI)
    rw [rep_get]; exact (zero_in 0).1
  · show inF ((List.replicate m zeroF).getD t zeroF)
    rw [rep_get]; exact (zero_in 0).2
  · rw [e1]
    exact els_made (z := zeroI) rfl (fun j => by simp [sevenZ, encI, zeroI]) B1 fun t ht => rep_get n t zeroI
  · rw [e2]
    exact els_made (z := (⟨none, 0, 0, none, 0, 0⟩ : H2)) rfl (fun j => by simp [twoZ, encH]) B3 fun t ht => rfl
  · show NoteOk w _ ((List.replicate k zeroN).getD t zeroN)
    rw [rep_get]
    exact ⟨rfl, rfl, ⟨Nat.le_refl _, Nat.zero_le _⟩, ⟨Nat.le_refl _, Nat.zero_le _⟩, fun t ht => absurd ht (Nat.not_lt_zero t), fun t ht => absurd ht (Nat.not_lt_zero t)⟩
  · rw [e3]
    exact els_made (z := zeroF) rfl (fun j => by simp [threeZ, encF, zeroF]) B2 fun t ht => rep_get m t zeroF
  · rw [e1]; exact ⟨Nat.le_refl _, by simp only [manyS, maxLen]; omega⟩
  · rw [e2]; exact ⟨Nat.le_refl _, by simp only [manyS, maxLen]; omega⟩
  · rw [e3]; exact ⟨Nat.le_refl _, by simp only [manyS, maxLen]; omega⟩
theorem many_bad (n m k : Nat) (c : Int) : ∃ i, i < 5 ∧ badK (manyJ n m k c) i = true := by
  have hf : fitsE (manyJ n m k c).g 17 = false := fitsE_no (j := 0) (by omega) rfl
  rcases errE_ways (manyJ n m k c).g with e | e | e
  · unfold errE at e
    rw [hf] at e
    cases h : btwE (manyJ n m k c).g.cols 1 8 <;> rw [h] at e <;> cases e
  · exact ⟨3, by omega, badK_yes (by show ¬ wholeK (decide (errE _ = 6)) = -1; rw [whole_0 (p := errE (manyJ n m k c).g = 6) e]; decide)⟩
  · exact ⟨4, by omega, badK_yes (by show ¬ wholeK (decide (errE _ = 7)) = -1; rw [whole_0 (p := errE (manyJ n m k c).g = 7) e]; decide)⟩
theorem err_bad {j : J4} (h : ∃ i, i < 5 ∧ badK j i = true) : (errK j != 0) = true := by
  obtain ⟨i, hi, hb⟩ := h
  have hc : clauseK j < 10 := by
    rcases Nat.lt_or_ge (clauseK j) 10 with h | h
    · exact h
    · have hle := firstK_le (badK j) 10
      have := firstK_before (q := badK j) (n := 10) i (by unfold clauseK at h; omega)
      rw [hb] at this; cases this
  have : ¬ errK j = 0 := by unfold errK; rw [if_pos hc]; omega
  simpa using this
theorem make_of {t e : TypeId} {z : Array Value} {sz by_ : Nat} (ht : Tryz.prog.underlying t = some (.slice e)) (hi : (Tryz.prog.info? e).map (fun i => (i.zero, i.size, i.bytes)) = some (some (.agg z), sz, by_)) (hb : by_ ≤ 64) (n : Nat) (hn : n ≤ 1000000) (x : World) :
    (Instr.makeSlice t (.int .i64 (n : Int)) (.int .i64 (n : Int))).run Tryz.prog x = .ok (.slice (some ⟨x.heap.size, 0, none⟩) n n) (x.alloc (.cells (madeCells z (n * sz)) e)) := by
  obtain ⟨i, hi, hz, z1, z2⟩ := info_parts hi
  have h0 : i.bytes * n ≤ 64000000 := Nat.le_trans (Nat.mul_le_mul (show i.bytes ≤ 64 by omega) hn) (by decide)
  have h1 : (i.bytes : Int) * (n : Int) ≤ 64000000 := by rw [← Int.natCast_mul]; exact Int.ofNat_le.2 h0
  have := run_make (P := Tryz.prog) x t e i _ ht hi hz .i64 .i64 (n : Int) (n : Int) (by omega) (by omega) (by omega) (by omega)
  rw [z1] at this
  have e : (Value.agg z).cells = z := rfl
  simpa [e] using this
theorem exec_make {t e : TypeId} {z : Array Value} {sz by_ : Nat} {o : Oper} {b : Act} {s : Nat} (ho : o.op = .makeSlice t (.tmp s) (.tmp s)) (ht : Tryz.prog.underlying t = some (.slice e)) (hi : (Tryz.prog.info? e).map (fun i => (i.zero, i.size, i.bytes)) = some (some (.agg z), sz, by_)) (hb : by_ ≤ 64) {n : Nat} (hn : n ≤ 1000000) (x : World) (hv : b.tmps.getD s undef = .int .i64 n) :
    (execOp b.eval o).run Tryz.prog x = .ok (.value (.slice (some ⟨x.heap.size, 0, none⟩) n n)) (x.alloc (.cells (madeCells z (n * sz)) e)) := by
  have e : b.eval (.tmp s) = .int .i64 n := hv
  unfold execOp
  simp only [ho, e, Sem.run_bind, make_of ht hi hb n hn x, Result.andThen_ok, Sem.run_pure]
theorem exec_move {o : Oper} {b : Act} {s : Nat} {v : Value} (ho : o.op = .move (.tmp s)) (x : World) (hv : b.tmps.getD s undef = v) : (execOp b.eval o).run Tryz.prog x = .ok (.value v) x := by
  have e : b.eval (.tmp s) = v := hv
  unfold execOp
  simp only [ho, e]
  rfl
theorem exec_conv {o : Oper} {b : Act} {s : Nat} {a : Int} (ho : o.op = .convert 38 3 (.tmp s)) (x : World) (ha : 0 ≤ a ∧ a ≤ 65535) (hv : b.tmps.getD s undef = .int .u16 a) : (execOp b.eval o).run Tryz.prog x = .ok (.value (.int .i64 a)) x := by
  have e : b.eval (.tmp s) = .int .u16 a := hv
  unfold execOp
  simp only [ho, e]
  go_simp
  rw [show IntKind.i64.wrap a = a by rw [IntKind.wrap_i64]; omega]
theorem exec_rem {o : Oper} {b : Act} {s : Nat} {a c n : Int} (ho : o.op = .binOp .rem 3 (.tmp s) (.const (.int .i64 c)) 3) (x : World) (hc : ¬ c = 0) (hn : a.tmod c = n) (hv : b.tmps.getD s undef = .int .i64 a) : (execOp b.eval o).run Tryz.prog x = .ok (.value (.int .i64 n)) x := by
  have e : b.eval (.tmp s) = .int .i64 a := hv
  have e2 : b.eval (.const (.int .i64 c)) = .int .i64 c := rfl
  unfold execOp
  simp only [ho, e, e2]
  go_simp
def manyC (n m k g h i : Nat) : Array Value := geoC zeroG4 ++ #[.slice (some ⟨g, 0, none⟩) n n, .slice (some ⟨i, 0, none⟩) k k, .slice (some ⟨h, 0, none⟩) m m]
theorem manyC_job (n m k g h i : Nat) : manyC n m k g h i = jobC (manyJ n m k 0) (manyS n m k g h i) := by
  unfold jobC
  rw [show (manyJ n m k 0).items.length = n from List.length_replicate, show (manyJ n m k 0).notes.length = k from List.length_replicate, show (manyJ n m k 0).floats.length = m from List.length_replicate]
  rfl
def manyD (i : Nat) : Nat := [17, 18, 19, 20, 21, 22, 23, 24, 25, 26, 27, 28, 29, 8].getD i 0
/-- What each operation of the statement leaves. -/
def manyF (a0 a1 a2 : Int) (n m k B : Nat) : Nat → Value → World → Prop
  | 0, v, _ => v = .int .u16 a0
  | 1, v, _ => v = .int .i64 a0
  | 2, v, _ => v = .int .i64 n
  | 3, v, x => ∃ g, v = .slice (some ⟨g, 0, none⟩) n n ∧ Blk x g (madeCells sevenZ (n * 7)) 46
  | 4, v, _ => v = .int .u16 a1
  | 5, v, _ => v = .int .i64 a1
  | 6, v, _ => v = .int .i64 m
  | 7, v, x => ∃ g, v = .slice (some ⟨g, 0, none⟩) m m ∧ Blk x g (madeCells threeZ (m * 3)) 48
  | 8, v, _ => v = .int .u16 a2
  | 9, v, _ => v = .int .i64 a2
  | 10, v, _ => v = .int .i64 k
  | 11, v, x => ∃ g, v = .slice (some ⟨g, 0, none⟩) k k ∧ Blk x g (madeCells twoZ (k * 2)) 44
  | 12, v, x => ∃ g h i, v = .agg (manyC n m k g h i) ∧ Blk x g (madeCells sevenZ (n * 7)) 46 ∧ Blk x h (madeCells threeZ (m * 3)) 48 ∧ Blk x i (madeCells twoZ (k * 2)) 44
  | 13, v, x => ∃ g, v = .pointer (some ⟨g, 0, none⟩) ∧ B ≤ g ∧ JobAt x g zeroJ zeroS4
  | _, _, _ => True
theorem manyF_old (a0 a1 a2 : Int) (n m k B : Nat) : ∀ i v x y, manyF a0 a1 a2 n m k B i v x → Old x y → manyF a0 a1 a2 n m k B i v y := by
  intro i v x y h hx
  match i, h with
  | 0, h => exact h
  | 1, h => exact h
  | 2, h => exact h
  | 3, ⟨g, e, h⟩ => exact ⟨g, e, h.old hx⟩
  | 4, h => exact h
  | 5, h => exact h
  | 6, h => exact h
  | 7, ⟨g, e, h⟩ => exact ⟨g, e, h.old hx⟩
  | 8, h => exact h
  | 9, h => exact h
  | 10, h => exact h
  | 11, ⟨g, e, h⟩ => exact ⟨g, e, h.old hx⟩
  | 12, ⟨g, h, i, e, h1, h2, h3⟩ => exact ⟨g, h, i, e, h1.old hx, h2.old hx, h3.old hx⟩
  | 13, ⟨g, e, hB, h⟩ => exact ⟨g, e, hB, h.old hx⟩
  | _ + 14, h => exact trivial
theorem dep_of {ops : Array Edge} {j : Nat} (h : (ops.any fun e => Region.binds .any e && decide (e.on = j)) = true) : ∃ e ∈ ops, Region.binds .any e = true ∧ e.on = j := by
  obtain ⟨e, he, hb⟩ := Array.any_eq_true'.1 h
  simp only [Bool.and_eq_true, decide_eq_true_eq] at hb
  exact ⟨e, he, hb⟩
theorem exec_newjob {o : Oper} {b : Act} (ho : o.op = .alloc 29) (z : World) : (execOp b.eval o).run Tryz.prog z = .ok (.value (.pointer (some ⟨z.heap.size, 0, none⟩))) (z.alloc (.cells (jobC zeroJ zeroS4) 29)) := by
  unfold execOp
  simp only [ho]
  simp [go_sem, newVar, jobC, geoC, zeroJ, zeroG4, zeroS4]
theorem rem_nat {a : Int} {c : Nat} (h : 0 ≤ a) : a.tmod (c : Int) = ((a.toNat % c : Nat) : Int) := by
  rw [Int.tmod_eq_emod_of_nonneg h, Int.natCast_emod, Int.toNat_of_nonneg h]
theorem wf16 {a : Int} (h : (Lit.int .u16 a).wf = true) : 0 ≤ a ∧ a ≤ 65535 := by
  simp [Lit.wf, IntKind.min, IntKind.max, IntKind.signed, IntKind.bits] at h
  exact h
set_option maxHeartbeats 4000000 in
theorem validMany_walk (a0 : Int) (h0 : (Lit.int .u16 a0).wf = true) (a1 : Int) (h1 : (Lit.int .u16 a1).wf = true) (a2 : Int) (h2 : (Lit.int .u16 a2).wf = true) (c : Int) (hc : (Lit.int .i64 c).wf = true) (w : World) :
    Calls Tryz.prog 4 #[.agg #[.int .u16 a0, .int .u16 a1, .int .u16 a2], .int .i64 c] w fun e w' => e = .returned (.bool true) ∧ Below w.heap.size w w' := by
  replace h0 := wf16 h0
  replace h1 := wf16 h1
  replace h2 := wf16 h2
  replace hc : inR c := wfR14 hc
  have B0 := blk_new w #[.int .u16 a0, .int .u16 a1, .int .u16 a2] 39
  have b0 := tbel1 w (.cells #[.int .u16 a0, .int .u16 a1, .int .u16 a2] 39)
  go_enter Tryz.func4, Tryz.ntmps4
  go_upto_region 1 with (fail)
  generalize w.alloc _ = U at *
  have CE := Lib.hid fun x (hx : Old U x) => And.intro ((B0.old hx).cell 0) (And.intro ((B0.old hx).cell 1) ((B0.old hx).cell 2))
  (refine wp_region_text (Old U) 8 (by kernel_rfl) (by kernel_rfl) (Below.refl _ U).drew ?_; simp only [List.take_succ_cons, List.take_zero, List.drop_succ_cons, List.drop_zero])
  repeat (first | (apply Text.sees (hw := by kernel_rfl); (focus (intro x hx K hK; have hc := CE.out x hx; go_simp; exact hK)); simp only [Act.put, List.getElem_toArray, List.getElem_cons_succ, List.getElem_cons_zero, List.setIfInBounds_toArray, List.set_cons_zero, List.set_cons_succ]) | (apply Text.idle; (focus (intro x hx K hK; go_simp; exact hK)); simp only [Act.put, List.getElem_toArray, List.getElem_cons_succ, List.getElem_cons_zero, List.setIfInBounds_toArray, List.set_cons_zero, List.set_cons_succ]))
  intro x hx
  replace b0 := tstep b0 hx b0.size
  clear CE B0 hx
  obtain ⟨n, hn, hn2⟩ : ∃ n : Nat, a0.tmod 5000 = n ∧ n ≤ 5000 := ⟨_, rem_nat (c := 5000) h0.1, by omega⟩
  obtain ⟨m, hm, hm2⟩ : ∃ n : Nat, a1.tmod 400 = n ∧ n ≤ 400 := ⟨_, rem_nat (c := 400) h1.1, by omega⟩
  obtain ⟨k, hk, hk2⟩ : ∃ n : Nat, a2.tmod 700 = n ∧ n ≤ 700 := ⟨_, rem_nat (c := 700) h2.1, by omega⟩
  go_upto_region 2 with (fail)
  refine wp_region_facts 14 manyD (manyF a0 a1 a2 n m k x.heap.size) (by kernel_rfl) (by simp) (by kernel_rfl) (manyF_old _ _ _ _ _ _ _) (fun i hi => ?_) ?_
  · have e : i = 0 ∨ i = 1 ∨ i = 2 ∨ i = 3 ∨ i = 4 ∨ i = 5 ∨ i = 6 ∨ i = 7 ∨ i = 8 ∨ i = 9 ∨ i = 10 ∨ i = 11 ∨ i = 12 ∨ i = 13 := by omega
    rcases e with rfl | rfl | rfl | rfl | rfl | rfl | rfl | rfl | rfl | rfl | rfl | rfl | rfl | rfl
    · exact ⟨_, rfl, rfl, fun b z hz ho hd => ⟨rfl, _, z, exec_move rfl z (ho 5 (by decide)), Below.refl _ _, rfl⟩⟩
    · exact ⟨_, rfl, rfl, fun b z hz ho hd => ⟨rfl, _, z, exec_conv rfl z h0 (hd 0 (dep_of (by kernel_rfl))), Below.refl _ _, rfl⟩⟩
    · exact ⟨_, rfl, rfl, fun b z hz ho hd => ⟨rfl, _, z, exec_rem rfl z (by decide) hn (hd 1 (dep_of (by kernel_rfl))), Below.refl _ _, rfl⟩⟩
    · exact ⟨_, rfl, rfl, fun b z hz ho hd => ⟨rfl, _, _, exec_make (z := sevenZ) rfl Tryz.underlying25 infoI7 (by decide) (by omega) z (hd 2 (dep_of (by kernel_rfl))), tbel1 z _, ⟨_, rfl, blk_new z _ _⟩⟩⟩
    · exact ⟨_, rfl, rfl, fun b z hz ho hd => ⟨rfl, _, z, exec_move rfl z (ho 6 (by decide)), Below.refl _ _, rfl⟩⟩
    · exact ⟨_, rfl, rfl, fun b z hz ho hd => ⟨rfl, _, z, exec_conv rfl z h1 (hd 4 (dep_of (by kernel_rfl))), Below.refl _ _, rfl⟩⟩
    · exact ⟨_, rfl, rfl, fun b z hz ho hd => ⟨rfl, _, z, exec_rem rfl z (by decide) hm (hd 5 (dep_of (by kernel_rfl))), Below.refl _ _, rfl⟩⟩
    · exact ⟨_, rfl, rfl, fun b z hz ho hd => ⟨rfl, _, _, exec_make (z := threeZ) rfl Tryz.underlying27 infoF3 (by decide) (by omega) z (hd 6 (dep_of (by kernel_rfl))), tbel1 z _, ⟨_, rfl, blk_new z _ _⟩⟩⟩
    · exact ⟨_, rfl, rfl, fun b z hz ho hd => ⟨rfl, _, z, exec_move rfl z (ho 7 (by decide)), Below.refl _ _, rfl⟩⟩
    · exact ⟨_, rfl, rfl, fun b z hz ho hd => ⟨rfl, _, z, exec_conv rfl z h2 (hd 8 (dep_of (by kernel_rfl))), Below.refl _ _, rfl⟩⟩
    · exact ⟨_, rfl, rfl, fun b z hz ho hd => ⟨rfl, _, z, exec_rem rfl z (by decide) hk (hd 9 (dep_of (by kernel_rfl))), Below.refl _ _, rfl⟩⟩
    · exact ⟨_, rfl, rfl, fun b z hz ho hd => ⟨rfl, _, _, exec_make (z := twoZ) rfl Tryz.underlying26 infoH2 (by decide) (by omega) z (hd 10 (dep_of (by kernel_rfl))), tbel1 z _, ⟨_, rfl, blk_new z _ _⟩⟩⟩
    · refine ⟨_, rfl, rfl, fun b z hz ho hd => ?_⟩
      obtain ⟨g, e3, B1⟩ := hd 3 (dep_of (by kernel_rfl))
      obtain ⟨h, e7, B2⟩ := hd 7 (dep_of (by kernel_rfl))
      obtain ⟨i, e11, B3⟩ := hd 11 (dep_of (by kernel_rfl))
      refine ⟨rfl, _, z, build_val z 29 _ rfl (manyC n m k g h i) ?_, Below.refl _ _, ⟨g, h, i, rfl, B1, B2, B3⟩⟩
      simp only [List.map_toArray, List.map_cons, List.map_nil]
      show Tryz.prog.built 29 [(1, b.tmps.getD (manyD 3) undef), (3, b.tmps.getD (manyD 7) undef), (2, b.tmps.getD (manyD 11) undef)] = some (manyC n m k g h i)
      rw [e3, e7, e11]
      kernel_rfl
    · exact ⟨_, rfl, rfl, fun b z hz ho hd => ⟨rfl, _, _, exec_newjob rfl z, tbel1 z _, ⟨_, rfl, hz.size, job_new z zeroJ zeroS4⟩⟩⟩
  intro v y hy hf
  obtain ⟨g, h, i, e12, B1, B2, B3⟩ := hf 12 (by omega)
  obtain ⟨q, e13, hq, D⟩ := hf 13 (by omega)
  clear hf
  rw [manyC_job] at e12
  simp only [putAll, manyD, List.getD_cons_succ, List.getD_cons_zero, e12, e13]
  simp only [Act.put, List.getElem_toArray, List.getElem_cons_succ, List.getElem_cons_zero, List.setIfInBounds_toArray, List.set_cons_zero, List.set_cons_succ]
  simp only [List.drop_succ_cons, List.drop_zero]
  refine store_job (j := manyJ n m k 0) (s := manyS n m k g h i) (j' := zeroJ) (s' := zeroS4) rfl (.tmp 8) (.tmp 29) rfl rfl rfl D ?_
  simp only [Act.put, List.getElem_toArray, List.getElem_cons_succ, List.getElem_cons_zero, List.setIfInBounds_toArray, List.set_cons_zero, List.set_cons_succ]
  have hqw : w.heap.size ≤ q := Nat.le_trans b0.size hq
  replace B1 := Blk.row_other B1 (Blk.ne B1 D (by decide)) (jobC (manyJ n m k 0) (manyS n m k g h i))
  replace B2 := Blk.row_other B2 (Blk.ne B2 D (by decide)) (jobC (manyJ n m k 0) (manyS n m k g h i))
  replace B3 := Blk.row_other B3 (Blk.ne B3 D (by decide)) (jobC (manyJ n m k 0) (manyS n m k g h i))
  replace b0 := below_row (tstep b0 hy b0.size) (Nat.le_trans b0.size hq) (jobC (manyJ n m k 0) (manyS n m k g h i))
  replace D := D.row (manyJ n m k 0) (manyS n m k g h i)
  clear hy e12 e13
  generalize y.setRow _ _ = Y at *
  have t0 := D.geo.1
  have f0 := Blk.free D 0
  go_upto_region 4 with (fail)
  clear t0 f0
  replace B1 := Blk.other B1 (Blk.ne B1 D (by decide)) 0 (.int .i64 c)
  replace B2 := Blk.other B2 (Blk.ne B2 D (by decide)) 0 (.int .i64 c)
  replace B3 := Blk.other B3 (Blk.ne B3 D (by decide)) 0 (.int .i64 c)
  replace b0 := b0.setCell (p := ⟨q, 0, none⟩) hqw (.int .i64 c)
  replace D : JobAt (Y.setCell ⟨q, 0, none⟩ (.int .i64 c)) q (manyJ n m k c) (manyS n m k g h i) := Blk.set D 0 _
  generalize Y.setCell _ _ = Z at *
  have L := many_lists hc hn2 hm2 hk2 B1 B2 B3
  have C1 := Lib.hid fun x (hx : Below Z.heap.size Z x) => vcheck_any (manyJ n m k c) (manyS n m k g h i) x (L.carry hx) (.inr (many_bad n m k c))
  have C2 := Lib.hid fun x (hx : Below Z.heap.size Z x) => rcheck_any (manyJ n m k c) (manyS n m k g h i) x (L.carry hx) (.inr (many_bad n m k c))
  have he := err_bad (many_bad n m k c)
  have ca := Lib.hid awake15
  clear L B1 B2 B3 hqw hq hn hm hk hn2 hm2 hk2 h0 h1 h2 hc
  generalize errK (manyJ n m k c) = E at *
  generalize atK (manyJ n m k c) = A at *
  (refine wp_region_plain (Old Z) 2 (Below.refl _ Z) ?_; simp only [List.take_succ_cons, List.take_zero, List.drop_succ_cons, List.drop_zero])
  (refine Text.val (fun x hx => load_job (.tmp 8) rfl rfl (D.old hx)) (by kernel_rfl) ?_; simp only [Act.put, List.getElem_toArray, List.getElem_cons_succ, List.getElem_cons_zero, List.setIfInBounds_toArray, List.set_cons_zero, List.set_cons_succ])
  (refine Text.call (Old.call fun x hx => C1.out x hx) (by kernel_rfl) (fun _ => by kernel_rfl) ?_; simp only [Act.put, List.getElem_toArray, List.getElem_cons_succ, List.getElem_cons_zero, List.setIfInBounds_toArray, List.set_cons_zero, List.set_cons_succ])
  intro z hz
  go_upto_region 5 with (fail)
  replace D := D.old hz
  replace b0 := tstep b0 hz b0.size
  have C2' := Lib.hid fun x (hx : Old z x) => C2.out x (tstep hz hx hz.size)
  clear hz C1 C2
  (refine wp_region_plain (Old z) 13 (Below.refl _ z) ?_; simp only [List.take_succ_cons, List.take_zero, List.drop_succ_cons, List.drop_zero])
  (refine Text.val (fun x hx => load_job (.tmp 8) rfl rfl (D.old hx)) (by kernel_rfl) ?_; simp only [Act.put, List.getElem_toArray, List.getElem_cons_succ, List.getElem_cons_zero, List.setIfInBounds_toArray, List.set_cons_zero, List.set_cons_succ])
  (refine Text.call (Old.call fun x hx => C2'.out x hx) (by kernel_rfl) (fun _ => by kernel_rfl) ?_; simp only [Act.put, List.getElem_toArray, List.getElem_cons_succ, List.getElem_cons_zero, List.setIfInBounds_toArray, List.set_cons_zero, List.set_cons_succ])
  repeat (first | (apply Text.sees (hw := by kernel_rfl); (focus (intro x hx K hK; have hc := (fun _ _ => he) x hx; go_simp; exact hK)); simp only [Act.put, List.getElem_toArray, List.getElem_cons_succ, List.getElem_cons_zero, List.setIfInBounds_toArray, List.set_cons_zero, List.set_cons_succ]) | (apply Text.idle; (focus (intro x hx K hK; go_simp; exact hK)); simp only [Act.put, List.getElem_toArray, List.getElem_cons_succ, List.getElem_cons_zero, List.setIfInBounds_toArray, List.set_cons_zero, List.set_cons_succ]))
  (refine Text.call (Old.call fun x hx => ca.out x) (by kernel_rfl) (fun _ => by kernel_rfl) ?_; simp only [Act.put, List.getElem_toArray, List.getElem_cons_succ, List.getElem_cons_zero, List.setIfInBounds_toArray, List.set_cons_zero, List.set_cons_succ])
  repeat (first | (apply Text.sees (hw := by kernel_rfl); (focus (intro x hx K hK; have hc := (fun _ _ => he) x hx; go_simp; exact hK)); simp only [Act.put, List.getElem_toArray, List.getElem_cons_succ, List.getElem_cons_zero, List.setIfInBounds_toArray, List.set_cons_zero, List.set_cons_succ]) | (apply Text.idle; (focus (intro x hx K hK; go_simp; exact hK)); simp only [Act.put, List.getElem_toArray, List.getElem_cons_succ, List.getElem_cons_zero, List.setIfInBounds_toArray, List.set_cons_zero, List.set_cons_succ]))
  intro x2 hx2
  go_wp2
  go_ret
  exact ⟨rfl, tstep b0 hx2 b0.size⟩
end Go.Proofs.YthcgncgnbjhniaaGreat
