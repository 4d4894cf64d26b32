/- The document's Job. -/
import Derived.Test.YtjfjekncmejfpaaQRit
import Derived.Test.YtjfjekncmejfpaaJRs2
import Derived.Lib.SlBytesConst
namespace Go.Proofs.Ytjfjekncmejfpaa
open Go.RowKit
set_option maxRecDepth 20000
set_option linter.unusedVariables false
set_option linter.unusedSimpArgs false

def noteF (n : N2) : List Int := (([(n.l.length : Int)] ++ n.l) ++ [(n.p.length : Int)]) ++ n.p
theorem noteF_enc (n : N2) : noteE n = (noteF n).flatMap chZ := by simp [noteE, noteF, listE]
/-- A list one number longer. -/
theorem take_snocQ (A l : List Int) (k : Nat) (h : k < l.length) : A ++ l.take (k + 1) = (A ++ l.take k) ++ [l.getD k 0] := by
  rw [List.take_succ_eq_append_getElem h, List.append_assoc]
  simp [h]
theorem run_build4 (x : World) : (Instr.buildSlice 22 4 #[(0, .int .u8 84), (1, .int .u8 89), (2, .int .u8 77), (3, .int .u8 49)]).run Try.prog x = .ok (.slice (some ⟨x.heap.size, 0, none⟩) 4 4) (x.alloc (.cells #[.int .u8 84, .int .u8 89, .int .u8 77, .int .u8 49] 5)) := by
  simp [go_sem]
theorem run_build3 (c h p : Int) (x : World) : (Instr.buildSlice 100 3 #[(0, .int .i64 c), (1, .int .i64 h), (2, .int .i64 p)]).run Try.prog x = .ok (.slice (some ⟨x.heap.size, 0, none⟩) 3 3) (x.alloc (.cells #[.int .i64 c, .int .i64 h, .int .i64 p] 2)) := by
  simp [go_sem]
theorem exec_build3 (o : Oper) (a : Act) (s r t : Operand) {c h p : Int} (ho : o.op = .buildSlice 100 3 #[(0, s), (1, r), (2, t)]) (hs : a.eval s = .int .i64 c) (hr : a.eval r = .int .i64 h) (ht : a.eval t = .int .i64 p) (x : World) :
    (execOp a.eval o).run Try.prog x = .ok (.value (.slice (some ⟨x.heap.size, 0, none⟩) 3 3)) (x.alloc (.cells #[.int .i64 c, .int .i64 h, .int .i64 p] 2)) := by
  unfold execOp
  simp only [ho, List.map_toArray, List.map_cons, List.map_nil, hs, hr, ht, Sem.run_bind, run_build3, Result.andThen_ok, Sem.run_pure]
theorem exec_build4 (o : Oper) (a : Act) (ho : o.op = .buildSlice 22 4 #[(0, .const (.int .u8 84)), (1, .const (.int .u8 89)), (2, .const (.int .u8 77)), (3, .const (.int .u8 49))]) (x : World) :
    (execOp a.eval o).run Try.prog x = .ok (.value (.slice (some ⟨x.heap.size, 0, none⟩) 4 4)) (x.alloc (.cells #[.int .u8 84, .int .u8 89, .int .u8 77, .int .u8 49] 5)) := by
  unfold execOp
  simp only [ho, List.map_toArray, List.map_cons, List.map_nil, Act.eval, Sem.run_bind, run_build4, Result.andThen_ok, Sem.run_pure]
/-- The conversion of a literal to its own type: the run-time's mark. -/
theorem exec_conv (o : Oper) (a : Act) (x : Operand) (C : Array Value) (n c : Nat) (w : World) (ho : o.op = .convert 22 22 x) (hx : a.eval x = .slice (some ⟨w.heap.size, 0, none⟩) n c) : (execOp a.eval o).run Try.prog (w.alloc (.cells C 5)) = .ok (.value (.slice (some ⟨w.heap.size, 0, none⟩) n c)) (w.alloc (.cells C 5 (C.size, C.size + 1))) := by
  have h := Lib.run_convert_bytes_const (P := Try.prog) w 22 5 C n c Try.underlying22 Try.underlying5
  unfold execOp
  simp only [ho, hx, Sem.run_bind, h, Result.andThen_ok, Sem.run_pure]
theorem row_marked (x : World) (k : Nat × Nat) : Row (x.alloc (.cells #[.int .u8 84, .int .u8 89, .int .u8 77, .int .u8 49] 5 k)) (some ⟨x.heap.size, 0, none⟩) 4 [84, 89, 77, 49] := ⟨Nat.le_refl _, fun j hj => ⟨x.heap.size, 0, rfl, by simp, by
  have hj' : j = 0 ∨ j = 1 ∨ j = 2 ∨ j = 3 := by simp at hj; omega
  have h := heap_alloc_new x (.cells #[.int .u8 84, .int .u8 89, .int .u8 77, .int .u8 49] 5 k)
  rcases hj' with rfl | rfl | rfl | rfl <;> (simp only [World.cell?, h]; rfl)⟩⟩
/-- An append onto a slice that has no room. -/
theorem run_app_full (w : World) (ty : TypeId) (b : Addr) (l m : List Int) (a : Option Addr) (c : Nat) (hl : Row w (some b) l.length l) (hm : Row w a c m) (hne : 0 < m.length) (hs : l.length + m.length ≤ 1000000) {B : Nat} (hB : B ≤ w.heap.size) :
    ∃ v' w', (Builtin.append_ #[22, 22] ty #[.slice (some b) l.length l.length, .slice a m.length c]).run Try.prog w = .ok v' w' ∧ Own w' B v' (l ++ m) ∧ Below w.heap.size w w' := by
  obtain ⟨i, hi, hz, h1, h2⟩ := info_parts info5
  obtain ⟨b', off, rfl, _⟩ := hm.2 0 hne
  have cells : ∀ {q : List Int} {p : Addr} {cc : Nat}, Row w (some p) cc q → ∀ j v, (q.map (Value.int .u8))[j]? = some v → w.cell? (p.add j) = some v := fun {q p cc} hq j v hj => by
    have hj' : j < q.length := by
      rcases Nat.lt_or_ge j q.length with h | h
      · exact h
      · simp [h] at hj
    obtain ⟨b', off', e, _, hc⟩ := hq.2 j hj'
    cases e
    rw [Go.WideShapes.add_plain, hc, ← hj]
    simp [hj']
  have hr := run_append_grow (P := Try.prog) w 22 ty 5 i _ Try.underlying22 hi hz b l.length l.length (l.map (Value.int .u8)) (by rw [h1]; simp) (cells hl) ⟨b', off, none⟩ m.length c (m.map (Value.int .u8)) (by rw [h1]; simp) (cells hm) (by omega) (by omega) (growslice_fits (by omega) (by rw [h2]; omega))
  refine ⟨_, _, hr, ⟨by simp, .inr ⟨w.heap.size, _, _, by rw [List.length_append], hB, heap_alloc_new w.drew _, by rw [List.length_append]; exact grownCap_ge _ _ _ _, grownCap_le_maxLen w (l.length + m.length) l.length 5 (by simp only [maxLen]; omega), ?_, ?_⟩⟩, ((Below.refl _ w).drew).alloc (Nat.le_refl _) _⟩
  · have hge := grownCap_ge w (l.length + m.length) l.length 5
    simp only [Array.size_append, List.size_toArray, size_zeroCells, List.length_map]
    have : (Value.int .u8 0).cells.size = 1 := rfl
    rw [this]
    omega
  · simp only [Array.toList_append]
    rw [List.map_append, Nat.mul_one]
    exact List.take_left' (by simp)
theorem wpList_app_full {w : World} {ops : Array Oper} {rest : List Oper} {o : Oper} {a : Act} {Q : Exit → Act → World → Prop} (hgd : o.guard = none) (s x : Operand)
    (ho : o.op = .call { callee := .builtin .append, args := #[s, x], argTypes := #[22, 22] }) {b : Addr} {l m : List Int} {ad : Option Addr} {c B : Nat} (hs : a.eval s = .slice (some b) l.length l.length) (hx : a.eval x = .slice ad m.length c) (hl : Row w (some b) l.length l) (hm : Row w ad c m) (hne : 0 < m.length) (hsz : l.length + m.length ≤ 1000000) (hB : B ≤ w.heap.size)
    (h : ∀ v' w', Own w' B v' (l ++ m) → Below w.heap.size w w' → wpList Try.prog ops Q rest (a.put o.dst v') w') : wpList Try.prog ops Q (o :: rest) a w := by
  obtain ⟨v', w', hr, h2, h3⟩ := run_app_full w o.type b l m ad c hl hm hne hsz hB
  refine wpList_plain hgd fun _ hK => ?_
  unfold Oper.wp execOp
  simp only [ho, resolve, invoke, builtin, Sem.run_bind, Sem.run_pure, Result.andThen_ok, List.map_toArray, List.map_cons, List.map_nil, hs, hx, hr]
  exact hK _ _ (h v' w' h2 h3)
set_option maxHeartbeats 4000000 in
theorem rJob_any (j : J4) (s : S3) (w : World) (hL : Lists w j s) (hf : Mid j) :
    Calls Try.prog 19 #[.agg (jobC j s)] w fun e w' => ∃ a c, e = .returned (.agg #[.slice a (jobB j).length c, .bool (isB (∀ x ∈ j.items, bareI x))]) ∧ Row w' a c (jobB j) ∧ Below w.heap.size w w' := by
  have b0 := tbel2 w (.cells (jobC j s) 31) (.cells #[.slice none 0 0, .bool false] 66)
  have D0 := (job_new w j s).old (tbel1 (w.alloc (.cells (jobC j s) 31)) (.cells #[.slice none 0 0, .bool false] 66))
  have Z0 := blk_two w (.cells (jobC j s) 31) #[.slice none 0 0, .bool false] 66
  have hU : ((w.alloc (.cells (jobC j s) 31)).alloc (.cells #[.slice none 0 0, .bool false] 66)).heap.size = w.heap.size + 2 := by simp
  have HL := Lib.hid fun y (hy : Below w.heap.size w y) => hL.carry hy
  have HF := Lib.hid hf
  have hJn : isB (∀ x ∈ j.items, bareI x) = false → jobB j = [] := fun h => by unfold jobB; rw [h, cond_false]
  have hJy : isB (∀ x ∈ j.items, bareI x) = true → jobB j = jobE j := fun h => by unfold jobB; rw [h, cond_true]
  have hIy : isB (∀ x ∈ j.items, bareI x) = true → itemsB j.items = listE itemE j.items := fun h => by unfold itemsB; rw [h, cond_true]
  have hIl : (itemsB j.items).length ≤ 210010 := by
    unfold itemsB
    by_cases h : ∀ x ∈ j.items, bareI x
    · rw [isB_yes h, cond_true]; exact items_le hL.ins.2.1 h hf.1 (by omega)
    · rw [isB_no h]; simp
  have ci := rItems_any s.ia s.ic j.items _ hL.ins.2.1 (by have := hf.1; omega) (hL.carry b0).items
  clear hL hf
  obtain ⟨R, hR⟩ : ∃ R, R = isB (∀ x ∈ j.items, bareI x) := ⟨_, rfl⟩
  rw [← hR] at hJn hJy hIy ci ⊢
  have HJn := Lib.hid hJn
  have HJy := Lib.hid hJy
  have HIy := Lib.hid hIy
  have HR := Lib.hid hR
  clear hJn hJy hIy hR
  generalize jobB j = J at *
  generalize itemsB j.items = TI at *
  go_enter Try.func19, Try.ntmps19
  go_upto_region 1 with (fail)
  generalize (w.alloc _).alloc _ = U at *
  obtain ⟨q19, q20, q21⟩ := D0.three
  go_wp2_with fail
  refine ci.mono ?_
  rintro e w1 ⟨a1, c1, rfl, r1, b1⟩
  have hs1 := b1.size
  have bx := tbel1 w1 (.cells #[.slice a1 TI.length c1, .bool R] 66)
  have Q := blk_new w1 #[.slice a1 TI.length c1, .bool R] 66
  have b2 := tstep b1 bx hs1
  clear ci q19 q20 q21
  go_upto_region 2 with (fail)
  generalize w1.alloc _ = w2 at *
  obtain ⟨p0, p1⟩ := Q.two
  cases R
  · have HN := Lib.hid (HJn.out rfl)
    have Z2 := Z0.old b2
    obtain ⟨z0, z1⟩ := Z2.two
    have f0 := Z2.free 0
    have f1 := Z2.free 1
    have bw : Below w.heap.size w w2 := Below.trans b0 (b2.mono (by omega))
    clear Z2 Z0 D0 b1 b2 bx b0 Q r1 hs1
    go_wp2
    refine bodyPost_ret (v := .agg #[.slice none 0 0, .bool false]) (by simp [results, Try.results19, go_sem, *]) rfl ⟨none, 0, by rw [HN.out]; rfl, by rw [HN.out]; exact Row.none _ _, ?_⟩
    exact (bw.setCell (p := ⟨w.heap.size + 1, 0, none⟩) (by simp) _).setCell (p := ⟨w.heap.size + 1, 1, none⟩) (by simp) _
  · have hTI := HIy.out rfl
    subst hTI
    go_upto_region 4 with (fail)
    have D2 := D0.old b2
    have D0' := D0
    have hUw := hU
    have cg := rGeom_any j.g (HL.out w (Below.refl _ _)).ins.1
    have lg := chains18 (HL.out w (Below.refl _ _)).ins.1
    have b3 := tbel1 w2 (.cells #[.int .u8 84, .int .u8 89, .int .u8 77, .int .u8 49] 5 (4, 5))
    have D3 := D2.old b3
    have Q3 := Q.old b3
    have r3 := ((r1.carry bx).carry b3)
    have rm := row_marked w2 (4, 5)
    have b4 := tstep b2 b3 b2.size
    have lg0 : 0 < (geomE j.g).length := by unfold geomE; simp
    clear p0 p1 Q r1 bx D2 D0 b1 hs1
    refine wp_region_lit ?_
    refine wpl_val rfl (exec_build4 _ _ rfl w2) ?_
    simp only [Act.put, List.getElem_toArray, List.getElem_cons_succ, List.getElem_cons_zero, List.setIfInBounds_toArray, List.set_cons_zero, List.set_cons_succ]
    refine wpl_val rfl (exec_conv _ _ (.tmp 17) _ 4 4 w2 rfl rfl) ?_
    simp only [Act.put, List.getElem_toArray, List.getElem_cons_succ, List.getElem_cons_zero, List.setIfInBounds_toArray, List.set_cons_zero, List.set_cons_succ]
    change wpList _ _ _ _ _ (w2.alloc (.cells #[.int .u8 84, .int .u8 89, .int .u8 77, .int .u8 49] 5 (4, 5)))
    generalize w2.alloc _ = w3 at *
    refine wpl_val (w' := w3) (v := .pointer (some ⟨w.heap.size, 0, none⟩)) rfl (by kernel_rfl) ?_
    simp only [Act.put, List.getElem_toArray, List.getElem_cons_succ, List.getElem_cons_zero, List.setIfInBounds_toArray, List.set_cons_zero, List.set_cons_succ]
    refine wpl_load_jgeo rfl (.tmp 19) rfl rfl D3 ?_
    simp only [Act.put, List.getElem_toArray, List.getElem_cons_succ, List.getElem_cons_zero, List.setIfInBounds_toArray, List.set_cons_zero, List.set_cons_succ]
    go_upto_region 5 with (first
      | (go_at_call 46; refine (cg _).mono ?_; rintro e w4 ⟨a4, c4, rfl, r4, b5⟩; have rm4 := rm.carry b5; have b6 := tstep b4 b5 b4.size; have b5o := b5; clear rm b4)
      | (at_builtin; go_loud (refine wpList_app_full rfl (.tmp 18) (.tmp 21) rfl rfl rfl (l := [84, 89, 77, 49]) rm4 r4 lg0 (by simp only [List.length_cons, List.length_nil]; omega) b6.size ?_; intro v5 w5 o5 b7)))
    have b35 := tstep b5o b7 b5o.size
    have Q5 := Q3.old b35
    have r5 := r3.carry b35
    have b8 := tstep b6 b7 b6.size
    obtain ⟨p0, p1⟩ := Q5.two
    have HD := Lib.hid D0'
    have HZ := Lib.hid Z0
    have bU := Lib.hid (show U.heap.size ≤ w5.heap.size from b8.size)
    have hOU : ([84, 89, 77, 49] ++ geomE j.g).length ≤ 200 := by simp only [List.length_append, List.length_cons, List.length_nil]; omega
    generalize hO1 : [84, 89, 77, 49] ++ geomE j.g = O1 at *
    have HO1 := Lib.hid hO1
    generalize hIE : listE itemE j.items = IE at *
    have HIE := Lib.hid hIE
    clear cg lg lg0 D3 Q3 r3 r4 b5 rm4 b6 b5o b7 b35 b3 hO1 hIE HIy b2 hU Q5 Z0 D0'
    go_upto_region 6 with (at_builtin; refine wpList_app rfl (.tmp 23) (.tmp 25) rfl rfl o5 rfl r5 (by omega) b8 (by exact bU.out) ?_; intro v6 w6 o6 b9)
    clear r5 o5 b8 p0 p1 bU
    have hU := hUw
    have hB := b9.size
    have c6 := fun V => rqints_any (some ⟨V.heap.size, 0, none⟩) 1 [(j.notes.length : Int)] (fun x hx => by rw [List.mem_singleton.1 hx]; unfold inR; have := HF.out.2.1; omega) (by simp) (V.alloc (.cells ([(j.notes.length : Int)].map (Value.int .i64)).toArray 2)) (row_lit V [(j.notes.length : Int)])
    rw [show [(j.notes.length : Int)].flatMap chZ = chZ (j.notes.length : Int) by simp] at c6
    simp only [List.map_cons, List.map_nil, List.length_singleton] at c6
    have l6 := chZ_ten (n := (j.notes.length : Int)) (by unfold inR; have := HF.out.2.1; omega)
    have HN1 : Hid (listE noteE j.notes = chZ (j.notes.length : Int) ++ j.notes.flatMap noteE) := Lib.hid rfl
    generalize chZ (j.notes.length : Int) = C6 at *
    obtain ⟨q19, q20, q21⟩ := (HD.out.below b9 (by omega)).three
    have bl6 := tbel1 w6 (.cells #[.int .i64 (j.notes.length : Int)] 2)
    go_upto_region 7 with (first
      | (go_at_call 47; refine (c6 _).mono ?_; rintro e w7 ⟨v7, rfl, o7, b10⟩; obtain ⟨a7, c7, rfl, r7⟩ := own_row o7; have hw7 := tstep bl6 b10 bl6.size; have o6' := o6.carry hw7; have b11 := tstep b9 hw7 hB; clear o7 b10)
      | (at_builtin; refine wpList_app rfl (.tmp 27) (.tmp 32) rfl rfl o6' rfl r7 (by simp only [List.length_append]; omega) b11 b11.size ?_; intro v8 w8 o8 b12))
    clear q19 q20 q21 c6 bl6 o6 b9 hB
    clear hw7 o6' r7 b11
    go_wp2_with fail
    have hBw : w.heap.size ≤ U.heap.size := by omega
    have lO2 : (O1 ++ IE ++ C6).length ≤ 210300 := by simp only [List.length_append]; omega
    generalize hO2 : O1 ++ IE ++ C6 = O2 at *
    have HO2 := Lib.hid hO2
    have HU2 := Lib.hid hUw
    clear hO2 hU
    have hD0 : w.heap.size < U.heap.size := by omega
    have hZ0 : w.heap.size + 1 < U.heap.size := by omega
    have HBe := Lib.hid (And.intro hD0 hZ0)
    have HBw := Lib.hid hBw
    clear hD0 hZ0 hBw hUw
    have HTB := Lib.hid fun k => Nat.le_trans (take_le noteE j.notes k) HF.out.2.2.2.2
    have HTS := Lib.hid (take_step noteE zeroN j.notes)
    go_loopw [4, 5] (fun v i wr => ∃ k : Nat, k ≤ j.notes.length ∧ i = .int .i64 k ∧ Own wr U.heap.size v (O2 ++ (j.notes.take k).flatMap noteE) ∧ Below U.heap.size U wr) (fun _ i _ => j.notes.length - (intOf i).toNat)
    case atStart => exact ⟨0, Nat.zero_le _, rfl, by simpa [Own] using o8, b12⟩
    case round =>
      clear o8 b12
      obtain ⟨k, hk, rfl, hown, hbl⟩ := hrel
      obtain ⟨V, hV⟩ : ∃ V, V = wr := ⟨_, rfl⟩
      subst hV
      have bw := Below.trans b0 (hbl.mono HBw.out)
      have hBrV := Lib.hid (hbl.size : U.heap.size ≤ V.heap.size)
      have DV := HD.out.below hbl HBe.out.1
      obtain ⟨q19, q20, q21⟩ := DV.three
      by_cases hlt : k < j.notes.length
      · obtain ⟨hs, hsE, hsN⟩ := (HL.out V bw).notes
        obtain ⟨b1, o1, e1, hB1, p0, p1⟩ := els2 hsE hlt
        have hN := hsN k hlt
        have hF := HF.out.2.2.2.1 k
        have hBd := HTB.out k
        have hnl := HF.out.2.1
        have HN := Lib.hid (HTS.out k hlt)
        generalize j.notes.getD k zeroN = n at *
        generalize hs k = h at *
        clear hsE hsN
        obtain ⟨la, ll, lc, pa, pl, pc⟩ := h
        obtain ⟨L, P⟩ := n
        obtain ⟨g1, g2, _, _, r1, r2⟩ := hN
        dsimp only at *
        subst g1 g2
        have il := row_in r1
        have ip := row_in r2
        have cin : ∀ x ∈ noteF ⟨L, P⟩, inR x := by
          intro x hx
          simp only [noteF, List.mem_append, List.mem_singleton] at hx
          rcases hx with ((rfl | hx) | rfl) | hx
          · unfold inR; omega
          · exact il x hx
          · unfold inR; omega
          · exact ip x hx
        have clen : (noteF ⟨L, P⟩).length ≤ 6002 := by simp only [noteF, List.length_append, List.length_singleton]; omega
        have c3 := fun a c w hr => rqints_any a c _ cin (by omega) w hr
        have lE := noteE_le (n := ⟨L, P⟩) il ip hF.1 hF.2 (by omega)
        rw [← noteF_enc] at c3
        have HFN : Hid (noteF ⟨L, P⟩ = (([(L.length : Int)] ++ L) ++ [(P.length : Int)]) ++ P) := Lib.hid rfl
        generalize noteE ⟨L, P⟩ = NE at *
        rw [e1] at q20
        have CE := Lib.hid fun y (hy : Below V.heap.size V y) => And.intro (by have := (DV.old hy).three.2.1; rw [e1] at this; exact this : y.cell? ⟨w.heap.size, 20, none⟩ = some (.slice (some ⟨b1, o1, none⟩) j.notes.length s.nc)) (And.intro ((hy.cell (p := ⟨b1, o1 + k * 2, none⟩) hB1).trans p0) ((hy.cell (p := ⟨b1, o1 + k * 2 + 1, none⟩) hB1).trans p1))
        have R1 := Lib.hid fun y (hy : Below V.heap.size V y) => r1.carry hy (Nat.le_refl _)
        have R2 := Lib.hid fun y (hy : Below V.heap.size V y) => r2.carry hy (Nat.le_refl _)
        have O10 := own_lit V [(L.length : Int)] (by simp)
        simp only [List.map_cons, List.map_nil, List.length_singleton] at O10
        have bx := tbel1 V (.cells #[.int .i64 (L.length : Int)] 2)
        clear e1 r1 r2 DV q19 q21 cin il ip
        go_wp2_with fail
        clear q20 p0 p1
        go_loopw [6, 7] (fun v i wr => ∃ m : Nat, m ≤ L.length ∧ i = .int .i64 m ∧ OwnK .i64 2 wr V.heap.size v ([(L.length : Int)] ++ L.take m) ∧ Below V.heap.size V wr) (fun _ i _ => L.length - (intOf i).toNat)
        case atStart => exact ⟨0, Nat.zero_le _, rfl, by simpa [OwnK] using O10, bx⟩
        case round =>
          clear O10 bx
          obtain ⟨m, hm, rfl, ho, hb⟩ := hrel
          obtain ⟨q20, p0, p1⟩ := CE.out wr hb
          have hbs := hb.size
          by_cases hml : m < L.length
          · obtain ⟨_, b2, o2, rfl, hB2, hc⟩ := R1.out wr hb m hml
            have HS := Lib.hid (take_snocQ [(L.length : Int)] L m hml)
            have lt : ([(L.length : Int)] ++ L.take m).length ≤ 3001 := by simp only [List.length_append, List.length_singleton, List.length_take]; omega
            generalize [(L.length : Int)] ++ L.take m = A at *
            generalize L.getD m 0 = y at *
            have oa := OwnK.old ho (tbel1 wr (.cells #[.int .i64 y] 2))
            have rl := row_lit wr [y]
            simp only [List.map_cons, List.map_nil] at rl
            have hb2 := tstep hb (tbel1 wr (.cells #[.int .i64 y] 2)) hbs
            clear ho
            go_wp2_with (at_builtin; refine wpList_appK Try.underlying100 infoI64 (by decide) rfl (.tmp 60) (.tmp 70) rfl rfl oa rfl rl (by simp only [List.length_singleton]; omega) (by simp only [World.size_alloc]; omega) ?_; intro v3 w3' o3 g3)
            have hb3 : Below V.heap.size V w3' := oa.below hb2 g3 hb2.size
            go_roundw
            case rel => exact ⟨m + 1, by omega, by go_num, by rw [HS.out]; exact o3, hb3⟩
            case measure => simp [intOf]; omega
          · rw [List.take_of_length_le (by omega)] at ho
            have hA : ([(L.length : Int)] ++ L).length ≤ 3001 := by simp only [List.length_append, List.length_singleton]; omega
            generalize [(L.length : Int)] ++ L = A at *
            have oa := OwnK.old ho (tbel1 wr (.cells #[.int .i64 (P.length : Int)] 2))
            have rl := row_lit wr [(P.length : Int)]
            simp only [List.map_cons, List.map_nil] at rl
            have hb2 := tstep hb (tbel1 wr (.cells #[.int .i64 (P.length : Int)] 2)) hbs
            clear ho
            go_wp2_with (at_builtin; refine wpList_appK Try.underlying100 infoI64 (by decide) rfl (.tmp 72) (.tmp 80) rfl rfl oa rfl rl (by simp only [List.length_singleton]; omega) (by simp only [World.size_alloc]; omega) ?_; intro v3 w3' o3 g3; have hb3 : Below V.heap.size V w3' := oa.below hb2 g3 hb2.size; clear oa rl hb2 g3)
            clear q20 p0 p1 hb hbs
            have hA1 : (A ++ [(P.length : Int)]).length ≤ 3002 := by simp only [List.length_append, List.length_singleton]; omega
            generalize A ++ [(P.length : Int)] = A2 at *
            go_loopw [6, 8] (fun v i wr => ∃ m : Nat, m ≤ P.length ∧ i = .int .i64 m ∧ OwnK .i64 2 wr V.heap.size v (A2 ++ P.take m) ∧ Below V.heap.size V wr) (fun _ i _ => P.length - (intOf i).toNat)
            case atStart => exact ⟨0, Nat.zero_le _, rfl, by simpa [OwnK] using o3, hb3⟩
            case round =>
              clear o3 hb3
              obtain ⟨m, hm, rfl, ho, hb⟩ := hrel
              obtain ⟨q20, p0, p1⟩ := CE.out wr hb
              have hbs := hb.size
              by_cases hml : m < P.length
              · obtain ⟨_, b2, o2, rfl, hB2, hc⟩ := R2.out wr hb m hml
                have HS := Lib.hid (take_snocQ A2 P m hml)
                have lt : (A2 ++ P.take m).length ≤ 6002 := by simp only [List.length_append, List.length_take]; omega
                generalize A2 ++ P.take m = A3 at *
                generalize P.getD m 0 = y at *
                have oa := OwnK.old ho (tbel1 wr (.cells #[.int .i64 y] 2))
                have rl := row_lit wr [y]
                simp only [List.map_cons, List.map_nil] at rl
                have hb2 := tstep hb (tbel1 wr (.cells #[.int .i64 y] 2)) hbs
                clear ho
                go_wp2_with (at_builtin; refine wpList_appK Try.underlying100 infoI64 (by decide) rfl (.tmp 93) (.tmp 103) rfl rfl oa rfl rl (by simp only [List.length_singleton]; omega) (by simp only [World.size_alloc]; omega) ?_; intro v3 w3' o3 g3)
                have hb3 : Below V.heap.size V w3' := oa.below hb2 g3 hb2.size
                go_roundw
                case rel => exact ⟨m + 1, by omega, by go_num, by rw [HS.out]; exact o3, hb3⟩
                case measure => simp [intOf]; omega
              · rw [List.take_of_length_le (by omega), ← HFN.out] at ho
                obtain ⟨af, cf, ef, rf⟩ := ho.row
                generalize (noteF ⟨L, P⟩).length = nf at ef c3
                subst ef
                have c4 := c3 af cf wr rf
                clear ho rf c3
                go_wp2_with (first
                  | (go_at_call 47; refine c4.mono ?_; rintro e w9 ⟨v9, rfl, o9, b9⟩; obtain ⟨a9, c9, rfl, r9⟩ := own_row o9; have hw9 := tstep hb b9 hbs; have hown9 := hown.carry hw9; have hb9 := tstep hbl hw9 hBrV.out; have hs9 := Lib.hid (Nat.le_trans hBrV.out hw9.size); clear o9 b9)
                  | (at_builtin; refine wpList_app rfl (.tmp 105) (.tmp 107) rfl rfl hown9 rfl r9 (by simp only [List.length_append]; omega) hb9 hs9.out ?_; intro v10 w10 o10 b10))
                go_roundw
                case rel => exact ⟨k + 1, by omega, by go_num, by rw [HN.out, ← List.append_assoc]; exact o10, b10⟩
                case measure => simp [intOf]; omega
      · rw [List.take_of_length_le (by omega)] at hown
        have hl3 : (O2 ++ j.notes.flatMap noteE).length ≤ 600000 := by
          have h1 := HTB.out j.notes.length
          have h2 := HF.out.2.1
          rw [List.take_length] at h1
          rw [List.length_append]
          omega
        generalize hO3 : O2 ++ j.notes.flatMap noteE = O3 at *
        have HO3 := Lib.hid hO3
        clear hO3 DV HTB HTS
        have c7 := fun X => rqints_any (some ⟨X.heap.size, 0, none⟩) 1 [(j.floats.length : Int)] (fun x hx => by rw [List.mem_singleton.1 hx]; unfold inR; have := HF.out.2.2.1; omega) (by simp) (X.alloc (.cells ([(j.floats.length : Int)].map (Value.int .i64)).toArray 2)) (row_lit X [(j.floats.length : Int)])
        rw [show [(j.floats.length : Int)].flatMap chZ = chZ (j.floats.length : Int) by simp] at c7
        simp only [List.map_cons, List.map_nil, List.length_singleton] at c7
        have l7 := chZ_ten (n := (j.floats.length : Int)) (by unfold inR; have := HF.out.2.2.1; omega)
        have HN2 : Hid (listE floatE j.floats = chZ (j.floats.length : Int) ++ j.floats.flatMap floatE) := Lib.hid rfl
        generalize chZ (j.floats.length : Int) = C7 at *
        have bl := tbel1 V (.cells #[.int .i64 (j.floats.length : Int)] 2)
        go_wp2_with (first
          | (go_at_call 47; refine (c7 _).mono ?_; rintro e w9 ⟨v9, rfl, o9, b9⟩; obtain ⟨a9, c9, rfl, r9⟩ := own_row o9; have hw9 := tstep bl b9 bl.size; have hown9 := hown.carry hw9; have hb9 := tstep hbl hw9 hBrV.out; have hs9 := Lib.hid (Nat.le_trans hBrV.out hw9.size); clear o9 b9)
          | (at_builtin; refine wpList_app rfl (.tmp 109) (.tmp 114) rfl rfl hown9 rfl r9 (by omega) hb9 hs9.out ?_; intro v10 w10 o10 b10))
        clear c7 bl hown hw9 hown9 r9 hb9 hs9 q19 q20 q21
        have hl4 : (O3 ++ C7).length ≤ 600010 := by rw [List.length_append]; omega
        generalize hO4 : O3 ++ C7 = O4 at *
        have HO4 := Lib.hid hO4
        clear hO4
        have HTF := Lib.hid (take_bound (f := floatE) (c := 30) (l := j.floats) (fun x hx => floatE_len (all_in (HL.out w (Below.refl _ _)).ins.2.2 x hx)))
        have HTG := Lib.hid (take_step floatE zeroF j.floats)
        go_loopw [4, 9] (fun v i wr => ∃ k : Nat, k ≤ j.floats.length ∧ i = .int .i64 k ∧ Own wr U.heap.size v (O4 ++ (j.floats.take k).flatMap floatE) ∧ Below U.heap.size U wr) (fun _ i _ => j.floats.length - (intOf i).toNat)
        case atStart => exact ⟨0, Nat.zero_le _, rfl, by simpa [Own] using o10, b10⟩
        case round =>
          clear o10 b10
          obtain ⟨m, hm, rfl, hown, hbl'⟩ := hrel
          have bw' := Below.trans b0 (hbl'.mono HBw.out)
          have DW := HD.out.below hbl' HBe.out.1
          obtain ⟨q19, q20, q21⟩ := DW.three
          have hBrW := Lib.hid (hbl'.size : U.heap.size ≤ wr.heap.size)
          by_cases hlt : m < j.floats.length
          · obtain ⟨b1, o1, e1, hB1, p0, p1, p2⟩ := els3 (HL.out wr bw').floats hlt
            have hin := (HL.out w (Below.refl _ _)).ins.2.2 m
            have hBd := HTF.out m (by omega)
            have hnl := HF.out.2.2.1
            have HN := Lib.hid (HTG.out m hlt)
            generalize j.floats.getD m zeroF = x at *
            have c3 := fun a c w hr => rqints_any a c _ (numsF_in hin) (by unfold numsF; simp) w hr
            rw [← floatE_nums] at c3
            have lE := floatE_len hin
            generalize floatE x = FE at *
            rw [e1] at q21
            have CE := Lib.hid fun y (hy : Below wr.heap.size wr y) => And.intro (by have := (DW.old hy).three.2.2; rw [e1] at this; exact this : y.cell? ⟨w.heap.size, 21, none⟩ = some (.slice (some ⟨b1, o1, none⟩) j.floats.length s.fc)) (And.intro ((hy.cell (p := ⟨b1, o1 + m * 3, none⟩) hB1).trans p0) (And.intro ((hy.cell (p := ⟨b1, o1 + m * 3 + 1, none⟩) hB1).trans p1) ((hy.cell (p := ⟨b1, o1 + m * 3 + 2, none⟩) hB1).trans p2)))
            clear e1 DW q19 q20 hin
            go_upto_region 25 with (fail)
            clear p0 p1 p2 q21
            (refine wp_region_plan 21 [(0, true), (1, true), (2, true), (3, true), (4, true), (5, true), (6, true), (7, true), (8, true), (9, true), (10, true), (11, true), (12, true), (13, true), (14, true), (15, true), (16, true), (17, true), (18, true), (19, false), (20, false)] (by kernel_rfl) (by kernel_rfl) ?_; simp only [pick, List.getElem?_cons_succ, List.getElem?_cons_zero, List.drop_succ_cons, List.drop_zero])
            repeat (first | (apply TextV.sees (hw := by kernel_rfl); (focus (intro x hx K hK; have hc := CE.out x hx; go_simp; exact hK)); simp only [Act.put, List.getElem_toArray, List.getElem_cons_succ, List.getElem_cons_zero, List.setIfInBounds_toArray, List.set_cons_zero, List.set_cons_succ]) | (apply TextV.idle; (focus (intro x hx K hK; go_simp; exact hK)); simp only [Act.put, List.getElem_toArray, List.getElem_cons_succ, List.getElem_cons_zero, List.setIfInBounds_toArray, List.set_cons_zero, List.set_cons_succ]))
            (refine TextV.loudv (V := fun v y => ∃ g, v = .slice (some ⟨g, 0, none⟩) 3 3 ∧ RowK .i64 y (some ⟨g, 0, none⟩) 3 (numsF x)) (fun z hz => ⟨_, _, exec_build3 _ _ (.tmp 129) (.tmp 135) (.tmp 141) rfl rfl rfl rfl z, ⟨z.heap.size, rfl, row_lit z (numsF x)⟩, tbel1 z _⟩) (by kernel_rfl) (fun v y hv hy => ?_); simp only [Act.put, List.getElem_toArray, List.getElem_cons_succ, List.getElem_cons_zero, List.setIfInBounds_toArray, List.set_cons_zero, List.set_cons_succ])
            obtain ⟨g, rfl, rg⟩ := hv
            (refine TextV.loud (V := fun v y => ∃ a c, v = .slice a FE.length c ∧ Row y a c FE) (fun z hz => (c3 (some ⟨g, 0, none⟩) 3 z (rg.carry hz)).mono fun e y h => by obtain ⟨v, h1, h2, h3⟩ := h; obtain ⟨a, c, h4, h5⟩ := own_row h2; exact ⟨v, h1, ⟨a, c, h4, h5⟩, h3⟩) (by kernel_rfl) (fun _ => by kernel_rfl) (fun v2 y2 hv2 hy2 => ?_); simp only [Act.put, List.getElem_toArray, List.getElem_cons_succ, List.getElem_cons_zero, List.setIfInBounds_toArray, List.set_cons_zero, List.set_cons_succ])
            obtain ⟨a5, c5, rfl, r5⟩ := hv2
            apply TextV.done
            intro z hz
            have hyz := tstep (tstep hy hy2 hy.size) hz (Nat.le_trans hy.size hy2.size)
            have ho := hown.carry hyz
            have hbz := tstep hbl' hyz hBrW.out
            have hsz := Lib.hid (Nat.le_trans hBrW.out hyz.size)
            have r6 := r5.carry hz
            clear CE rg c3 hown r5 hy hy2 hz hyz
            go_wp2_with (at_builtin; refine wpList_app rfl (.tmp 123) (.tmp 143) rfl rfl ho rfl r6 (by simp only [List.length_append]; omega) hbz hsz.out ?_; intro v11 w11 o11 b11)
            go_roundw
            case rel => exact ⟨m + 1, by omega, by go_num, by rw [HN.out, ← List.append_assoc]; exact o11, b11⟩
            case measure => simp [intOf]; omega
          · rw [List.take_of_length_le (by omega)] at hown
            have hJ : O4 ++ j.floats.flatMap floatE = J := by
              rw [HJy.out trivial, jobE_split, HO1.out, HIE.out, HN1.out, HN2.out, ← HO4.out, ← HO3.out, ← HO2.out]
              simp only [List.append_assoc]
            rw [hJ] at hown
            obtain ⟨a9, c9, rfl, r9⟩ := own_row hown
            have HO := Lib.hid hown
            have Z9 : Blk wr (w.heap.size + 1) #[.slice none 0 0, .bool false] 66 := (hbl'.block _ HBe.out.2).trans HZ.out
            obtain ⟨z0, z1⟩ := Z9.two
            have f0 := Z9.free 0
            have f1 := Z9.free 1
            clear hown r9 hJ Z9 DW HTF HTG
            go_wp2
            refine bodyPost_ret (v := .agg #[.slice a9 J.length c9, .bool true]) (by simp [results, Try.results19, go_sem, *]) rfl ⟨a9, c9, rfl, ?_, ?_⟩
            · obtain ⟨a10, c10, e10, r10⟩ := own_row (World.ownsRow.kept HO.out (((But.refl (w.heap.size + 1) wr).set 0 (.slice a9 J.length c9)).set 1 (.bool true)) (.inr (own_far HO.out HBe.out.2)))
              cases e10
              exact r10
            · exact (bw'.setCell (p := ⟨w.heap.size + 1, 0, none⟩) (by simp) _).setCell (p := ⟨w.heap.size + 1, 1, none⟩) (by simp) _
end Go.Proofs.Ytjfjekncmejfpaa
