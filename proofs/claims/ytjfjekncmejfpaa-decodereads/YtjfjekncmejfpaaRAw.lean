/- The document's answer to stage 17: the job of any bytes, or that there is none, and how far they can be read. The program reads jobs at all. -/
import Derived.Test.YtjfjekncmejfpaaRRjb
import Derived.Test.YtjfjekncmejfpaaQRjb
import Derived.Test.YtjfjekncmejfpaaXReadC
namespace Go.Proofs.Ytjfjekncmejfpaa
open Go.RowKit
set_option maxRecDepth 20000
set_option linter.unusedVariables false
set_option linter.unusedSimpArgs false

/-- The cells of the document's answer. -/
def ansL (j : J4) (s : S3) (ok : Bool) (part : ByteArray) (q : Int) : List Value := [.int .i64 j.g.cols, .int .i64 j.g.wide, .int .i64 j.g.gap, .int .i64 j.g.high, .int .i64 j.g.first, .int .i64 j.g.grid, .int .i64 j.g.rule, .int .i64 j.g.sep, .int .i64 j.g.nmost, .int .i64 j.g.tmost, .int .i64 j.g.bmost, .int .i64 j.g.tmany, .int .i64 j.g.bmany, .int .i64 j.g.club, .int .i64 j.g.widow, .int .i64 j.g.split, .int .i64 j.g.later, .int .i64 j.g.spare, .bool j.g.bal, .slice s.ia j.items.length s.ic, .slice s.na j.notes.length s.nc, .slice s.fa j.floats.length s.fc, .bool ok, .string part, .int .i64 q]
def ansC (j : J4) (s : S3) (ok : Bool) (part : ByteArray) (q : Int) : Array Value := ⟨ansL j s ok part q⟩
theorem ansC_size (j : J4) (s : S3) (ok : Bool) (part : ByteArray) (q : Int) : (ansC j s ok part q).size = 25 := rfl
theorem ans_job (j : J4) (s : S3) (ok : Bool) (part : ByteArray) (q : Int) : ansL j s ok part q = (jobC j s).toList ++ [.bool ok, .string part, .int .i64 q] := rfl
theorem ans_one (j : J4) (s : S3) (ok : Bool) (part : ByteArray) (q : Int) : (ansC j s ok part q).all (·.oneCell') = true := by kernel_rfl
theorem info38 : (Try.prog.info? 38).map (·.size) = some 25 := by kernel_rfl
/-- An answer in block b. -/
def AnsAt (w : World) (b : Nat) (j : J4) (s : S3) (ok : Bool) (part : ByteArray) (q : Int) : Prop := Blk w b (ansC j s ok part q) 38
theorem built_yes (j : J4) (s : S3) (part : ByteArray) (q : Int) : Try.prog.built 38 [(0, .agg (jobC j s)), (1, .bool true), (2, .string part), (3, .int .i64 q)] = some (ansC j s true part q) := by kernel_rfl
theorem built_no (part : ByteArray) (q : Int) : Try.prog.built 38 [(2, .string part), (3, .int .i64 q)] = some (ansC zeroJ zeroS4 false part q) := by kernel_rfl
theorem build_yes {o : Oper} {a : Act} {j : J4} {s : S3} {part : ByteArray} {q : Int} {x y z : Operand} (ho : o.op = .build 38 #[(0, x), (1, .const (.bool true)), (2, y), (3, z)]) (hx : a.eval x = .agg (jobC j s)) (hy : a.eval y = .string part) (hz : a.eval z = .int .i64 q) (w : World) :
    (execOp a.eval o).run Try.prog w = .ok (.value (.agg (ansC j s true part q))) w := by
  have hc : a.eval (.const (.bool true)) = .bool true := rfl
  have e : ((#[(0, x), (1, .const (.bool true)), (2, y), (3, z)] : Array (Nat × Operand)).map fun (i, x) => (i, a.eval x)).toList = [(0, .agg (jobC j s)), (1, .bool true), (2, .string part), (3, .int .i64 q)] := by
    simp only [List.map_toArray, List.map_cons, List.map_nil, hx, hy, hz, hc]
  have hb := built_yes j s part q
  rw [← e] at hb
  unfold execOp
  simp only [ho, Sem.run_bind, run_build w 38 _ _ hb, Result.andThen_ok]
  rfl
theorem build_no {o : Oper} {a : Act} {part : ByteArray} {q : Int} {y z : Operand} (ho : o.op = .build 38 #[(2, y), (3, z)]) (hy : a.eval y = .string part) (hz : a.eval z = .int .i64 q) (w : World) :
    (execOp a.eval o).run Try.prog w = .ok (.value (.agg (ansC zeroJ zeroS4 false part q))) w := by
  have e : ((#[(2, y), (3, z)] : Array (Nat × Operand)).map fun (i, x) => (i, a.eval x)).toList = [(2, .string part), (3, .int .i64 q)] := by
    simp only [List.map_toArray, List.map_cons, List.map_nil, hy, hz]
  have hb := built_no part q
  rw [← e] at hb
  unfold execOp
  simp only [ho, Sem.run_bind, run_build w 38 _ _ hb, Result.andThen_ok]
  rfl
/-- No name but the last is that of the end. -/
theorem name_ne (k : Nat) (hk : k < 5) : ¬ nameP k = nameP 5 := by
  have : k = 0 ∨ k = 1 ∨ k = 2 ∨ k = 3 ∨ k = 4 := by omega
  rcases this with rfl | rfl | rfl | rfl | rfl <;> decide
theorem partJ_le (bs : List Int) : partJ bs ≤ 5 := by
  rw [partJ_pos]
  repeat' split
  all_goals omega
theorem partJ_lt {bs : List Int} (h : (rdF bs).2.2 = true) : partJ bs < 5 := by
  have h1 := partJ_le bs
  have h2 : partJ bs ≠ 5 := fun e => by
    rw [partJ_end, jobR_pos, h] at e
    cases e
  omega
theorem readJ_is (bs : List Int) : readJ bs = (jobR bs 0 false).1 := (jobR_val bs).symm
/-- All bytes are those of a job: what is read has just these bytes. -/
theorem okB_iff {bs : List Int} (hB : Byt bs) (h : (rdF bs).2.2 = false) : okJ (readJ bs) ∧ (jobE (readJ bs) = bs ↔ okB bs) := by
  have h0 : (jobR bs 0 false).2.2 = false := by rw [jobR_pos]; exact h
  obtain ⟨h1, h2, h3⟩ := job_reads.these hB h0
  rw [readJ_is]
  refine ⟨h1, fun e => ⟨h0, ?_⟩, fun e => ?_⟩
  · rw [← h3] at e
    have := congrArg List.length e
    rw [List.length_take] at this
    omega
  · rw [← h3, e.2, List.take_length]
set_option maxHeartbeats 4000000 in
theorem rans_any (bs : List Int) (a : Option Addr) (c : Nat) (w : World) (hl : bs.length ≤ 2000) (hB : Byt bs) (hr : Row w a c bs) :
    Calls Try.prog 9 #[.slice a bs.length c] w fun e w' => ∃ s, e = .returned (.agg (ansC (decJ bs) s (isB (okB bs)) (nameP (partJ bs)) (jobR bs 0 false).2.1)) ∧ Lists w' (decJ bs) s ∧ Below w.heap.size w w' := by
  rw [jobR_pos]
  have hMid := readJ_mid hB hl
  have hl' : bs.length ≤ 1000000 := by omega
  have HR := Lib.hid hr
  have b0 := tbel1 w (.cells (ansC zeroJ zeroS4 false ⟨#[]⟩ 0) 38)
  have D0 : AnsAt (w.alloc (.cells (ansC zeroJ zeroS4 false ⟨#[]⟩ 0) 38)) w.heap.size zeroJ zeroS4 false ⟨#[]⟩ 0 := blk_new w _ 38
  have G0 := blk_two w (.cells (ansC zeroJ zeroS4 false ⟨#[]⟩ 0) 38) #[.slice a bs.length c, .int .i64 0, .bool false] 61
  have F0 := blk_three w (.cells (ansC zeroJ zeroS4 false ⟨#[]⟩ 0) 38) (.cells #[.slice a bs.length c, .int .i64 0, .bool false] 61) #[.pointer (some ⟨w.heap.size + 1, 0, none⟩), .string ⟨#[]⟩] 63
  have b1 := tbel2 (w.alloc (.cells (ansC zeroJ zeroS4 false ⟨#[]⟩ 0) 38)) (.cells #[.slice a bs.length c, .int .i64 0, .bool false] 61) (.cells #[.pointer (some ⟨w.heap.size + 1, 0, none⟩), .string ⟨#[]⟩] 63)
  have b2 := tstep b0 b1 b0.size
  have D1 := D0.old b1
  have G1 := G0.alloc (.cells #[.pointer (some ⟨w.heap.size + 1, 0, none⟩), .string ⟨#[]⟩] 63)
  have hs3 : w.heap.size + 3 ≤ (((w.alloc (.cells (ansC zeroJ zeroS4 false ⟨#[]⟩ 0) 38)).alloc (.cells #[.slice a bs.length c, .int .i64 0, .bool false] 61)).alloc (.cells #[.pointer (some ⟨w.heap.size + 1, 0, none⟩), .string ⟨#[]⟩] 63)).heap.size := by simp
  have HI := fun h : okB bs => (decJ_yes h).trans (readJ_is bs).symm
  have HN := fun h : ¬ okB bs => decJ_no h
  have HO := fun h : (rdF bs).2.2 = false => okB_iff hB h
  have HH := Lib.hid (And.intro HI (And.intro HN HO))
  clear hr HI HN HO D0 G0 b0 b1
  go_enter Try.func9, Try.ntmps9
  go_upto_region 2 with (fail)
  change Code.wp _ _ _ _ (((w.alloc (.cells (ansC zeroJ zeroS4 false ⟨#[]⟩ 0) 38)).alloc (.cells #[.slice a bs.length c, .int .i64 0, .bool false] 61)).alloc (.cells #[.pointer (some ⟨w.heap.size + 1, 0, none⟩), .string ⟨#[]⟩] 63))
  generalize World.alloc _ _ = U at *
  have RD : RdD bs U (w.heap.size + 1 + 1) (w.heap.size + 1) a c 0 false := ⟨Nat.zero_le _, hl', hB, by omega, by omega, F0.two.1, G1, HR.out.carry b2⟩
  have CF := Lib.hid fun (y : World) (hy : Old U y) => trivial
  (refine wp_region_plain (Old U) 1 (Below.refl _ U) ?_; simp only [List.take_succ_cons, List.take_zero, List.drop_succ_cons, List.drop_zero])
  repeat (first | (apply Text.sees (hw := by kernel_rfl); (focus (intro x hx K hK; have hc := CF.out x hx; go_simp; exact hK)); simp only [Act.put, List.getElem_toArray, List.getElem_cons_succ, List.getElem_cons_zero, List.setIfInBounds_toArray, List.set_cons_zero, List.set_cons_succ]) | (apply Text.idle; (focus (intro x hx K hK; go_simp; exact hK)); simp only [Act.put, List.getElem_toArray, List.getElem_cons_succ, List.getElem_cons_zero, List.setIfInBounds_toArray, List.set_cons_zero, List.set_cons_succ]))
  intro x hx
  refine wpl_call (V := fun v y => ∃ s, v = .agg (jobC (readJ bs) s) ∧ FinR bs x (w.heap.size + 1 + 1) (w.heap.size + 1) a c y s) rfl (by kernel_rfl) ((rjob_any bs _ _ a c _ x (RD.old hx) (F0.old hx)).mono fun e y hh => by obtain ⟨s, h1, h2⟩ := hh; exact ⟨_, h1, s, rfl, h2⟩) ?_
  rintro v y ⟨s, rfl, L1, R1, F1, N1⟩
  refine make_job (j := readJ bs) (s := s) rfl rfl rfl (.tmp 4) (.tmp 12) rfl rfl (by kernel_rfl) ?_
  have hxs := hx.size
  have hys := N1.size
  have D2 := (D1.old hx).near N1 (by omega)
  have b3 := (tstep b2 hx (by omega)).trans (Near.below N1 (fun i hi => by omega) (by omega) : Below w.heap.size x y)
  have b4 := tbel1 y (.cells (jobC (readJ bs) s) 31)
  have J3 := job_new y (readJ bs) s
  have O3 := L1.1.old b4
  have L3 := O3.lists L1.2
  have hin3 := L1.2
  have R3 := R1.old b4
  have F3 := F1.old b4
  have D3 := D2.old b4
  have b5 := tstep b3 b4 (by omega)
  have hj4 : w.heap.size + 3 ≤ y.heap.size := by omega
  have cj := fun z (hz : Old (y.alloc (.cells (jobC (readJ bs) s) 31)) z) => rJob_any (readJ bs) s z (L3.carry hz) hMid
  have HX := Lib.hid (And.intro (And.intro O3 hin3) (And.intro R3 (And.intro F3 (And.intro D3 b5))))
  clear L1 R1 F1 N1 D2 b3 b4 L3 O3 hin3 R3 F3 D3 b5 F0 G1 D1 b2 RD hx CF hMid
  go_upto_region 3 with (fail)
  generalize y.alloc _ = V at *
  generalize y.heap.size = b at *
  (refine wp_region_plain (Old V) 1 (Below.refl _ V) ?_; simp only [List.take_succ_cons, List.take_zero, List.drop_succ_cons, List.drop_zero])
  (refine Text.val (fun x hx => load_job (.tmp 4) rfl rfl (J3.old hx)) (by kernel_rfl) ?_; simp only [Act.put, List.getElem_toArray, List.getElem_cons_succ, List.getElem_cons_zero, List.setIfInBounds_toArray, List.set_cons_zero, List.set_cons_succ])
  intro x2 hx2
  refine wpl_call (V := fun v y => ∃ a2 c2, v = .agg #[.slice a2 (jobB (readJ bs)).length c2, .bool (isB (∀ x ∈ (readJ bs).items, bareI x))] ∧ Row y a2 c2 (jobB (readJ bs)) ∧ Below x2.heap.size x2 y) rfl (by kernel_rfl) ((cj x2 hx2).mono fun e y hh => by obtain ⟨a2, c2, h1, h2⟩ := hh; exact ⟨_, h1, a2, c2, rfl, h2⟩) ?_
  rintro v z ⟨a2, c2, rfl, Rw, bz⟩
  have hz := tstep hx2 bz hx2.size
  simp only [Act.put, List.getElem_toArray, List.getElem_cons_succ, List.getElem_cons_zero, List.setIfInBounds_toArray, List.set_cons_zero, List.set_cons_succ]
  have E0 := blk_new z #[.slice a2 (jobB (readJ bs)).length c2, .bool (isB (∀ x ∈ (readJ bs).items, bareI x))] 66
  have b6 := tbel1 z (.cells #[.slice a2 (jobB (readJ bs)).length c2, .bool (isB (∀ x ∈ (readJ bs).items, bareI x))] 66)
  have hzy := tstep hz b6 hz.size
  have Rw6 := Rw.carry b6
  have J6 := J3.old hzy
  have HZ := Lib.hid hzy
  clear Rw b6 hz bz hx2 J3 cj
  go_upto_region 4 with (fail)
  generalize z.alloc _ = Y at *
  generalize z.heap.size = b5 at *
  have hzy := HZ.out
  clear HZ
  obtain ⟨L3, R3, F3, D3, b7⟩ := HX.out
  have L4 := And.intro (And.intro (L3.1.old hzy) L3.2) hxs
  have R4 := R3.old hzy
  have F4 := F3.old hzy
  have D4 : AnsAt Y w.heap.size zeroJ zeroS4 false ⟨#[]⟩ 0 := Blk.old D3 hzy
  have b8 := tstep b7 hzy b7.size
  have CE := Lib.hid fun y (hy : Old Y y) => And.intro (F4.old hy).two (R4.rd.oldr hy).c1
  have HY := Lib.hid (And.intro L4 (And.intro D4 (And.intro b8 J6)))
  have d1 := F4.two.2
  obtain ⟨p0, p1⟩ := E0.two
  have cs := fun y (hy : Old Y y) => same_any a2 a c2 c (jobB (readJ bs)) bs y
  clear L3 R3 F3 D3 b7 L4 R4 F4 D4 b8 J6 hzy HX E0
  have hE5 : (nameP 5).toList = [101, 110, 100] := by
    rw [ByteArray.toList_eq]
    rfl
  cases hst : (rdF bs).2.2 with
  | true =>
    have hno : ¬ okB bs := fun e => by
      have := e.1
      rw [jobR_pos, hst] at this
      cases this
    have hne := name_ne (partJ bs) (partJ_lt hst)
    have hD := toList_ne hne
    rw [hE5] at hD
    have HNo := Lib.hid hno
    obtain ⟨S, hS⟩ : ∃ S, S = nameP (partJ bs) := ⟨_, rfl⟩
    rw [← hS] at CE d1 hD
    have HSn := Lib.hid hS
    clear hno hst hne hE5 hS
    go_upto_region 6 with (fail)
    (refine wp_region_text (Old Y) 12 (by kernel_rfl) (by kernel_rfl) (Below.refl _ Y).drew ?_; simp only [List.take_succ_cons, List.take_zero, List.drop_succ_cons, List.drop_zero])
    repeat (first | (apply Text.sees (hw := by kernel_rfl); (focus (intro x hx K hK; have hc := CE.out x hx; go_simp; exact hK)); simp only [Act.put, List.getElem_toArray, List.getElem_cons_succ, List.getElem_cons_zero, List.setIfInBounds_toArray, List.set_cons_zero, List.set_cons_succ]) | (apply Text.idle; (focus (intro x hx K hK; go_simp; exact hK)); simp only [Act.put, List.getElem_toArray, List.getElem_cons_succ, List.getElem_cons_zero, List.setIfInBounds_toArray, List.set_cons_zero, List.set_cons_succ]))
    intro x hx
    obtain ⟨L4, D4, b8, J6⟩ := HY.out
    have D5 : AnsAt x w.heap.size zeroJ zeroS4 false ⟨#[]⟩ 0 := Blk.old D4 hx
    refine wpList_store_row rfl 38 (.tmp 2) (.tmp 54) rfl w.heap.size (ansC zeroJ zeroS4 false S (rdF bs).2.1) rfl rfl 38 _ D5 info38 (by rw [ansC_size, ansC_size]) (ans_one _ _ _ _ _) ?_
    go_wp2
    rw [HH.out.2.1 HNo.out, isB_no HNo.out, ← HSn.out]
    refine bodyPost_ret (v := .agg (ansC zeroJ zeroS4 false S (rdF bs).2.1)) ?_ rfl ⟨zeroS4, rfl, zero_lists _, below_row (tstep b8 hx b8.size) (Nat.le_refl _) _⟩
    exact results_cell_row Try.results9 _ _ _ 38 _ _ _ rfl (Blk.row D5 _) Try.underlying38 rfl info38
  | false =>
    obtain ⟨hoJ, hiff⟩ := HH.out.2.2 hst
    have h5 : partJ bs = 5 := partJ_five hst
    rw [h5] at CE d1
    have HP5 := Lib.hid h5
    have hbare : isB (∀ x ∈ (readJ bs).items, bareI x) = true := isB_yes fun x hx => (hoJ.2.1.2 x hx).1
    have hE : jobB (readJ bs) = jobE (readJ bs) := by
      unfold jobB
      rw [hbare, cond_true]
    have hlE := (hoJ.fits (Nat.le_refl _))
    rw [hbare] at p1
    rw [hE] at p0 cs Rw6
    have hD : ((nameP 5).toList == [101, 110, 100]) = true := by rw [hE5]; rfl
    have hlJ : (jobE (readJ bs)).length ≤ 1000000 := by
      have h1 : (jobR bs 0 false).2.2 = false := by rw [jobR_pos]; exact hst
      have := (job_reads.these hB h1).2.2
      rw [readJ_is, ← this, List.length_take]
      omega
    have cs2 := fun y (hy : Old Y y) => cs y hy hlJ hl' (Rw6.carry hy) (HR.out.carry (tstep HY.out.2.2.1 hy HY.out.2.2.1.size))
    clear cs hbare hE hE5 hoJ hlE hst h5
    by_cases hk : jobE (readJ bs) = bs
    · have hok := hiff.1 hk
      have hdc : decide (jobE (readJ bs) = bs) = true := by simpa using hk
      have HOk := Lib.hid hok
      rw [hdc] at cs2
      clear hk hok hdc hiff
      go_upto_region 5 with (go_at_call 14; refine (cs2 Y (Below.refl _ Y)).mono ?_; rintro e Y2 ⟨rfl, by2⟩)
      have J7 : JobAt Y2 b (readJ bs) s := JobAt.old HY.out.2.2.2 by2
      have CE2 := Lib.hid fun y (hy : Old Y2 y) => CE.out y (by2.trans (hy.mono by2.size))
      (refine wp_region_text (Old Y2) 13 (by kernel_rfl) (by kernel_rfl) (Below.refl _ Y2).drew ?_; simp only [List.take_succ_cons, List.take_zero, List.drop_succ_cons, List.drop_zero])
      (refine Text.val (fun x hx => load_job (.tmp 4) rfl rfl (J7.old hx)) (by kernel_rfl) ?_; simp only [Act.put, List.getElem_toArray, List.getElem_cons_succ, List.getElem_cons_zero, List.setIfInBounds_toArray, List.set_cons_zero, List.set_cons_succ])
      (apply Text.sees (hw := by kernel_rfl); (focus (intro x hx K hK; have hc := CE2.out x hx; go_simp; exact hK)); simp only [Act.put, List.getElem_toArray, List.getElem_cons_succ, List.getElem_cons_zero, List.setIfInBounds_toArray, List.set_cons_zero, List.set_cons_succ])
      (apply Text.sees (hw := by kernel_rfl); (focus (intro x hx K hK; have hc := CE2.out x hx; go_simp; exact hK)); simp only [Act.put, List.getElem_toArray, List.getElem_cons_succ, List.getElem_cons_zero, List.setIfInBounds_toArray, List.set_cons_zero, List.set_cons_succ])
      (apply Text.sees (hw := by kernel_rfl); (focus (intro x hx K hK; have hc := CE2.out x hx; go_simp; exact hK)); simp only [Act.put, List.getElem_toArray, List.getElem_cons_succ, List.getElem_cons_zero, List.setIfInBounds_toArray, List.set_cons_zero, List.set_cons_succ])
      (apply Text.sees (hw := by kernel_rfl); (focus (intro x hx K hK; have hc := CE2.out x hx; go_simp; exact hK)); simp only [Act.put, List.getElem_toArray, List.getElem_cons_succ, List.getElem_cons_zero, List.setIfInBounds_toArray, List.set_cons_zero, List.set_cons_succ])
      (apply Text.sees (hw := by kernel_rfl); (focus (intro x hx K hK; have hc := CE2.out x hx; go_simp; exact hK)); simp only [Act.put, List.getElem_toArray, List.getElem_cons_succ, List.getElem_cons_zero, List.setIfInBounds_toArray, List.set_cons_zero, List.set_cons_succ])
      (apply Text.sees (hw := by kernel_rfl); (focus (intro x hx K hK; have hc := CE2.out x hx; go_simp; exact hK)); simp only [Act.put, List.getElem_toArray, List.getElem_cons_succ, List.getElem_cons_zero, List.setIfInBounds_toArray, List.set_cons_zero, List.set_cons_succ])
      (apply Text.sees (hw := by kernel_rfl); (focus (intro x hx K hK; have hc := CE2.out x hx; go_simp; exact hK)); simp only [Act.put, List.getElem_toArray, List.getElem_cons_succ, List.getElem_cons_zero, List.setIfInBounds_toArray, List.set_cons_zero, List.set_cons_succ])
      (apply Text.sees (hw := by kernel_rfl); (focus (intro x hx K hK; have hc := CE2.out x hx; go_simp; exact hK)); simp only [Act.put, List.getElem_toArray, List.getElem_cons_succ, List.getElem_cons_zero, List.setIfInBounds_toArray, List.set_cons_zero, List.set_cons_succ])
      (apply Text.sees (hw := by kernel_rfl); (focus (intro x hx K hK; have hc := CE2.out x hx; go_simp; exact hK)); simp only [Act.put, List.getElem_toArray, List.getElem_cons_succ, List.getElem_cons_zero, List.setIfInBounds_toArray, List.set_cons_zero, List.set_cons_succ])
      (apply Text.sees (hw := by kernel_rfl); (focus (intro x hx K hK; have hc := CE2.out x hx; go_simp; exact hK)); simp only [Act.put, List.getElem_toArray, List.getElem_cons_succ, List.getElem_cons_zero, List.setIfInBounds_toArray, List.set_cons_zero, List.set_cons_succ])
      (apply Text.sees (hw := by kernel_rfl); (focus (intro x hx K hK; have hc := CE2.out x hx; go_simp; exact hK)); simp only [Act.put, List.getElem_toArray, List.getElem_cons_succ, List.getElem_cons_zero, List.setIfInBounds_toArray, List.set_cons_zero, List.set_cons_succ])
      (refine Text.val (fun x hx => build_yes rfl rfl rfl rfl x) (by kernel_rfl) ?_; simp only [Act.put, List.getElem_toArray, List.getElem_cons_succ, List.getElem_cons_zero, List.setIfInBounds_toArray, List.set_cons_zero, List.set_cons_succ])
      intro x hx0
      have hx := by2.trans (hx0.mono by2.size)
      obtain ⟨L4, D4, b8, J6⟩ := HY.out
      have D5 : AnsAt x w.heap.size zeroJ zeroS4 false ⟨#[]⟩ 0 := Blk.old D4 hx
      refine wpList_store_row rfl 38 (.tmp 2) (.tmp 42) rfl w.heap.size (ansC (readJ bs) s true (nameP 5) (rdF bs).2.1) rfl rfl 38 _ D5 info38 (by rw [ansC_size, ansC_size]) (ans_one _ _ _ _ _) ?_
      go_wp2
      rw [HH.out.1 HOk.out, isB_yes HOk.out, HP5.out]
      refine bodyPost_ret (v := .agg (ansC (readJ bs) s true (nameP 5) (rdF bs).2.1)) ?_ rfl ⟨s, rfl, ?_, below_row (tstep b8 hx b8.size) (Nat.le_refl _) _⟩
      · exact results_cell_row Try.results9 _ _ _ 38 _ _ _ rfl (Blk.row D5 _) Try.underlying38 rfl info38
      · exact ((L4.1.1.old hx).row (by omega) _).lists L4.1.2
    · have hdc : decide (jobE (readJ bs) = bs) = false := by simpa using hk
      have HNo := Lib.hid fun e => hk (hiff.2 e)
      rw [hdc] at cs2
      clear hk hdc hiff
      go_upto_region 6 with (go_at_call 14; refine (cs2 Y (Below.refl _ Y)).mono ?_; rintro e Y2 ⟨rfl, by2⟩)
      have CE2 := Lib.hid fun y (hy : Old Y2 y) => CE.out y (by2.trans (hy.mono by2.size))
      (refine wp_region_text (Old Y2) 12 (by kernel_rfl) (by kernel_rfl) (Below.refl _ Y2).drew ?_; simp only [List.take_succ_cons, List.take_zero, List.drop_succ_cons, List.drop_zero])
      repeat (first | (apply Text.sees (hw := by kernel_rfl); (focus (intro x hx K hK; have hc := CE2.out x hx; go_simp; exact hK)); simp only [Act.put, List.getElem_toArray, List.getElem_cons_succ, List.getElem_cons_zero, List.setIfInBounds_toArray, List.set_cons_zero, List.set_cons_succ]) | (apply Text.idle; (focus (intro x hx K hK; go_simp; exact hK)); simp only [Act.put, List.getElem_toArray, List.getElem_cons_succ, List.getElem_cons_zero, List.setIfInBounds_toArray, List.set_cons_zero, List.set_cons_succ]))
      intro x hx0
      have hx := by2.trans (hx0.mono by2.size)
      obtain ⟨L4, D4, b8, J6⟩ := HY.out
      have D5 : AnsAt x w.heap.size zeroJ zeroS4 false ⟨#[]⟩ 0 := Blk.old D4 hx
      refine wpList_store_row rfl 38 (.tmp 2) (.tmp 54) rfl w.heap.size (ansC zeroJ zeroS4 false (nameP 5) (rdF bs).2.1) rfl rfl 38 _ D5 info38 (by rw [ansC_size, ansC_size]) (ans_one _ _ _ _ _) ?_
      go_wp2
      rw [HH.out.2.1 HNo.out, isB_no HNo.out, HP5.out]
      refine bodyPost_ret (v := .agg (ansC zeroJ zeroS4 false (nameP 5) (rdF bs).2.1)) ?_ rfl ⟨zeroS4, rfl, zero_lists _, below_row (tstep b8 hx b8.size) (Nat.le_refl _) _⟩
      exact results_cell_row Try.results9 _ _ _ 38 _ _ _ rfl (Blk.row D5 _) Try.underlying38 rfl info38
end Go.Proofs.Ytjfjekncmejfpaa
namespace Go.Proofs.Ytjfjekncmejfpaa
open Go.RowKit
set_option maxRecDepth 20000
set_option linter.unusedVariables false
set_option linter.unusedSimpArgs false

/-! ### Plain mathematics -/
theorem okB_enc {j : J4} (h : okJ j) : okB (jobE j) ∧ decJ (jobE j) = j ∧ (jobR (jobE j) 0 false).2.1 = (jobE j).length ∧ (jobR (jobE j) 0 false).2.2 = false := by
  have e := job_reads.whole h []
  rw [List.append_nil] at e
  have ok : okB (jobE j) := by
    unfold okB
    rw [e]
    exact ⟨rfl, rfl⟩
  refine ⟨ok, ?_, ?_, ?_⟩
  · rw [decJ_yes ok, e]
  · rw [e]
  · rw [e]
theorem endR_ok {bs : List Int} (h : okB bs) : endR (jobR bs 0 false).2.2 (jobR bs 0 false).2.1 bs.length = 0 := by
  unfold endR
  exact if_pos h
theorem endR_no {bs : List Int} (h : ¬ okB bs) : endR (jobR bs 0 false).2.2 (jobR bs 0 false).2.1 bs.length = 2 := by
  unfold endR
  exact if_neg h
theorem begB_enc (j : J4) : begB (jobE j) = true := by
  have e := (mark_reads magicS).back () [] (geomE j.g ++ (listE itemE j.items ++ (listE noteE j.notes ++ listE floatE j.floats))) trivial
  have e2 : bytesOf magicS = [84, 89, 77, 49] := by decide
  have e3 : jobE j = [] ++ (bytesOf magicS ++ (geomE j.g ++ (listE itemE j.items ++ (listE noteE j.notes ++ listE floatE j.floats)))) := by rw [e2]; rfl
  unfold begB
  rw [e3]
  have e4 : markR ([] ++ (bytesOf magicS ++ (geomE j.g ++ (listE itemE j.items ++ (listE noteE j.notes ++ listE floatE j.floats))))) 0 false magicS = (0 + (bytesOf magicS).length, false) := congrArg Prod.snd e
  rw [e4]
  rfl
theorem none_pos : pos1 [] = (0, true) := by decide
theorem none_part : partJ [] = 0 := by
  rw [partJ_pos, none_pos]
  rfl
theorem none_at : (jobR [] 0 false).2.1 = 0 := by
  have h1 : (posJ [] (0 + 1)).2 = true := by rw [Nat.zero_add, posJ1, none_pos]
  have := posJ_end [] 0 (by omega) h1
  rw [jobR_pos, this, Nat.zero_add, posJ1, none_pos]
def wakeJ17 : J4 := ⟨⟨3, 0, 0, 0, 0, 0, 0, 0, 0, 0, 0, 0, 0, 0, 0, 0, 0, 0, false⟩, [⟨4, 0, 0, 0, 0, 0, 5⟩], [], []⟩
theorem wake17_ok : okJ wakeJ17 := by
  have r : ∀ n : Int, 0 ≤ n → n ≤ 5 → inR n := fun n h1 h2 => by unfold inR; omega
  refine ⟨⟨r _ (by decide) (by decide), r _ (by decide) (by decide), r _ (by decide) (by decide), r _ (by decide) (by decide), r _ (by decide) (by decide), r _ (by decide) (by decide), r _ (by decide) (by decide), r _ (by decide) (by decide), r _ (by decide) (by decide), r _ (by decide) (by decide), r _ (by decide) (by decide), r _ (by decide) (by decide), r _ (by decide) (by decide), r _ (by decide) (by decide), r _ (by decide) (by decide), r _ (by decide) (by decide), r _ (by decide) (by decide), r _ (by decide) (by decide)⟩, ⟨by decide, fun x hx => ?_⟩, ⟨by decide, fun x hx => by simp [wakeJ17] at hx⟩, ⟨by decide, fun x hx => by simp [wakeJ17] at hx⟩⟩
  obtain rfl : x = ⟨4, 0, 0, 0, 0, 0, 5⟩ := by simpa [wakeJ17] using hx
  exact ⟨⟨by decide, by decide, by simp⟩, r _ (by decide) (by decide), r _ (by decide) (by decide), r _ (by decide) (by decide), r _ (by decide) (by decide), r _ (by decide) (by decide), r _ (by decide) (by decide), r _ (by decide) (by decide)⟩
def wakeS17 (b : Nat) : S3 := ⟨some ⟨b, 0, none⟩, 1, none, 0, none, 0⟩
theorem wake17_lists (w : World) : Lists (w.alloc (.cells #[.int .i64 4, .int .i64 0, .int .i64 0, .int .i64 0, .int .i64 0, .int .i64 0, .int .i64 5] 49)) wakeJ17 (wakeS17 w.heap.size) := by
  have B1 := blk_new w #[.int .i64 4, .int .i64 0, .int .i64 0, .int .i64 0, .int .i64 0, .int .i64 0, .int .i64 5] 49
  refine ⟨wake17_ok.ins, fun k j hk hj => ?_, ⟨fun _ => zeroH, fun k j hk => absurd hk (Nat.not_lt_zero k), fun k hk => absurd hk (Nat.not_lt_zero k)⟩, fun k j hk => absurd hk (Nat.not_lt_zero k), (show 1 ≤ 1 ∧ 1 ≤ maxLen by decide), (show 0 ≤ 0 ∧ 0 ≤ maxLen by decide), (show 0 ≤ 0 ∧ 0 ≤ maxLen by decide)⟩
  refine ⟨w.heap.size, 0, rfl, B1.lt, ?_⟩
  rw [B1.cell, Nat.zero_add]
  have hk' : k < 1 := hk
  obtain rfl : k = 0 := by omega
  rcases (show j = 0 ∨ j = 1 ∨ j = 2 ∨ j = 3 ∨ j = 4 ∨ j = 5 ∨ j = 6 by omega) with rfl | rfl | rfl | rfl | rfl | rfl | rfl <;> rfl
theorem wake17_few : Few wakeJ17 := ⟨by decide, by decide, by decide, fun k => by simp [wakeJ17, zeroN]⟩
theorem wake17_bytes : Byt (jobE wakeJ17) := job_byt wake17_ok
theorem wake17_len (w : World) : (jobE wakeJ17).length ≤ 1000000 := by
  have hL := wake17_lists w
  obtain ⟨h1, h2, h3, h4, h5, h6, h7⟩ := jobs_len hL (wake17_few.mid hL) (fun x hx => (wake17_ok.2.1.2 x hx).1)
  unfold jobE
  simp only [List.length_append]
  simp only [List.length_cons, List.length_nil]
  omega
set_option maxHeartbeats 2000000 in
theorem awake17 (w : World) : Calls Try.prog 6 #[] w fun e w' => e = .returned (.bool true) ∧ Below w.heap.size w w' := by
  have L0 := wake17_lists w
  have b0 := tbel1 w (.cells #[.int .i64 4, .int .i64 0, .int .i64 0, .int .i64 0, .int .i64 0, .int .i64 0, .int .i64 5] 49)
  have c13 := Job_any wakeJ17 (wakeS17 w.heap.size) _ L0 (wake17_few.mid L0)
  have hbare : isB (∀ x ∈ wakeJ17.items, bareI x) = true := isB_yes fun x hx => (wake17_ok.2.1.2 x hx).1
  have hE : jobB wakeJ17 = jobE wakeJ17 := by
    unfold jobB
    rw [hbare, cond_true]
  rw [hbare, hE] at c13
  obtain ⟨hok, hdec, hat, hst⟩ := okB_enc wake17_ok
  have hend := endR_ok hok
  have hbeg := begB_enc wakeJ17
  have hlen := wake17_len w
  have hbyt := wake17_bytes
  have c7 := fun (a : Option Addr) (c : Nat) (y : World) (hy : Row y a c (jobE wakeJ17)) => dJob_any (jobE wakeJ17) a c y hlen hbyt hy
  have c11 := fun (a : Option Addr) (c : Nat) (y : World) (hy : Row y a c (jobE wakeJ17)) => dBegins_any (jobE wakeJ17) a c y hlen hbyt hy
  rw [hdec, hend] at c7
  rw [hbeg] at c11
  have c8 := fun (y : World) => dWhere_any [] none 0 y (by simp) (fun x hx => by simp at hx) (Row.none y 0)
  rw [none_part, none_at] at c8
  generalize jobE wakeJ17 = E at *
  clear hbare hE hok hdec hat hst hend hbeg hbyt L0
  have HC := Lib.hid (And.intro c7 (And.intro c11 c8))
  clear c7 c11 c8
  go_enter Try.func6, Try.ntmps6
  go_wp2_with fail
  refine c13.mono ?_
  rintro e w1 ⟨a, c, rfl, Rw, b1⟩
  have b2 := tstep b0 b1 b0.size
  obtain ⟨c7, c11, c8⟩ := HC.out
  have CF := Lib.hid fun (y : World) (hy : Old w1 y) => trivial
  go_upto_region 2 with (fail)
  (refine wp_region_plain (Old w1) 1 (Below.refl _ w1) ?_; simp only [List.take_succ_cons, List.take_zero, List.drop_succ_cons, List.drop_zero])
  repeat (first | (apply Text.sees (hw := by kernel_rfl); (focus (intro x hx K hK; have hc := CF.out x hx; go_simp; exact hK)); simp only [Act.put, List.getElem_toArray, List.getElem_cons_succ, List.getElem_cons_zero, List.setIfInBounds_toArray, List.set_cons_zero, List.set_cons_succ]) | (apply Text.idle; (focus (intro x hx K hK; go_simp; exact hK)); simp only [Act.put, List.getElem_toArray, List.getElem_cons_succ, List.getElem_cons_zero, List.setIfInBounds_toArray, List.set_cons_zero, List.set_cons_succ]))
  intro x hx
  refine wpl_call (V := fun v y => ∃ s, v = .tuple #[.agg (jobC wakeJ17 s), .int .i64 0] ∧ Lists y wakeJ17 s ∧ Below x.heap.size x y) rfl (by kernel_rfl) ((c7 a c x (Rw.carry hx)).mono fun e y hh => by obtain ⟨s, h1, h2⟩ := hh; exact ⟨_, h1, s, rfl, h2⟩) ?_
  rintro v y ⟨s, rfl, L1, b3⟩
  refine wpl_step (w' := y) (v := .tuple #[.agg (jobC wakeJ17 s), .int .i64 0]) rfl (by kernel_rfl) ?_
  refine wpl_step (w' := y) (v := .agg (jobC wakeJ17 s)) rfl (by kernel_rfl) ?_
  refine wpl_step (w' := y) (v := .int .i64 0) rfl (by kernel_rfl) ?_
  refine make_job (j := wakeJ17) (s := s) rfl rfl rfl (.tmp 3) (.tmp 18) rfl rfl (by kernel_rfl) ?_
  have J3 := job_new y wakeJ17 s
  have b4 := tbel1 y (.cells (jobC wakeJ17 s) 31)
  have b5 := tstep hx b3 hx.size
  have b6 := tstep b5 b4 b5.size
  have Rw3 := Rw.carry b6
  have b7 := tstep b2 b6 b2.size
  simp only [Act.put, List.getElem_toArray, List.getElem_cons_succ, List.getElem_cons_zero, List.setIfInBounds_toArray, List.set_cons_zero, List.set_cons_succ]
  clear L1 b3 b4 b5 b6 Rw hx b2 b0 b1 c7 CF
  go_upto_region 3 with (fail)
  generalize y.alloc _ = V at *
  generalize y.heap.size = b at *
  go_wp2_with fail
  refine (c8 V).mono ?_
  rintro e w4 ⟨rfl, b8⟩
  have J4 := J3.old b8
  have q0 : w4.cell? ⟨b, 0, none⟩ = some (.int .i64 3) := J4.geo.1
  have q19 : w4.cell? ⟨b, 19, none⟩ = some (.slice s.ia 1 s.ic) := J4.three.1
  have c11' := c11 a c w4 (Rw3.carry b8)
  have b9 := tstep b7 b8 b7.size
  have hn0 : (nameP 0).toList = [109, 97, 103, 105, 99] := by
    rw [ByteArray.toList_eq]
    rfl
  clear J3 J4 Rw3 b7 b8 c8 c11
  go_wp2_with (go_at_call 11; refine c11'.mono ?_; rintro e w5 ⟨rfl, b10⟩)
  go_ret
  exact ⟨rfl, tstep b9 b10 b9.size⟩
end Go.Proofs.Ytjfjekncmejfpaa
