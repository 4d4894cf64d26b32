/- Geom, Items, Job, Magic of package encode. -/
import Derived.Test.YtjfjekncmejfpaaQEch
import Derived.Test.YtjfjekncmejfpaaJSnp
namespace Go.Proofs.Ytjfjekncmejfpaa
open Go.RowKit
set_option maxRecDepth 20000
set_option linter.unusedVariables false
set_option linter.unusedSimpArgs false

theorem wpl_load_geo {ops : Array Oper} {rest : List Oper} {o : Oper} {a : Act} {w : World} {Q : Exit → Act → World → Prop} {g : G19} {b : Nat} (hgd : o.guard = none) (x : Operand) (ho : o.op = .load 26 x) (hx : a.eval x = .pointer (some ⟨b, 0, none⟩)) (h : GeoAt w b g)
    (hk : wpList Try.prog ops Q rest (a.put o.dst (.agg (geoC g))) w) : wpList Try.prog ops Q (o :: rest) a w :=
  wpList_plain hgd fun K hK => by
    unfold Oper.wp
    rw [load_geo x ho hx h]
    exact hK _ _ hk
theorem wpl_load_jgeo {ops : Array Oper} {rest : List Oper} {o : Oper} {a : Act} {w : World} {Q : Exit → Act → World → Prop} {j : J4} {s : S3} {b : Nat} (hgd : o.guard = none) (x : Operand) (ho : o.op = .load 26 x) (hx : a.eval x = .pointer (some ⟨b, 0, none⟩)) (h : JobAt w b j s)
    (hk : wpList Try.prog ops Q rest (a.put o.dst (.agg (geoC j.g))) w) : wpList Try.prog ops Q (o :: rest) a w :=
  wpList_plain hgd fun K hK => by
    unfold Oper.wp
    rw [load_jgeo x ho hx h]
    exact hK _ _ hk
theorem Magic_any (w : World) : Calls Try.prog 24 #[] w fun e w' => e = .returned (.string ⟨#[84, 89, 77, 49]⟩) ∧ w = w' := by
  go_enter Try.func24, Try.ntmps24
  go_wp2
  go_ret
  exact ⟨rfl, rfl⟩
theorem chains18 {g : G19} (h : inE g) : (geomE g).length ≤ 181 := by
  have h1 := flatZ_len (numsG_in h)
  have h2 : (numsG g).length = 18 := rfl
  unfold geomE
  rw [List.length_append, List.length_singleton]
  omega
theorem listE_len {α : Type} {f : α → List Int} {c : Nat} {l : List α} (h : ∀ x ∈ l, (f x).length ≤ c) (hl : l.length ≤ 100) : (listE f l).length ≤ 10 + c * 100 := by
  have h1 := flat_bound h
  have hf := fold_range (l.length : Int) (by omega) (by omega)
  have h2 := chain_ten _ hf.1 hf.2
  have h3 := Nat.mul_le_mul_left c hl
  unfold listE chZ
  rw [List.length_append]
  omega
theorem listE_le {α : Type} {f : α → List Int} {c n : Nat} {l : List α} (h : ∀ x ∈ l, (f x).length ≤ c) (hl : l.length ≤ n) (hn : n ≤ 1000000) : (listE f l).length ≤ 10 + c * n := by
  have h1 := flat_bound h
  have hf := fold_range (l.length : Int) (by omega) (by omega)
  have h2 := chain_ten _ hf.1 hf.2
  have h3 := Nat.mul_le_mul_left c hl
  unfold listE chZ
  rw [List.length_append]
  omega
theorem items_le {L : List I7} {n : Nat} (hin : ∀ k, inI (L.getD k zeroI)) (hb : ∀ x ∈ L, bareI x) (hl : L.length ≤ n) (hn : n ≤ 1000000) : (listE itemE L).length ≤ 10 + 70 * n :=
  listE_le (c := 70) (fun x hx => itemE_len (all_in hin x hx) (hb x hx).1 (hb x hx).2.1) hl hn
theorem items_len {L : List I7} (hin : ∀ k, inI (L.getD k zeroI)) (hb : ∀ x ∈ L, bareI x) (hl : L.length ≤ 100) : (listE itemE L).length ≤ 7010 :=
  listE_len (c := 70) (fun x hx => itemE_len (all_in hin x hx) (hb x hx).1 (hb x hx).2.1) hl
/-- The encoding of items, if they are bare. -/
noncomputable def itemsB (L : List I7) : List Int := bif isB (∀ x ∈ L, bareI x) then listE itemE L else []
theorem JobAt.below {w x : World} {b B : Nat} {j : J4} {s : S3} (h : JobAt w b j s) (hx : Below B w x) (hB : b < B) : JobAt x b j s := (hx.block b hB).trans h
/-- The encoding of a job, if its items are bare. -/
noncomputable def jobB (j : J4) : List Int := bif isB (∀ x ∈ j.items, bareI x) then jobE j else []
theorem jobE_split (j : J4) : jobE j = ((([84, 89, 77, 49] ++ geomE j.g) ++ listE itemE j.items) ++ listE noteE j.notes) ++ listE floatE j.floats := by simp [jobE]
/-- A job of at most 3000 of each, whose notes' encodings take at most 300000 bytes. -/
def Mid (j : J4) : Prop := j.items.length ≤ 3000 ∧ j.notes.length ≤ 3000 ∧ j.floats.length ≤ 3000 ∧ (∀ k, (j.notes.getD k zeroN).l.length ≤ 3000 ∧ (j.notes.getD k zeroN).p.length ≤ 3000) ∧ (j.notes.flatMap noteE).length ≤ 300000
theorem Few.mid {j : J4} {s : S3} {w : World} (hL : Lists w j s) (h : Few j) : Mid j := by
  obtain ⟨hs, _, hN⟩ := hL.notes
  obtain ⟨f1, f2, f3, f4⟩ := h
  refine ⟨by omega, by omega, by omega, fun k => ⟨by have := (f4 k).1; omega, by have := (f4 k).2; omega⟩, ?_⟩
  have := flat_bound (f := noteE) (c := 2020) (notes_len f4 hN)
  omega
theorem jobs_len {j : J4} {s : S3} {w : World} (hL : Lists w j s) (hf : Mid j) (hb : ∀ x ∈ j.items, bareI x) : (geomE j.g).length ≤ 181 ∧ (j.items.flatMap itemE).length ≤ 210000 ∧ (j.notes.flatMap noteE).length ≤ 300000 ∧ (j.floats.flatMap floatE).length ≤ 90000 ∧ (listE itemE j.items).length ≤ 210010 ∧ (listE noteE j.notes).length ≤ 300010 ∧ (listE floatE j.floats).length ≤ 90010 := by
  obtain ⟨⟨ig, ii, iff⟩, _, _, _⟩ := hL
  obtain ⟨f1, f2, f3, f4, f5⟩ := hf
  have a := flat_bound (f := itemE) (c := 70) (l := j.items) fun x hx => itemE_len (all_in ii x hx) (hb x hx).1 (hb x hx).2.1
  have b := flat_bound (f := floatE) (c := 30) (l := j.floats) fun x hx => floatE_len (all_in iff x hx)
  have hc := fold_range (j.notes.length : Int) (by omega) (by omega)
  have hc' := chain_ten _ hc.1 hc.2
  refine ⟨chains18 ig, by omega, f5, by omega, items_le ii hb f1 (by omega), ?_, listE_le (c := 30) (fun x hx => floatE_len (all_in iff x hx)) f3 (by omega)⟩
  unfold listE chZ
  rw [List.length_append]
  omega
theorem jobB_len {j : J4} {s : S3} {w : World} (hL : Lists w j s) (hf : Mid j) : (jobB j).length ≤ 700000 := by
  unfold jobB
  by_cases h : ∀ x ∈ j.items, bareI x
  · rw [isB_yes h, cond_true, jobE_split]
    have := jobs_len hL hf h
    simp only [List.length_append, List.length_cons, List.length_nil]
    omega
  · rw [isB_no h]
    simp
set_option maxHeartbeats 1000000 in
theorem Job_any (j : J4) (s : S3) (w : World) (hL : Lists w j s) (hf : Mid j) :
    Calls Try.prog 13 #[.agg (jobC j s)] w fun e w' => ∃ a c, e = .returned (.tuple #[.slice a (jobB j).length c, .bool (isB (∀ x ∈ j.items, bareI x))]) ∧ Row w' a c (jobB j) ∧ Below w.heap.size w w' := by
  have D := job_new w j s
  have b0 := tbel1 w (.cells (jobC j s) 31)
  have cb := bare_any s.ia s.ic j.items _ (by have := hf.1; omega) (hL.carry b0).items
  have hln := jobs_len hL hf
  have hjs := jobE_split j
  unfold jobB
  obtain ⟨R, hR⟩ : ∃ R, R = isB (∀ x ∈ j.items, bareI x) := ⟨_, rfl⟩
  rw [← hR] at cb ⊢
  obtain ⟨q19, q20, q21⟩ := D.three
  cases R
  · simp only [cond_false]
    clear hR hjs hln hf hL
    go_enter Try.func13, Try.ntmps13
    go_upto_region 1 with (fail)
    generalize w.alloc _ = U at *
    go_wp2_with (refine cb.mono ?_; rintro e w1 ⟨rfl, b1⟩)
    go_ret2
    exact ⟨none, 0, rfl, Row.none _ _, tstep b0 b1 b0.size⟩
  · simp only [cond_true]
    have hb := isB_iff.1 hR.symm
    obtain ⟨n1, m2, m3, m4, n2, n3, n4⟩ := hln hb
    have HJ := Lib.hid hjs
    have HL := Lib.hid hL
    have HF := Lib.hid hf
    have HB := Lib.hid hb
    clear hR hjs hln hf hL hb
    generalize jobE j = J at *
    go_enter Try.func13, Try.ntmps13
    go_upto_region 1 with (fail)
    generalize w.alloc _ = U at *
    go_wp2_with fail
    refine cb.mono ?_
    rintro e w1 ⟨rfl, b1⟩
    have W1 := wr_new w1 81 (by decide)
    have b2 := tbel1 w1 (.cells #[.slice none 0 0] 81)
    have hU := b0.size
    have hU2 := D.lt
    have h1 := b1.size
    have D1 := (D.old b1).below b2 (by omega)
    have b3 := tstep (tstep b0 b1 hU) b2 (by omega)
    clear cb q19 q20 q21 D b1 b2 b0
    go_upto_region 4 with (fail)
    generalize w1.alloc _ = V at *
    have cm := wmark_any w1.heap.size w1.heap.size [] ⟨#[84, 89, 77, 49]⟩ (by show 0 + 4 ≤ _; omega) V W1
    generalize w1.heap.size = B at *
    have hB : w.heap.size < B := by omega
    have hB' : w.heap.size ≤ B := by omega
    go_upto_region 5 with (refine cm.mono ?_; rintro e w2 ⟨rfl, W2, b2, K2⟩)
    have D2 := D1.below b2 hB
    have b4 := Below.trans b3 (b2.mono hB')
    clear cm W1 D1 b3 b2 K2 hU hU2 h1
    rw [List.nil_append, show bytesOf ⟨#[84, 89, 77, 49]⟩ = [84, 89, 77, 49] from rfl] at W2
    have CE := Lib.hid fun x (hx : Old w2 x) => (D2.old hx).three
    (refine wp_region_plain (Old w2) 2 (Below.refl _ w2) ?_; simp only [List.take_succ_cons, List.take_zero, List.drop_succ_cons, List.drop_zero])
    (apply Text.sees (hw := by kernel_rfl); (focus (intro x hx K hK; have hc := CE.out x hx; go_simp; exact hK)); simp only [Act.put, List.getElem_toArray, List.getElem_cons_succ, List.getElem_cons_zero, List.setIfInBounds_toArray, List.set_cons_zero, List.set_cons_succ])
    (refine Text.val (fun x hx => load_jgeo (.tmp 11) rfl rfl (D2.old hx)) (by kernel_rfl) ?_; simp only [Act.put, List.getElem_toArray, List.getElem_cons_succ, List.getElem_cons_zero, List.setIfInBounds_toArray, List.set_cons_zero, List.set_cons_succ])
    intro x hx
    have W3 := W2.old hx
    have D3 := D2.old hx
    have b5 := tstep b4 hx b4.size
    clear CE W2 D2 b4 hx
    have cg := wgeom_any B B [84, 89, 77, 49] j.g HL.out.ins.1 (by simp) x W3
    go_upto_region 6 with (go_at_call 28; refine cg.mono ?_; rintro e w3 ⟨rfl, W4, b6, K4⟩)
    have D4 := D3.below b6 hB
    have b7 := Below.trans b5 (b6.mono hB')
    clear cg W3 D3 b5 b6 K4
    obtain ⟨q19, q20, q21⟩ := D4.three
    have ci := each_items B B _ s.ia s.ic j.items w3 HL.out.ins.2.1 (fun x hx => ⟨(HB.out x hx).1, (HB.out x hx).2.1⟩) (by have := HF.out.1; omega) (by simp only [List.length_append, List.length_cons, List.length_nil]; omega) (fun y hy => (HL.out.carry (Below.trans b7 (hy.mono hB'))).items) W4
    go_upto_region 7 with (go_at_call 29; refine ci.mono ?_; rintro e w5 ⟨rfl, W5, b8, K5⟩)
    have D5 := D4.below b8 hB
    have b9 := Below.trans b7 (b8.mono hB')
    clear ci W4 D4 b7 b8 K5 q19 q20 q21
    obtain ⟨q19, q20, q21⟩ := D5.three
    obtain ⟨hs, hsE, hsN⟩ := HL.out.notes
    have cn := each_notes B B _ s.na s.nc j.notes hs w5 (fun k => ⟨by have := (HF.out.2.2.2.1 k).1; omega, by have := (HF.out.2.2.2.1 k).2; omega⟩) (by have := HF.out.2.1; omega) (by simp only [List.length_append, List.length_cons, List.length_nil]; omega) (fun y hy => ⟨hsE.carry (Below.trans b9 (hy.mono hB')), fun k hk => (hsN k hk).carry (Below.trans b9 (hy.mono hB'))⟩) W5
    clear hsE hsN
    go_upto_region 8 with (go_at_call 31; refine cn.mono ?_; rintro e w6 ⟨rfl, W6, b10, K6⟩)
    have D6 := D5.below b10 hB
    have b11 := Below.trans b9 (b10.mono hB')
    clear cn W5 D5 b9 b10 K6 q19 q20 q21
    obtain ⟨q19, q20, q21⟩ := D6.three
    have cf := each_floats B B _ s.fa s.fc j.floats w6 HL.out.ins.2.2 (by have := HF.out.2.2.1; omega) (by simp only [List.length_append, List.length_cons, List.length_nil]; omega) (fun y hy => (HL.out.carry (Below.trans b11 (hy.mono hB'))).floats) W6
    go_upto_region 9 with (go_at_call 33; refine cf.mono ?_; rintro e w7 ⟨rfl, W7, b12, K7⟩)
    have b13 := Below.trans b11 (b12.mono hB')
    clear cf W6 D6 b11 b12 K7 q19 q20 q21
    rw [← HJ.out] at W7
    have hJ : J.length ≤ 1000000 := by rw [HJ.out]; simp only [List.length_append, List.length_cons, List.length_nil]; omega
    have cy := bytes_any B B J hJ w7 W7
    go_wp2_with (go_at_call 35; refine cy.mono ?_; rintro e w8 ⟨v, rfl, o8, b14⟩)
    go_ret2
    obtain ⟨a8, c8, rfl, r8⟩ := own_row o8
    exact ⟨a8, c8, rfl, r8, tstep b13 b14 b13.size⟩
end Go.Proofs.Ytjfjekncmejfpaa
