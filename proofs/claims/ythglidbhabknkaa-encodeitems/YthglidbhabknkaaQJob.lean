/- Geom, Items, Job, Magic of package encode. -/
import Derived.Test.YthglidbhabknkaaQEch
import Derived.Test.YthglidbhabknkaaJSnp
namespace Go.Proofs.Ythglidbhabknkaa
open Go.RowKit
set_option maxRecDepth 20000
set_option linter.unusedVariables false
set_option linter.unusedSimpArgs false

theorem wpl_load_geo {ops : Array Oper} {rest : List Oper} {o : Oper} {a : Act} {w : World} {Q : Exit → Act → World → Prop} {g : G19} {b : Nat} (hgd : o.guard = none) (x : Operand) (ho : o.op = .load 24 x) (hx : a.eval x = .pointer (some ⟨b, 0, none⟩)) (h : GeoAt w b g)
    (hk : wpList Try.prog ops Q rest (a.put o.dst (.agg (geoC g))) w) : wpList Try.prog ops Q (o :: rest) a w :=
  wpList_plain hgd fun K hK => by
    unfold Oper.wp
    rw [load_geo x ho hx h]
    exact hK _ _ hk
theorem wpl_load_jgeo {ops : Array Oper} {rest : List Oper} {o : Oper} {a : Act} {w : World} {Q : Exit → Act → World → Prop} {j : J4} {s : S3} {b : Nat} (hgd : o.guard = none) (x : Operand) (ho : o.op = .load 24 x) (hx : a.eval x = .pointer (some ⟨b, 0, none⟩)) (h : JobAt w b j s)
    (hk : wpList Try.prog ops Q rest (a.put o.dst (.agg (geoC j.g))) w) : wpList Try.prog ops Q (o :: rest) a w :=
  wpList_plain hgd fun K hK => by
    unfold Oper.wp
    rw [load_jgeo x ho hx h]
    exact hK _ _ hk
theorem Magic_any (w : World) : Calls Try.prog 18 #[] w fun e w' => e = .returned (.string ⟨#[84, 89, 77, 49]⟩) ∧ w = w' := by
  go_enter Try.func18, Try.ntmps18
  go_wp2
  go_ret
  exact ⟨rfl, rfl⟩
theorem chains18 {g : G19} (h : inE g) : (geomE g).length ≤ 181 := by
  have h1 := flatZ_len (numsG_in h)
  have h2 : (numsG g).length = 18 := rfl
  unfold geomE
  rw [List.length_append, List.length_singleton]
  omega
theorem Geom_any (x : G19) (hx : inE x) (w : World) :
    Calls Try.prog 11 #[.agg (geoC x)] w fun e w' => ∃ a c, e = .returned (.slice a (geomE x).length c) ∧ Row w' a c (geomE x) ∧ Below w.heap.size w w' := by
  have D := geo_new w x
  have W1 := wr_new (w.alloc (.cells (geoC x) 24)) 55 (by decide)
  have b0 := tbel2 w (.cells (geoC x) 24) (.cells #[.slice none 0 0] 55)
  have D1 := D.old (tbel1 (w.alloc (.cells (geoC x) 24)) (.cells #[.slice none 0 0] 55))
  have ln := chains18 hx
  rw [show (w.alloc (.cells (geoC x) 24)).heap.size = w.heap.size + 1 by simp] at *
  have c := wgeom_any (w.heap.size + 1) (w.heap.size + 1) [] x hx (by simp) _ W1
  generalize geomE x = E at *
  go_enter Try.func11, Try.ntmps11
  go_upto_region 2 with (fail)
  generalize (w.alloc _).alloc _ = U at *
  refine wp_region_lit ?_
  refine wpl_load_geo rfl (.tmp 1) rfl rfl D1 ?_
  simp only [Act.put, List.getElem_toArray, List.getElem_cons_succ, List.getElem_cons_zero, List.setIfInBounds_toArray, List.set_cons_zero, List.set_cons_succ]
  go_wp2_with (go_at_call 21; refine c.mono ?_; rintro e w2 ⟨rfl, W2, b2, K2⟩)
  rw [List.nil_append] at W2
  have c2 := bytes_any _ _ E (by omega) w2 W2
  go_wp2_with (refine c2.mono ?_; rintro e w3 ⟨v, rfl, o3, b3⟩)
  go_ret
  obtain ⟨a3, c3, rfl, r3⟩ := own_row o3
  refine ⟨a3, c3, rfl, r3, tstep (Below.trans b0 (b2.mono (by omega))) b3 ?_⟩
  have := b0.size
  have := b2.size
  omega
theorem listE_len {α : Type} {f : α → List Int} {c : Nat} {l : List α} (h : ∀ x ∈ l, (f x).length ≤ c) (hl : l.length ≤ 100) : (listE f l).length ≤ 10 + c * 100 := by
  have h1 := flat_bound h
  have hf := fold_range (l.length : Int) (by omega) (by omega)
  have h2 := chain_ten _ hf.1 hf.2
  have h3 := Nat.mul_le_mul_left c hl
  unfold listE chZ
  rw [List.length_append]
  omega
theorem items_len {L : List I7} (hin : ∀ k, inI (L.getD k zeroI)) (hb : ∀ x ∈ L, bareI x) (hl : L.length ≤ 100) : (listE itemE L).length ≤ 7010 :=
  listE_len (c := 70) (fun x hx => itemE_len (all_in hin x hx) (hb x hx).1 (hb x hx).2.1) hl
/-- The encoding of items, if they are bare. -/
noncomputable def itemsB (L : List I7) : List Int := bif isB (∀ x ∈ L, bareI x) then listE itemE L else []
theorem Items_any (a : Option Addr) (cap : Nat) (L : List I7) (w : World) (hin : ∀ k, inI (L.getD k zeroI)) (hl : L.length ≤ 100) (ha : Els 7 encI w a L.length fun k => L.getD k zeroI) :
    Calls Try.prog 13 #[.slice a L.length cap] w fun e w' => ∃ a' c', e = .returned (.tuple #[.slice a' (itemsB L).length c', .bool (isB (∀ x ∈ L, bareI x))]) ∧ Row w' a' c' (itemsB L) ∧ Below w.heap.size w w' := by
  have cb := bare_any a cap L w (by omega) ha
  unfold itemsB
  obtain ⟨R, hR⟩ : ∃ R, R = isB (∀ x ∈ L, bareI x) := ⟨_, rfl⟩
  rw [← hR] at cb ⊢
  cases R
  · simp only [cond_false]
    clear hR ha
    go_enter Try.func13, Try.ntmps13
    go_wp2_with (refine cb.mono ?_; rintro e w1 ⟨rfl, b1⟩)
    go_ret2
    exact ⟨none, 0, rfl, Row.none _ _, b1⟩
  · simp only [cond_true]
    have hb := isB_iff.1 hR.symm
    have ln := items_len hin hb hl
    have HA := Lib.hid ha
    have HE := Lib.hid fun (B g : Nat) (w : World) hR hW => each_items B g [] a cap L w hin (fun x hx => ⟨(hb x hx).1, (hb x hx).2.1⟩) hl (by simp) hR hW
    clear ha hR hb hin
    generalize listE itemE L = E at *
    go_enter Try.func13, Try.ntmps13
    go_wp2_with fail
    refine cb.mono ?_
    rintro e w1 ⟨rfl, b1⟩
    have W1 := wr_new w1 55 (by decide)
    have b2 := tbel1 w1 (.cells #[.slice none 0 0] 55)
    have c := HE.out w1.heap.size w1.heap.size _ (fun y hy => (HA.out.carry b1).carry (Below.trans b2 hy)) W1
    have b3 := tstep b1 b2 b1.size
    have hB := b1.size
    have hs : w1.heap.size + 1 = (w1.alloc (.cells #[.slice none 0 0] 55)).heap.size := by simp
    clear cb HE HA W1 b1 b2
    go_wp2_with fail
    refine c.mono ?_
    rintro e w4 ⟨rfl, W4, b4, K4⟩
    rw [List.nil_append] at W4
    have c2 := bytes_any _ _ E (by omega) w4 W4
    have b5 := Below.trans b3 (b4.mono hB)
    have hs4 := b4.size
    clear c b4 K4 b3 W4
    go_wp2_with (refine c2.mono ?_; rintro e w6 ⟨v, rfl, o6, b6⟩)
    go_ret2
    obtain ⟨a6, c6, rfl, r6⟩ := own_row o6
    exact ⟨a6, c6, rfl, r6, tstep b5 b6 (by omega)⟩
theorem JobAt.below {w x : World} {b B : Nat} {j : J4} {s : S3} (h : JobAt w b j s) (hx : Below B w x) (hB : b < B) : JobAt x b j s := (hx.block b hB).trans h
/-- The encoding of a job, if its items are bare. -/
noncomputable def jobB (j : J4) : List Int := bif isB (∀ x ∈ j.items, bareI x) then jobE j else []
theorem jobE_split (j : J4) : jobE j = ((([84, 89, 77, 49] ++ geomE j.g) ++ listE itemE j.items) ++ listE noteE j.notes) ++ listE floatE j.floats := by simp [jobE]
theorem jobs_len {j : J4} {s : S3} {w : World} (hL : Lists w j s) (hf : Few j) (hb : ∀ x ∈ j.items, bareI x) : (geomE j.g).length ≤ 181 ∧ (listE itemE j.items).length ≤ 7010 ∧ (listE noteE j.notes).length ≤ 202010 ∧ (listE floatE j.floats).length ≤ 3010 := by
  obtain ⟨⟨ig, ii, iff⟩, _, ⟨hs, _, hN⟩, _⟩ := hL
  obtain ⟨f1, f2, f3, f4⟩ := hf
  exact ⟨chains18 ig, items_len ii hb f1, listE_len (c := 2020) (notes_len f4 hN) f2, listE_len (c := 30) (fun x hx => floatE_len (all_in iff x hx)) f3⟩
theorem jobB_len {j : J4} {s : S3} {w : World} (hL : Lists w j s) (hf : Few j) : (jobB j).length ≤ 300000 := by
  unfold jobB
  by_cases h : ∀ x ∈ j.items, bareI x
  · rw [isB_yes h, cond_true, jobE_split]
    have := jobs_len hL hf h
    simp only [List.length_append, List.length_cons, List.length_nil]
    omega
  · rw [isB_no h]
    simp
set_option maxHeartbeats 1000000 in
theorem Job_any (j : J4) (s : S3) (w : World) (hL : Lists w j s) (hf : Few j) :
    Calls Try.prog 8 #[.agg (jobC j s)] w fun e w' => ∃ a c, e = .returned (.tuple #[.slice a (jobB j).length c, .bool (isB (∀ x ∈ j.items, bareI x))]) ∧ Row w' a c (jobB j) ∧ Below w.heap.size w w' := by
  have D := job_new w j s
  have b0 := tbel1 w (.cells (jobC j s) 29)
  have cb := bare_any s.ia s.ic j.items _ (by have := hf.1; omega) (hL.carry b0).items
  have hln := jobs_len hL hf
  have hjs := jobE_split j
  unfold jobB
  obtain ⟨R, hR⟩ : ∃ R, R = isB (∀ x ∈ j.items, bareI x) := ⟨_, rfl⟩
  rw [← hR] at cb ⊢
  obtain ⟨q19, q20, q21⟩ := D.three
  cases R
  · simp only [cond_false]
    clear hR hjs hln hf hL
    go_enter Try.func8, Try.ntmps8
    go_upto_region 1 with (fail)
    generalize w.alloc _ = U at *
    go_wp2_with (refine cb.mono ?_; rintro e w1 ⟨rfl, b1⟩)
    go_ret2
    exact ⟨none, 0, rfl, Row.none _ _, tstep b0 b1 b0.size⟩
  · simp only [cond_true]
    have hb := isB_iff.1 hR.symm
    obtain ⟨n1, n2, n3, n4⟩ := hln hb
    have HJ := Lib.hid hjs
    have HL := Lib.hid hL
    have HF := Lib.hid hf
    have HB := Lib.hid hb
    clear hR hjs hln hf hL hb
    generalize jobE j = J at *
    go_enter Try.func8, Try.ntmps8
    go_upto_region 1 with (fail)
    generalize w.alloc _ = U at *
    go_wp2_with fail
    refine cb.mono ?_
    rintro e w1 ⟨rfl, b1⟩
    have W1 := wr_new w1 55 (by decide)
    have b2 := tbel1 w1 (.cells #[.slice none 0 0] 55)
    have hU := b0.size
    have hU2 := D.lt
    have h1 := b1.size
    have D1 := (D.old b1).below b2 (by omega)
    have b3 := tstep (tstep b0 b1 hU) b2 (by omega)
    clear cb q19 q20 q21 D b1 b2 b0
    go_upto_region 4 with (fail)
    generalize w1.alloc _ = V at *
    have cm := wmark_any w1.heap.size w1.heap.size [] ⟨#[84, 89, 77, 49]⟩ (by show 0 + 4 ≤ _; omega) V W1
    generalize w1.heap.size = B at *
    have hB : w.heap.size < B := by omega
    have hB' : w.heap.size ≤ B := by omega
    go_upto_region 5 with (refine cm.mono ?_; rintro e w2 ⟨rfl, W2, b2, K2⟩)
    have D2 := D1.below b2 hB
    have b4 := Below.trans b3 (b2.mono hB')
    clear cm W1 D1 b3 b2 K2 hU hU2 h1
    rw [List.nil_append, show bytesOf ⟨#[84, 89, 77, 49]⟩ = [84, 89, 77, 49] from rfl] at W2
    have CE := Lib.hid fun x (hx : Old w2 x) => (D2.old hx).three
    (refine wp_region_plain (Old w2) 2 (Below.refl _ w2) ?_; simp only [List.take_succ_cons, List.take_zero, List.drop_succ_cons, List.drop_zero])
    (apply Text.sees (hw := by kernel_rfl); (focus (intro x hx K hK; have hc := CE.out x hx; go_simp; exact hK)); simp only [Act.put, List.getElem_toArray, List.getElem_cons_succ, List.getElem_cons_zero, List.setIfInBounds_toArray, List.set_cons_zero, List.set_cons_succ])
    (refine Text.val (fun x hx => load_jgeo (.tmp 11) rfl rfl (D2.old hx)) (by kernel_rfl) ?_; simp only [Act.put, List.getElem_toArray, List.getElem_cons_succ, List.getElem_cons_zero, List.setIfInBounds_toArray, List.set_cons_zero, List.set_cons_succ])
    intro x hx
    have W3 := W2.old hx
    have D3 := D2.old hx
    have b5 := tstep b4 hx b4.size
    clear CE W2 D2 b4 hx
    have cg := wgeom_any B B [84, 89, 77, 49] j.g HL.out.ins.1 (by simp) x W3
    go_upto_region 6 with (go_at_call 21; refine cg.mono ?_; rintro e w3 ⟨rfl, W4, b6, K4⟩)
    have D4 := D3.below b6 hB
    have b7 := Below.trans b5 (b6.mono hB')
    clear cg W3 D3 b5 b6 K4
    obtain ⟨q19, q20, q21⟩ := D4.three
    have ci := each_items B B _ s.ia s.ic j.items w3 HL.out.ins.2.1 (fun x hx => ⟨(HB.out x hx).1, (HB.out x hx).2.1⟩) HF.out.1 (by simp only [List.length_append, List.length_cons, List.length_nil]; omega) (fun y hy => (HL.out.carry (Below.trans b7 (hy.mono hB'))).items) W4
    go_upto_region 7 with (go_at_call 22; refine ci.mono ?_; rintro e w5 ⟨rfl, W5, b8, K5⟩)
    have D5 := D4.below b8 hB
    have b9 := Below.trans b7 (b8.mono hB')
    clear ci W4 D4 b7 b8 K5 q19 q20 q21
    obtain ⟨q19, q20, q21⟩ := D5.three
    obtain ⟨hs, hsE, hsN⟩ := HL.out.notes
    have cn := each_notes B B _ s.na s.nc j.notes hs w5 HF.out.2.2.2 HF.out.2.1 (by simp only [List.length_append, List.length_cons, List.length_nil]; omega) (fun y hy => ⟨hsE.carry (Below.trans b9 (hy.mono hB')), fun k hk => (hsN k hk).carry (Below.trans b9 (hy.mono hB'))⟩) W5
    clear hsE hsN
    go_upto_region 8 with (go_at_call 24; refine cn.mono ?_; rintro e w6 ⟨rfl, W6, b10, K6⟩)
    have D6 := D5.below b10 hB
    have b11 := Below.trans b9 (b10.mono hB')
    clear cn W5 D5 b9 b10 K6 q19 q20 q21
    obtain ⟨q19, q20, q21⟩ := D6.three
    have cf := each_floats B B _ s.fa s.fc j.floats w6 HL.out.ins.2.2 HF.out.2.2.1 (by simp only [List.length_append, List.length_cons, List.length_nil]; omega) (fun y hy => (HL.out.carry (Below.trans b11 (hy.mono hB'))).floats) W6
    go_upto_region 9 with (go_at_call 26; refine cf.mono ?_; rintro e w7 ⟨rfl, W7, b12, K7⟩)
    have b13 := Below.trans b11 (b12.mono hB')
    clear cf W6 D6 b11 b12 K7 q19 q20 q21
    rw [← HJ.out] at W7
    have hJ : J.length ≤ 1000000 := by rw [HJ.out]; simp only [List.length_append, List.length_cons, List.length_nil]; omega
    have cy := bytes_any B B J hJ w7 W7
    go_wp2_with (go_at_call 28; refine cy.mono ?_; rintro e w8 ⟨v, rfl, o8, b14⟩)
    go_ret2
    obtain ⟨a8, c8, rfl, r8⟩ := own_row o8
    exact ⟨a8, c8, rfl, r8, tstep b13 b14 b13.size⟩
end Go.Proofs.Ythglidbhabknkaa
