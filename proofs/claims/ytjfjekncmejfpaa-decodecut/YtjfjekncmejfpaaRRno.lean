/- The document's reader of jobs: a note. -/
import Derived.Test.YtjfjekncmejfpaaRRge
import Derived.Test.YtjfjekncmejfpaaJRs2
namespace Go.Proofs.Ytjfjekncmejfpaa
open Go.RowKit
set_option maxRecDepth 20000
set_option linter.unusedVariables false
set_option linter.unusedSimpArgs false

theorem own_cells {w : World} {B : Nat} {v : Value} {l : List Int} (h : OwnK .i64 2 w B v l) : ∃ a c, v = .slice a l.length c ∧ ∀ k, k < l.length → ∃ b off, a = some ⟨b, off, none⟩ ∧ B ≤ b ∧ b < w.heap.size ∧ w.cell? ⟨b, off + k, none⟩ = some (.int .i64 (l.getD k 0)) := by
  rcases h.2 with ⟨rfl, h0⟩ | ⟨g, cap, cur, rfl, hb, hg, hnc, hm, hs, ht⟩
  · obtain rfl : l = [] := List.eq_nil_of_length_eq_zero h0
    exact ⟨none, 0, rfl, fun k hk => by simp at hk⟩
  · refine ⟨some ⟨g, 0, none⟩, cap, rfl, fun j hj => ⟨g, 0, rfl, hb, (Array.getElem?_eq_some_iff.1 hg).1, ?_⟩⟩
    have := World.ownsRow.cellAt (g := g) (cap := cap) h j (by omega)
    rw [Nat.zero_add, this]
    simp [hj]
theorem run_buildP (Z : Int) (x : World) : (Instr.buildSlice 74 1 #[(0, .int .i64 Z)]).run Try.prog x = .ok (.slice (some ⟨x.heap.size, 0, none⟩) 1 1) (x.alloc (.cells #[.int .i64 Z] 3)) := by
  simp [go_sem]
theorem build_P (o : Oper) (a : Act) (Z : Int) (s : Operand) (ho : o.op = .buildSlice 74 1 #[(0, s)]) (hs : a.eval s = .int .i64 Z) (x : World) :
    (execOp a.eval o).run Try.prog x = .ok (.value (.slice (some ⟨x.heap.size, 0, none⟩) 1 1)) (x.alloc (.cells (encZ Z).toArray 3)) := by
  unfold execOp
  simp only [ho, List.map_toArray, List.map_cons, List.map_nil, hs, Sem.run_bind, run_buildP, Result.andThen_ok, Sem.run_pure]
  rfl
theorem intsR_le (bs : List Int) (q : Nat) (st : Bool) (hq : q ≤ bs.length) (hB : Byt bs) : (intsR bs q st).2.1 ≤ bs.length := by
  have h1 := countR_le bs q st hq hB
  exact (many_le bs _ _ _ h1.1 hB).1
theorem intsR_len (bs : List Int) (q : Nat) (st : Bool) (hq : q ≤ bs.length) : (intsR bs q st).1.length ≤ bs.length := by
  have h1 := countR_in bs q st hq
  unfold intsR
  dsimp only
  split
  · exact Nat.zero_le _
  · rw [loop_many]
    have := loop_le intR bs (countR bs q st).1.toNat (countR bs q st).2.1 (countR bs q st).2.2
    omega
theorem OwnK.low2 {k : IntKind} {e : TypeId} {w : World} {B B' : Nat} {v : Value} {l : List Int} (h : OwnK k e w B' v l) (hB : B ≤ B') : OwnK k e w B v l := by
  refine ⟨h.1, ?_⟩
  rcases h.2 with h2 | ⟨g, cap, cur, h1, h2, h3⟩
  · exact .inl h2
  · exact .inr ⟨g, cap, cur, h1, Nat.le_trans hB h2, h3⟩
theorem OwnK.old2 {k : IntKind} {e : TypeId} {w w' : World} {B : Nat} {v : Value} {l : List Int} (h : OwnK k e w B v l) (hb : Below w.heap.size w w') : OwnK k e w' B v l := own_old h hb
/-- In the loop over the lines. -/
def NoI1 (W : World) (b : Nat) (wr : World) (L : List Int) : Prop :=
  ∃ la lc, Blk wr b #[.slice la L.length lc, .slice none 0 0] 76 ∧ (L.length ≤ lc ∧ lc ≤ maxLen) ∧ wr.ownsRow W.heap.size 24 1 (.slice la L.length lc) L.length (L.map encZ).flatten ∧ But b W wr
/-- In the loop over the penalties. -/
def NoI2 (W : World) (b : Nat) (wr : World) (X : List Int) (L : List Int) : Prop :=
  ∃ la lc pa pc, Blk wr b #[.slice la X.length lc, .slice pa L.length pc] 76 ∧ (X.length ≤ lc ∧ lc ≤ maxLen) ∧ (L.length ≤ pc ∧ pc ≤ maxLen) ∧ (OwnE 24 1 encZ W.heap.size wr la X.length fun k => X.getD k 0) ∧ wr.ownsRow W.heap.size 3 1 (.slice pa L.length pc) L.length (L.map encZ).flatten ∧ But b W wr
theorem But.below2 {b : Nat} {W x z : World} (h : But b W x) (hz : Below W.heap.size x z) : But b W z :=
  ⟨hz.os.trans h.os, hz.tape.trans h.tape, hz.output.trans h.output, Nat.le_trans h.size hz.size, fun i hi hn => (hz.block i hi).trans (h.block i hi hn)⟩
theorem blk_below {b B : Nat} {w x : World} {cs : Array Value} {T : TypeId} (h : Blk w b cs T) (hx : Below B w x) (hb : b < B) : Blk x b cs T := (hx.block b hb).trans h
theorem But.join {g b : Nat} {w W x : World} (h : But g w W) (k : But b W x) (hb : w.heap.size ≤ b) : But g w x :=
  ⟨k.os.trans h.os, k.tape.trans h.tape, k.output.trans h.output, Nat.le_trans h.size k.size, fun i hi hn => (k.block i (Nat.lt_of_lt_of_le hi h.size) (fun e => by injection e with e; omega)).trans (h.block i hi hn)⟩
theorem RdAt.butr {w x : World} {g b c n : Nat} {a : Option Addr} {p : Int} {st : Bool} (H : RdAt w g a c n p st) (k : But b w x) (hb : g ≠ b) : RdAt x g a c n p st := (k.block g H.lt (fun e => hb (by injection e))).trans H
theorem RdAt.farr2 {w : World} {g b c n : Nat} {a : Option Addr} {p : Int} {st : Bool} (H : RdAt w g a c n p st) (hb : g ≠ b) (v0 v1 : Value) : RdAt ((w.setCell ⟨b, 0, none⟩ v0).setCell ⟨b, 1, none⟩ v1) g a c n p st := (H.farr hb 0 v0).farr hb 1 v1
set_option maxHeartbeats 4000000 in
theorem rnote_any (bs : List Int) (h g : Nat) (a : Option Addr) (c q : Nat) (st : Bool) (w : World) (H : RdD bs w h g a c q st) :
    Calls Try.prog 42 #[.pointer (some ⟨h, 0, none⟩)] w fun e w' => ∃ hd, e = .returned (hdV hd) ∧ NoteOwn w.heap.size w' hd (noteR bs q st).1 ∧ RdD bs w' h g a c (noteR bs q st).2.1 (noteR bs q st).2.2 ∧ But g w w' := by
  have hmx : 1000002 ≤ maxLen := by decide
  obtain ⟨i0, hi, hz0, hz1, hz2⟩ := info_parts infoZ22
  obtain ⟨i1, hj, hj0, hj1, hj2⟩ := info_parts infoZ3
  have hR : noteR bs q st = (⟨(intsR bs q st).1, (intsR bs (intsR bs q st).2.1 (intsR bs q st).2.2).1⟩, (intsR bs (intsR bs q st).2.1 (intsR bs q st).2.2).2) := rfl
  have i0' := ints_in64 H.byt H.le st
  have l0' := intsR_len bs q st H.le
  have g0' := intsR_le bs q st H.le H.byt
  have c0 := fun y (hy : RdD bs y h g a c q st) => rdints_any g a c bs q st hy.le hy.len hy.byt y hy.rd hy.row
  obtain ⟨⟨x0, q1, t1⟩, e0⟩ : ∃ r, r = intsR bs q st := ⟨_, rfl⟩
  rw [← e0] at hR i0' l0' g0' c0
  dsimp only at hR i0' l0' g0' c0
  have i1' := ints_in64 H.byt g0' t1
  have l1' := intsR_len bs q1 t1 g0'
  have g1' := intsR_le bs q1 t1 g0' H.byt
  have c1 := fun y (hy : RdD bs y h g a c q1 t1) => rdints_any g a c bs q1 t1 hy.le hy.len hy.byt y hy.rd hy.row
  obtain ⟨⟨x1, q2, t2⟩, e1⟩ : ∃ r, r = intsR bs q1 t1 := ⟨_, rfl⟩
  rw [← e1] at hR i1' l1' g1' c1
  dsimp only at hR i1' l1' g1' c1
  have hlen := H.len
  have HR := Lib.hid hR
  have HI0 := Lib.hid i0'
  have HI1 := Lib.hid i1'
  have HC := Lib.hid (And.intro c0 c1)
  have R := blk_new w #[.slice none 0 0, .slice none 0 0] 76
  have D := blk_two w (.cells #[.slice none 0 0, .slice none 0 0] 76) #[.slice none 0 0, .slice none 0 0] 76
  have b0 := tbel2 w (.cells #[.slice none 0 0, .slice none 0 0] 76) (.cells #[.slice none 0 0, .slice none 0 0] 76)
  have R0 := R.old (tbel1 (w.alloc (.cells #[.slice none 0 0, .slice none 0 0] 76)) (.cells #[.slice none 0 0, .slice none 0 0] 76))
  have H0 := H.old b0
  have hg := H.rd.lt
  have hs0 : w.heap.size + 2 ≤ ((w.alloc (.cells #[.slice none 0 0, .slice none 0 0] 76)).alloc (.cells #[.slice none 0 0, .slice none 0 0] 76)).heap.size := by simp
  have HH := Lib.hid H
  have hne : g ≠ w.heap.size := by omega
  have hnf : g ≠ w.heap.size + 1 := by omega
  have B0 := But.of (g := g) b0
  clear H hR e0 e1 i0' i1' R b0 c0 c1
  go_enter Try.func42, Try.ntmps42
  go_upto_region 2 with (fail)
  change Code.wp _ _ _ _ ((w.alloc (.cells #[.slice none 0 0, .slice none 0 0] 76)).alloc (.cells #[.slice none 0 0, .slice none 0 0] 76))
  generalize (w.alloc _).alloc _ = U at *
  have CE := Lib.hid fun y (hy : Near (fun i => i = g) U y) => (hy.but.cellN H0.lt H0.ne).trans H0.ptr
  (refine wp_region_planU 10 [(0, true), (1, true), (2, true), (3, true), (5, true), (6, true), (7, true), (8, true), (4, false), (9, false)] (fun i => i = g) (by kernel_rfl) (by kernel_rfl) ?_; simp only [pick, List.getElem?_cons_succ, List.getElem?_cons_zero, List.drop_succ_cons, List.drop_zero])
  repeat (first | (apply TextU.sees (hw := by kernel_rfl); (focus (intro x hx K hK; have hc := CE.out x hx; go_simp; exact hK)); simp only [Act.put, List.getElem_toArray, List.getElem_cons_succ, List.getElem_cons_zero, List.setIfInBounds_toArray, List.set_cons_zero, List.set_cons_succ]) | (apply TextU.idle; (focus (intro x hx K hK; go_simp; exact hK)); simp only [Act.put, List.getElem_toArray, List.getElem_cons_succ, List.getElem_cons_zero, List.setIfInBounds_toArray, List.set_cons_zero, List.set_cons_succ]))
  (refine TextU.loud (fun i => i = g) (V := fun v y => OwnK .i64 2 y U.heap.size v x0 ∧ RdAt y g a c bs.length q1 t1 ∧ But g U y) (fun _ h => h) (fun x hx => (HC.out.1 x (H0.old hx)).mono fun e y hh => by obtain ⟨v, r1, r2, r3, r4⟩ := hh; exact ⟨v, r1, ⟨OwnK.low2 r2 hx.size, r3, But.trans (But.of hx) r4⟩, r4.near⟩) (by kernel_rfl) (fun _ => by kernel_rfl) (fun v1 y1 hv1 n1 => ?_); simp only [Act.put, List.getElem_toArray, List.getElem_cons_succ, List.getElem_cons_zero, List.setIfInBounds_toArray, List.set_cons_zero, List.set_cons_succ])
  obtain ⟨O1, J1, B1⟩ := hv1
  have H1 := H0.but B1 g0' J1
  (refine TextU.loud (fun _ => False) (V := fun v y => OwnK .i64 2 y y1.heap.size v x1 ∧ RdAt y g a c bs.length q2 t2 ∧ But g y1 y) (fun _ h => h.elim) (fun x hx => (HC.out.2 x (H1.old hx)).mono fun e y hh => by obtain ⟨v, r1, r2, r3, r4⟩ := hh; exact ⟨v, r1, ⟨OwnK.low2 r2 hx.size, r3, But.trans (But.of hx) r4⟩, r4.near⟩) (by kernel_rfl) (fun _ => by kernel_rfl) (fun v2 y2 hv2 n2 => ?_); simp only [Act.put, List.getElem_toArray, List.getElem_cons_succ, List.getElem_cons_zero, List.setIfInBounds_toArray, List.set_cons_zero, List.set_cons_succ])
  obtain ⟨O2, J2, B2⟩ := hv2
  have H2 := H1.but B2 g1' J2
  apply TextU.done
  intro W hW
  have s1 := B1.size
  have s2 := B2.size
  have s3 := hW.size
  have O1' := (O1.but B2 (by have := H0.rd.lt; omega)).old2 hW
  have O2' := O2.old2 hW
  obtain ⟨a1, k1, rfl, r1⟩ := own_cells O1'
  obtain ⟨a2, k2, rfl, r2⟩ := own_cells O2'
  have H3 := H2.old hW
  have BB := But.trans B1 (But.trans B2 (But.of hW))
  have R3 := R0.but BB hne.symm
  have D3 := D.but BB hnf.symm
  have BW := But.trans B0 BB
  have hlt3 := D3.lt
  have HA := Lib.hid r1
  have HB := Lib.hid r2
  have S0 : Hid (NoI1 W (w.heap.size + 1) W (x0.take 0)) := Lib.hid ⟨none, 0, D3, ⟨Nat.le_refl _, by decide⟩, World.ownsRow_nil _ _ _ _, But.refl _ _⟩
  have HW := Lib.hid (And.intro H3 (And.intro R3 BW))
  clear H0 H1 H2 H3 O1 O2 O1' O2' J1 J2 B0 B1 B2 hW BB R0 R3 D D3 BW CE HC n1 n2 r1 r2 s2 s3 g0' g1'
  have hwb : w.heap.size < w.heap.size + 1 := Nat.lt_succ_self _
  have hbu : w.heap.size + 1 < U.heap.size := by omega
  have hby : w.heap.size + 1 < y1.heap.size := by omega
  generalize w.heap.size + 1 = b3 at *
  go_wp2_with fail
  go_loopw [6] (fun i wr => ∃ k : Nat, k ≤ x0.length ∧ i = .int .i64 k ∧ Hid (NoI1 W b3 wr (x0.take k))) (fun i _ => x0.length - (intOf i).toNat)
  case atStart => exact ⟨0, Nat.zero_le _, rfl, S0⟩
  case round =>
    clear S0
    obtain ⟨k, hk, rfl, HI⟩ := hrel
    by_cases hlt : k < x0.length
    · obtain ⟨la, lc, D, hcc, hown, BI⟩ := HI.out
      obtain ⟨b, off, rfl, hb1, hb2, hc⟩ := HA.out k hlt
      have pc := (World.cell?_of_block (BI.block b hb2 (fun e => by injection e with e; omega))).trans hc
      have pd := D.two.1
      have hlen2 : (x0.take k).length ≤ 1000000 := by simp only [List.length_take]; omega
      have HS : Hid ((x0.take k) ++ [x0.getD k 0] = x0.take (k + 1)) := Lib.hid (take_snoc 0 hlt).symm
      have hub := own_ge hown
      have hWs := BI.size
      generalize x0.take k = L at *
      generalize x0.getD k 0 = y at *
      have CE := Lib.hid fun z (hz : Near (fun i => some i = (Value.slice la L.length lc).ownBlock) wr z) =>
        And.intro (near_at hz pd (fun e => by have := hub _ e; omega)) (near_at hz pc (fun e => by have := hub _ e; omega))
      have HX := Lib.hid (And.intro D BI)
      clear pd pc hc HI D
      go_upto_region 6 with (fail)
      (refine wp_region_planU 9 [(0, true), (1, true), (2, true), (3, true), (4, true), (5, true), (6, false), (7, false), (8, true)] (fun i => some i = (Value.slice la L.length lc).ownBlock) (by kernel_rfl) (by kernel_rfl) ?_; simp only [pick, List.getElem?_cons_succ, List.getElem?_cons_zero, List.drop_succ_cons, List.drop_zero])
      repeat (first | (apply TextU.sees (hw := by kernel_rfl); (focus (intro x hx K hK; have hc := CE.out x hx; go_simp; exact hK)); simp only [Act.put, List.getElem_toArray, List.getElem_cons_succ, List.getElem_cons_zero, List.setIfInBounds_toArray, List.set_cons_zero, List.set_cons_succ]) | (apply TextU.idle; (focus (intro x hx K hK; go_simp; exact hK)); simp only [Act.put, List.getElem_toArray, List.getElem_cons_succ, List.getElem_cons_zero, List.setIfInBounds_toArray, List.set_cons_zero, List.set_cons_succ]))
      (refine TextU.loudv (fun i => some i = (Value.slice la L.length lc).ownBlock) (V := fun v z => ∃ x, Old wr x ∧ v = .slice (some ⟨x.heap.size, 0, none⟩) 1 1 ∧ z = x.alloc (.cells (encZ y).toArray 24)) (fun _ h => h) (fun x hx => ⟨_, _, build_Z _ _ y (.tmp 29) rfl rfl x, ⟨x, hx, rfl, rfl⟩, Near.of (tbel1 x _)⟩) (by kernel_rfl) (fun v2 y2 hv2 _ => ?_); simp only [Act.put, List.getElem_toArray, List.getElem_cons_succ, List.getElem_cons_zero, List.setIfInBounds_toArray, List.set_cons_zero, List.set_cons_succ])
      obtain ⟨z1, hz1', rfl, rfl⟩ := hv2
      have hz1s := hz1'.size
      (refine TextU.loudv (fun _ => False) (V := fun v w' => ∃ z, Old (z1.alloc (.cells (encZ y).toArray 24)) z ∧ (w'.ownsRow W.heap.size 24 1 v (L ++ [y]).length ((L ++ [y]).map encZ).flatten ∧ Below W.heap.size z w' ∧ Chg 24 z w')) (fun _ h => h.elim) (fun z hz => (app_E Try.underlying73 hi hz0 hz1 hz2 rfl (by decide) encZ_len encZ_one z1 z _ y _ _ (.tmp 25) (.tmp 30) rfl rfl rfl ((own_old hown hz1').alloc _) hz (by omega) (by omega) (by omega)).imp fun v' => fun ⟨w', e1, e2, e3⟩ => ⟨w', e1, ⟨z, hz, e2⟩, e3⟩) (by kernel_rfl) (fun v3 w4 hv3 _ => ?_); simp only [Act.put, List.getElem_toArray, List.getElem_cons_succ, List.getElem_cons_zero, List.setIfInBounds_toArray, List.set_cons_zero, List.set_cons_succ])
      obtain ⟨z, hz3, hown', hb3, hc3⟩ := hv3
      have CF := Lib.hid fun (y : World) (hy : Near (fun _ => False) w4 y) => trivial
      repeat (first | (apply TextU.sees (hw := by kernel_rfl); (focus (intro x hx K hK; have hc := CF.out x hx; go_simp; exact hK)); simp only [Act.put, List.getElem_toArray, List.getElem_cons_succ, List.getElem_cons_zero, List.setIfInBounds_toArray, List.set_cons_zero, List.set_cons_succ]) | (apply TextU.idle; (focus (intro x hx K hK; go_simp; exact hK)); simp only [Act.put, List.getElem_toArray, List.getElem_cons_succ, List.getElem_cons_zero, List.setIfInBounds_toArray, List.set_cons_zero, List.set_cons_succ]))
      apply TextU.done
      intro z2 hz2'
      obtain ⟨a', c', rfl, hc1', hc2'⟩ := own_form hown'
      have hs3 := hz3.size
      have hs4 := hb3.size
      simp only [World.size_alloc] at hs3
      have bz : Below W.heap.size wr z2 := ((((hz1'.mono (by omega)).alloc (by omega) (.cells (encZ y).toArray 24)).trans (hz3.mono (by simp; omega))).trans hb3).trans (hz2'.mono (by omega))
      have D2 := blk_below HX.out.1 bz hlt3
      have f0 := D2.free 0
      have p0 := D2.two.1
      have HN : Hid (NoI1 W b3 (z2.setCell ⟨b3, 0, none⟩ (.slice a' (L ++ [y]).length c')) (L ++ [y])) := Lib.hid ⟨a', c', D2.set 0 _, ⟨hc1', hc2'⟩, ownsRow_setCell_below (own_old hown' hz2') hlt3 _, (HX.out.2.below2 bz).set 0 _⟩
      clear CE CF hown hown' hz2' hb3 hc3 hz3 hz1' bz D2 HX hub BI
      go_wp2
      go_roundw
      case rel =>
        refine ⟨k + 1, by omega, by go_num, ?_⟩
        rw [show L.length + 1 = (L ++ [y]).length by simp, ← HS.out]
        exact HN
      case measure => simp [intOf]; omega
    · obtain rfl : k = x0.length := by omega
      rw [List.take_length] at HI
      have HO2 : Hid (NoI2 W b3 wr x0 (x1.take 0)) := Lib.hid (by
        obtain ⟨la, lc, D, hcc, hown, BI⟩ := HI.out
        obtain ⟨a', c', e, _, _, hO⟩ := own_of (d := 0) hown encZ_len
        cases e
        exact ⟨la, lc, none, 0, D, hcc, ⟨Nat.le_refl _, by decide⟩, hO, World.ownsRow_nil _ _ _ _, BI⟩)
      clear HI hk hlt
      go_wp2_with fail
      go_loopw [7] (fun i wr => ∃ k : Nat, k ≤ x1.length ∧ i = .int .i64 k ∧ Hid (NoI2 W b3 wr x0 (x1.take k))) (fun i _ => x1.length - (intOf i).toNat)
      case atStart => exact ⟨0, Nat.zero_le _, rfl, HO2⟩
      case round =>
        clear HO2
        obtain ⟨k, hk, rfl, HI⟩ := hrel
        by_cases hlt : k < x1.length
        · obtain ⟨la, lc, pa, pc', D, hcl, hcc, hOL, hown, BI⟩ := HI.out
          obtain ⟨b, off, rfl, hb1, hb2, hc⟩ := HB.out k hlt
          have pc := (World.cell?_of_block (BI.block b hb2 (fun e => by injection e with e; omega))).trans hc
          have pd := D.two.2
          have hlen2 : (x1.take k).length ≤ 1000000 := by simp only [List.length_take]; omega
          have HS : Hid ((x1.take k) ++ [x1.getD k 0] = x1.take (k + 1)) := Lib.hid (take_snoc 0 hlt).symm
          have hub := own_ge hown
          have hWs := BI.size
          generalize x1.take k = L at *
          generalize x1.getD k 0 = y at *
          have CE := Lib.hid fun z (hz : Near (fun i => some i = (Value.slice pa L.length pc').ownBlock) wr z) =>
            And.intro (near_at hz pd (fun e => by have := hub _ e; omega)) (near_at hz pc (fun e => by have := hub _ e; omega))
          have HX := Lib.hid (And.intro D (And.intro hOL BI))
          clear pd pc hc HI D hOL
          go_upto_region 10 with (fail)
          (refine wp_region_planU 9 [(0, true), (1, true), (2, true), (3, true), (4, true), (5, true), (6, false), (7, false), (8, true)] (fun i => some i = (Value.slice pa L.length pc').ownBlock) (by kernel_rfl) (by kernel_rfl) ?_; simp only [pick, List.getElem?_cons_succ, List.getElem?_cons_zero, List.drop_succ_cons, List.drop_zero])
          repeat (first | (apply TextU.sees (hw := by kernel_rfl); (focus (intro x hx K hK; have hc := CE.out x hx; go_simp; exact hK)); simp only [Act.put, List.getElem_toArray, List.getElem_cons_succ, List.getElem_cons_zero, List.setIfInBounds_toArray, List.set_cons_zero, List.set_cons_succ]) | (apply TextU.idle; (focus (intro x hx K hK; go_simp; exact hK)); simp only [Act.put, List.getElem_toArray, List.getElem_cons_succ, List.getElem_cons_zero, List.setIfInBounds_toArray, List.set_cons_zero, List.set_cons_succ]))
          (refine TextU.loudv (fun i => some i = (Value.slice pa L.length pc').ownBlock) (V := fun v z => ∃ x, Old wr x ∧ v = .slice (some ⟨x.heap.size, 0, none⟩) 1 1 ∧ z = x.alloc (.cells (encZ y).toArray 3)) (fun _ h => h) (fun x hx => ⟨_, _, build_P _ _ y (.tmp 44) rfl rfl x, ⟨x, hx, rfl, rfl⟩, Near.of (tbel1 x _)⟩) (by kernel_rfl) (fun v2 y2 hv2 _ => ?_); simp only [Act.put, List.getElem_toArray, List.getElem_cons_succ, List.getElem_cons_zero, List.setIfInBounds_toArray, List.set_cons_zero, List.set_cons_succ])
          obtain ⟨z1, hz1', rfl, rfl⟩ := hv2
          have hz1s := hz1'.size
          (refine TextU.loudv (fun _ => False) (V := fun v w' => ∃ z, Old (z1.alloc (.cells (encZ y).toArray 3)) z ∧ (w'.ownsRow W.heap.size 3 1 v (L ++ [y]).length ((L ++ [y]).map encZ).flatten ∧ Below W.heap.size z w' ∧ Chg 3 z w')) (fun _ h => h.elim) (fun z hz => (app_E Try.underlying74 hj hj0 hj1 hj2 rfl (by decide) encZ_len encZ_one z1 z _ y _ _ (.tmp 40) (.tmp 45) rfl rfl rfl ((own_old hown hz1').alloc _) hz (by omega) (by omega) (by omega)).imp fun v' => fun ⟨w', e1, e2, e3⟩ => ⟨w', e1, ⟨z, hz, e2⟩, e3⟩) (by kernel_rfl) (fun v3 w4 hv3 _ => ?_); simp only [Act.put, List.getElem_toArray, List.getElem_cons_succ, List.getElem_cons_zero, List.setIfInBounds_toArray, List.set_cons_zero, List.set_cons_succ])
          obtain ⟨z, hz3, hown', hb3, hc3⟩ := hv3
          have CF := Lib.hid fun (y : World) (hy : Near (fun _ => False) w4 y) => trivial
          repeat (first | (apply TextU.sees (hw := by kernel_rfl); (focus (intro x hx K hK; have hc := CF.out x hx; go_simp; exact hK)); simp only [Act.put, List.getElem_toArray, List.getElem_cons_succ, List.getElem_cons_zero, List.setIfInBounds_toArray, List.set_cons_zero, List.set_cons_succ]) | (apply TextU.idle; (focus (intro x hx K hK; go_simp; exact hK)); simp only [Act.put, List.getElem_toArray, List.getElem_cons_succ, List.getElem_cons_zero, List.setIfInBounds_toArray, List.set_cons_zero, List.set_cons_succ]))
          apply TextU.done
          intro z2 hz2'
          obtain ⟨a', c', rfl, hc1', hc2'⟩ := own_form hown'
          have hs3 := hz3.size
          have hs4 := hb3.size
          simp only [World.size_alloc] at hs3
          have bz : Below W.heap.size wr z2 := ((((hz1'.mono (by omega)).alloc (by omega) (.cells (encZ y).toArray 3)).trans (hz3.mono (by simp; omega))).trans hb3).trans (hz2'.mono (by omega))
          have OL2 := ((((HX.out.2.1.old hz1').old (tbel1 z1 (.cells (encZ y).toArray 3))).old hz3).chg hc3 (by decide)).old hz2'
          have D2 := blk_below HX.out.1 bz hlt3
          have f0 := D2.free 1
          have p0 := D2.two.2
          have HN : Hid (NoI2 W b3 (z2.setCell ⟨b3, 1, none⟩ (.slice a' (L ++ [y]).length c')) x0 (L ++ [y])) := Lib.hid ⟨la, lc, a', c', D2.set 1 _, hcl, ⟨hc1', hc2'⟩, OL2.other hlt3 1 _, ownsRow_setCell_below (own_old hown' hz2') hlt3 _, (HX.out.2.2.below2 bz).set 1 _⟩
          clear CE CF hown hown' hz2' hb3 hc3 hz3 hz1' bz D2 HX hub BI OL2
          go_wp2
          go_roundw
          case rel =>
            refine ⟨k + 1, by omega, by go_num, ?_⟩
            rw [show L.length + 1 = (L ++ [y]).length by simp, ← HS.out]
            exact HN
          case measure => simp [intOf]; omega
        · obtain rfl : k = x1.length := by omega
          rw [List.take_length] at HI
          obtain ⟨la, lc, pa, pc', D, hcl, hcc, hOL, hown, BI⟩ := HI.out
          obtain ⟨a', c', e, _, _, hOP⟩ := own_of (d := 0) hown encZ_len
          cases e
          have R4 := HW.out.2.1.but BI (by omega)
          obtain ⟨r0, r1⟩ := R4.two
          obtain ⟨p0, p1⟩ := D.two
          have f0 := R4.free 0
          have f1 := R4.free 1
          have HZ := Lib.hid (And.intro hOL (And.intro hOP (And.intro BI (And.intro hcl hcc))))
          clear hOL hOP BI HI hown D hk hlt hcl hcc HA HB
          go_wp2
          obtain ⟨hOL, hOP, BI, hcl, hcc⟩ := HZ.out
          obtain ⟨H3, R3, BW⟩ := HW.out
          have B5 := But.join BW BI (by omega)
          have hbw : w.heap.size + 1 ≤ W.heap.size := by omega
          have N : NoteOwn W.heap.size wr ⟨la, x0.length, lc, pa, x1.length, pc'⟩ ⟨x0, x1⟩ := ⟨rfl, rfl, hcl, hcc, hOL, HI0.out, hOP, HI1.out⟩
          refine bodyPost_ret (v := .agg #[.slice la x0.length lc, .slice pa x1.length pc']) (by simp [results, Try.results42, go_sem, r0, r1]) rfl ⟨⟨la, x0.length, lc, pa, x1.length, pc'⟩, rfl, ?_, ?_, ?_⟩
          · rw [HR.out]
            exact ((N.mono hbw).far2 (Nat.lt_succ_self _) _ _).mono (Nat.le_succ _)
          · rw [HR.out]
            exact HH.out.but (B5.new2 (Nat.le_refl _) _ _) H3.le ((H3.rd.butr BI (by omega)).farr2 hne _ _)
          · exact B5.new2 (Nat.le_refl _) _ _
end Go.Proofs.Ytjfjekncmejfpaa
