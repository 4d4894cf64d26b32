/- The walk of gset.Sizes where By is shared. The contract of gset.Sizes. -/
import Derived.Test.YtojphpncidjdiaaGSz
import Derived.Test.YtojphpncidjdiaaGEach
import Derived.Test.YtojphpncidjdiaaDetV
import Derived.Test.YtojphpncidjdiaaDetI
namespace Go.Proofs.Ytojphpncidjdiaa
open Go.RowKit Go.Shelf
set_option maxRecDepth 20000
set_option linter.unusedVariables false
set_option linter.unusedSimpArgs false
attribute [local go_sem] Oper.semAt_some

/-- An index that is one. -/
def clK (n x : Nat) : Nat := if x < n then x else 0
theorem clK_lt {n : Nat} (h : 0 < n) (x : Nat) : clK n x < n := by unfold clK; split <;> omega
/-- What the rounds make of the numbers. -/
def accA (n : Nat) (base step : Nat → Int) (pre : List Nat) : Nat → Int := pre.foldl (fun f x i => if i = clK n x then wrap64 (f i + step i) else f i) base
theorem accA_snoc (n : Nat) (base step : Nat → Int) (pre : List Nat) (x : Nat) : accA n base step (pre ++ [x]) = fun i => if i = clK n x then wrap64 (accA n base step pre i + step i) else accA n base step pre i := by
  unfold accA; rw [List.foldl_append]; rfl
theorem accA_upto (n : Nat) (base step : Nat → Int) (k : Nat) (hk : k ≤ n) (i : Nat) : accA n base step (uptoS id k) i = if i < k then wrap64 (base i + step i) else base i := by
  induction k with
  | zero => simp [uptoS, accA]
  | succ k ih =>
    rw [uptoS_succ, accA_snoc]
    have e : clK n (id k) = k := by unfold clK; rw [if_pos (show id k < n by exact hk)]; rfl
    have h1 := ih (by omega)
    simp only [e]
    by_cases hi : i = k
    · subst hi
      rw [if_pos rfl, h1, if_neg (Nat.lt_irrefl i), if_pos (by omega)]
    · rw [if_neg hi, h1]
      by_cases h2 : i < k
      · rw [if_pos h2, if_pos (by omega)]
      · rw [if_neg h2, if_neg (by omega)]
theorem gsbut_drew (n b : Nat) (W : World) : SBut n b W W.drew := ⟨rfl, rfl, rfl, Nat.le_refl _, fun _ _ _ => rfl⟩
/-- The world as it stood, one draw later. -/
def Drawn (V x : World) : Prop := x = V.drew
theorem gsbut_set (n : Nat) (W : World) (b i : Nat) (v : Value) : SBut n b W (W.setCell ⟨b, i, none⟩ v) :=
  ⟨rfl, rfl, rfl, (KeepsWalks.setCell W _ v).size, fun k _ hk => Below.heap_setCell _ _ _ k (fun e => hk (by rw [e]))⟩
theorem ownFrom_arr {β : Type} {n g B : Nat} {F : β → Nat → Int} (hg : g < B) : OwnFrom B (fun (s : β) W => ArrF W g n (F s)) := fun s W W' row hs hgr hr =>
  (hgr.block g hs.lt (fun e => by have := (hr g e.symm).1; omega)).trans hs
set_option maxHeartbeats 4000000 in
theorem sizes_2 (s : S5) (a : Option Addr) (cap : Nat) (l : List T6) (w : World) (hn : l.length ≤ 1000000) (hr : GRow w.heap.size w a l) (hb : fitB s.bye = true) (hs : l.all soundT = true) (hh : s.how = 2)
    (L : List Int) (hL : L = uptoS (fldK T6.h l) l.length) (hLi : ∀ i, i < l.length → inR (fldK T6.h l i)) :
    Calls Try.prog 15 #[stg s, .slice a l.length cap] w fun e w' => ∃ g, e = .returned (.slice (some ⟨g, 0, none⟩) l.length l.length) ∧ w.heap.size ≤ g ∧ ArrF w' g l.length (accA l.length (fldK T6.n l) (fun k => wrap64 ((-1) * shareK s.bye L k)) (allA id s.bye L)) ∧ Below w.heap.size w w' := by
  have hbi : inR s.bye := by have := fitB_true hb; unfold inR; omega
  have c := fits_any s.bye
  rw [hb] at c
  have HR := Lib.hid hr
  have B0 := blk_new w #[.int .i64 s.how, .int .i64 s.ord, .int .i64 s.bye, .int .i64 s.off, .int .i64 s.left] 28
  have b0 := tbel1 w (.cells #[.int .i64 s.how, .int .i64 s.ord, .int .i64 s.bye, .int .i64 s.off, .int .i64 s.left] 28)
  have c2 := contains_any a cap l _ hn ((hr.carry b0 (Nat.le_refl _)).mono b0.size)
  rw [hs, Bool.not_true] at c2
  clear hr
  unfold stg
  rw [hh] at B0 b0 c2 ⊢
  clear hs hb hh
  refine (callsIn_wide (n := 3)).1 ?_
  refine callsIn_of_wp_marks Try.func15 rfl trivial ?_ rfl
  simp only [Try.ntmps15, List.size_toArray, List.length_cons, List.length_nil, Nat.reduceAdd, Nat.reduceSub, Array.replicate_succ, Array.replicate_zero, List.push_toArray, List.append_toArray, List.nil_append, List.cons_append]
  refine wpIn_wide.2 ?_
  go_wp2_with (first | (with_reducible refine (c _).mono ?_; rintro e w1 ⟨rfl, rfl⟩) | (with_reducible refine c2.mono ?_; rintro e w2 ⟨rfl, b2⟩; replace B0 := B0.old b2; replace b0 := tstep b0 b2 b0.size; clear b2) | fail)
  refine (fnat_any a cap l _ hn ((HR.out.carry b0 (Nat.le_refl _)).mono b0.size)).mono ?_
  rintro e w3 ⟨g, rfl, hg, A, b3⟩
  have hB0 := B0.lt
  replace B0 := B0.old b3
  have hg0 := b0.size
  replace b0 := tstep b0 b3 b0.size
  have hg1 : w.heap.size < g := by omega
  have hA := A.lt
  have h3 := b0.size
  clear b3 hg c c2
  have f0 := ((B0.alloc (.cells #[.slice (some ⟨g, 0, none⟩) l.length l.length] 36)).alloc (.cells #[.int .i64 (-1)] 22)).five
  have S1 := (blk_new w3 #[.slice (some ⟨g, 0, none⟩) l.length l.length] 36).alloc (.cells #[.int .i64 (-1)] 22)
  have S2 := blk_two w3 (.cells #[.slice (some ⟨g, 0, none⟩) l.length l.length] 36) #[.int .i64 (-1)] 22
  replace A := (A.alloc (.cells #[.slice (some ⟨g, 0, none⟩) l.length l.length] 36)).alloc (.cells #[.int .i64 (-1)] 22)
  replace B0 := (B0.alloc (.cells #[.slice (some ⟨g, 0, none⟩) l.length l.length] 36)).alloc (.cells #[.int .i64 (-1)] 22)
  replace b0 := (b0.alloc b0.size (.cells #[.slice (some ⟨g, 0, none⟩) l.length l.length] 36)).alloc (by simp; omega) (.cells #[.int .i64 (-1)] 22)
  have hW : ((w3.alloc (.cells #[.slice (some ⟨g, 0, none⟩) l.length l.length] 36)).alloc (.cells #[.int .i64 (-1)] 22)).heap.size = w3.heap.size + 2 := by simp
  go_wp2_with fail
  generalize (w3.alloc (.cells #[.slice (some ⟨g, 0, none⟩) l.length l.length] 36)).alloc (.cells #[.int .i64 (-1)] 22) = W at *
  clear f0
  have CE := Lib.hid fun x (hx : Old W x) => (B0.old hx).five
  (refine wp_region_plan 5 [(0, true), (1, true), (2, true), (3, true), (4, false)] (by kernel_rfl) (by kernel_rfl) ?_; simp only [pick, List.getElem?_cons_succ, List.getElem?_cons_zero, List.drop_succ_cons, List.drop_zero])
  repeat (first | (apply TextV.sees (hw := by kernel_rfl); (focus (intro x hx K hK; have hc := CE.out x hx; go_simp; exact hK)); simp only [Act.put, List.getElem_toArray, List.getElem_cons_succ, List.getElem_cons_zero, List.setIfInBounds_toArray, List.set_cons_zero, List.set_cons_succ]) | (apply TextV.idle; (focus (intro x hx K hK; go_simp; exact hK)); simp only [Act.put, List.getElem_toArray, List.getElem_cons_succ, List.getElem_cons_zero, List.setIfInBounds_toArray, List.set_cons_zero, List.set_cons_succ]))
  (refine TextV.loud (V := fun v y => ∃ gp, v = .slice (some ⟨gp, 0, none⟩) l.length l.length ∧ W.heap.size ≤ gp ∧ ArrF y gp l.length (fldK T6.h l)) (fun x hx => (fshr_any a cap l x hn ((HR.out.carry (b0.trans (hx.mono b0.size)) (Nat.le_refl _)).mono (Nat.le_trans b0.size hx.size))).mono fun e y ⟨gp, he, hg, hA, hb⟩ => ⟨_, he, ⟨gp, rfl, Nat.le_trans hx.size hg, hA⟩, hb⟩) (by kernel_rfl) (fun _ => by kernel_rfl) (fun v y hv hy => ?_); simp only [Act.put, List.getElem_toArray, List.getElem_cons_succ, List.getElem_cons_zero, List.setIfInBounds_toArray, List.set_cons_zero, List.set_cons_succ])
  obtain ⟨gp, rfl, hgp, Ap⟩ := hv
  intro x hx
  go_wp2_with fail
  have hyx : Below W.heap.size W x := hy.old hx
  refine (seach_in _ _ _ _ _).mono ?_
  rintro e w5 ⟨rfl, rfl⟩
  go_wp2_with fail
  have hWx := hyx.size
  have hgW := A.lt
  have hgp' : gp < x.heap.size := Nat.lt_of_lt_of_le Ap.lt hx.size
  replace A := A.old hyx
  replace S1 := S1.old hyx
  replace S2 := S2.old hyx
  replace Ap := Ap.old hx
  replace b0 := b0.trans (hyx.mono b0.size)
  have hB0 := tbel2 x (.cells #[.int .i64 s.bye] 22) (.cells #[.slice (some ⟨gp, 0, none⟩) l.length l.length] 36)
  have bW := ((blk_new x #[.int .i64 s.bye] 22).alloc (.cells #[.slice (some ⟨gp, 0, none⟩) l.length l.length] 36)).one
  have bP := (blk_two x (.cells #[.int .i64 s.bye] 22) #[.slice (some ⟨gp, 0, none⟩) l.length l.length] 36).one
  have hs0 : ((x.alloc (.cells #[.int .i64 s.bye] 22)).alloc (.cells #[.slice (some ⟨gp, 0, none⟩) l.length l.length] 36)).heap.size = x.heap.size + 2 := by simp
  generalize (x.alloc (.cells #[.int .i64 s.bye] 22)).alloc (.cells #[.slice (some ⟨gp, 0, none⟩) l.length l.length] 36) = W0 at *
  replace A := A.old hB0
  replace S1 := S1.old hB0
  replace S2 := S2.old hB0
  replace Ap := Ap.old hB0
  replace b0 := b0.trans (hB0.mono b0.size)
  have hLl : L.length = l.length := by rw [hL, uptoS_length]
  have HL := Lib.hid hL
  rw [← hLl] at bP
  have hir : IRow W0.heap.size W0 (some ⟨gp, 0, none⟩) L := by rw [hL]; exact Ap.row (by omega) hLi
  clear hB0 hyx hx hy Ap hL B0 CE
  refine (wpIn_wide (n := 3)).1 ?_
  refine wpIn_rangeFunc_ownG rfl (by omega) (gf := 42) (lb := #[.pointer (some ⟨x.heap.size, 0, none⟩), .pointer (some ⟨x.heap.size + 1, 0, none⟩)]) rfl trivial (enters_of Try.func42 (by kernel_rfl) rfl)
    (each_stopsA id (fun k : Nat => #[.int .i64 (clK l.length k : Int), .int .i64 (shareK s.bye L (clK l.length k))]) _ W0.heap.size x.heap.size (x.heap.size + 1) g s.bye (some ⟨gp, 0, none⟩) _ L W0
      (fun k hk => by simp only [id]; unfold clK; rw [if_pos (by omega)]) (by omega) hbi bW bP (by omega) (by omega) (by omega) (fun _ b off e => by cases e; omega) (Nat.le_refl _) hir)
    SBut.trans (sbut_b (Nat.le_refl _)) (Below.refl _ _) (fun _ => rfl)
    (fun pre V => ArrF V g l.length (accA l.length (fldK T6.n l) (fun k => wrap64 ((-1) * shareK s.bye L k)) pre) ∧ SBut W0.heap.size g W0 V)
    (fun _ _ _ => False)
    (OwnFrom.and (ownFrom_arr (by omega)) (ownFrom_sbut (Nat.le_refl _) (Nat.le_refl _)))
    (fun _ _ _ _ _ hs _ _ => hs)
    ⟨A, SBut.refl _ _ _⟩
    ?a1 ?assign ?body ?done ?stop
  case assign =>
    intro l x W K hK
    gi_wp2
    exact hK
  case body =>
    rintro l0 pre k V ⟨A, hB⟩ hlt
    have S1v := Blk.one (show Blk V w3.heap.size #[.slice (some ⟨g, 0, none⟩) l.length l.length] 36 from (hB.block _ (by omega) (by omega)).trans S1)
    have S2v := Blk.one (show Blk V (w3.heap.size + 1) #[.int .i64 (-1)] 22 from (hB.block _ (by omega) (by omega)).trans S2)
    have hj := clK_lt (show 0 < l.length by omega) k
    have hc := A.cell (clK l.length k) hj
    have hf := A.free (clK l.length k)
    have HX := Lib.hid (accA_snoc l.length (fldK T6.n l) (fun k => wrap64 ((-1) * shareK s.bye L k)) pre k)
    obtain ⟨j, ej⟩ : ∃ j, j = clK l.length k := ⟨_, rfl⟩
    rw [← ej] at hj hc hf HX
    obtain ⟨z, ez⟩ : ∃ z, z = shareK s.bye L j := ⟨_, rfl⟩
    obtain ⟨q, eq⟩ : ∃ q, q = wrap64 ((-1) * z) := ⟨_, rfl⟩
    obtain ⟨F, eF⟩ : ∃ F, F = accA l.length (fldK T6.n l) (fun k => wrap64 ((-1) * shareK s.bye L k)) pre := ⟨_, rfl⟩
    rw [← eF] at hc A HX
    rw [← ej, ← ez]
    have hm' : wrap64 (- z) = q := by rw [eq]; congr 1; omega
    obtain ⟨r, er⟩ : ∃ r, r = wrap64 (F j + wrap64 (- z)) := ⟨_, rfl⟩
    have hj' : ¬ l.length ≤ j := by omega
    have HA := Lib.hid A
    have HE := Lib.hid (And.intro ez (And.intro eq (And.intro hm' er)))
    clear ej ez eq eF er hm' A
    gi_wp2_with fail
    have CE := Lib.hid fun x (hx : Drawn V x) => (show x.cell? ⟨w3.heap.size, 0, none⟩ = some (.slice (some ⟨g, 0, none⟩) l.length l.length) ∧ x.cell? ⟨w3.heap.size + 1, 0, none⟩ = some (.int .i64 (-1)) ∧ x.cell? ⟨g, j, none⟩ = some (.int .i64 (F j)) ∧ x.frozen? ⟨g, j, none⟩ = false ∧ j < l.length ∧ ¬ l.length ≤ j from by rw [show x = V.drew from hx]; exact ⟨S1v, S2v, hc, hf, hj, hj'⟩)
    (refine wpIn_region_text (Drawn V) 9 (by kernel_rfl) (by kernel_rfl) (by kernel_rfl) rfl ?_; simp only [List.take_succ_cons, List.take_zero, List.drop_succ_cons, List.drop_zero])
    repeat (first | (apply Text.sees (hw := by kernel_rfl); (focus (intro x hx K hK; have hc := CE.out x hx; go_simp; exact hK)); simp only [Act.put, List.getElem_toArray, List.getElem_cons_succ, List.getElem_cons_zero, List.setIfInBounds_toArray, List.set_cons_zero, List.set_cons_succ]) | (apply Text.idle; (focus (intro x hx K hK; go_simp; exact hK)); simp only [Act.put, List.getElem_toArray, List.getElem_cons_succ, List.getElem_cons_zero, List.setIfInBounds_toArray, List.set_cons_zero, List.set_cons_succ]))
    intro x hx
    have hc' := CE.out x hx
    clear CE S1v S2v hc hf
    gi_wp2
    rw [show x = V.drew from hx]
    refine ⟨((KeepsOthers.drew V).trans (KeepsOthers.setCell V.drew _ _)).from _, (gsbut_drew _ _ V).trans (gsbut_set W0.heap.size V.drew g j _), ?_, hB.trans ((gsbut_drew _ _ V).trans (gsbut_set W0.heap.size V.drew g j _))⟩
    rw [HX.out]
    have A' : ArrF V.drew g l.length F := HA.out
    refine (A'.set j _).congr fun i hi => ?_
    by_cases hij : i = j
    · subst hij
      rw [if_pos rfl, if_pos rfl, HE.out.2.2.1, HE.out.2.1, HE.out.1]
    · rw [if_neg hij, if_neg hij]
  case done =>
    rintro D ys V hD rfl ⟨A, hB⟩ hK
    have hS := Blk.one (show Blk V w3.heap.size #[.slice (some ⟨g, 0, none⟩) l.length l.length] 36 from (hB.block _ (by omega) (by omega)).trans S1)
    have HA := Lib.hid A
    clear A S1 S2
    go_wp2
    refine ⟨by simp, .inl ⟨_, _, rfl, run_takeDeferred hK, ?_⟩⟩
    refine ⟨_, results_tmp rfl _ _ _, g, rfl, by omega, HA.out.below (belowK_b (w := W0) (Nat.le_refl _) _ D _ _ hD hK rfl rfl) (by omega), ?_⟩
    have h1 := hB.below (m := w.heap.size) (by omega) (by omega)
    exact (b0.trans h1).trans (belowK_b (w := w) (Nat.le_refl _) _ D _ _ (by omega) hK rfl rfl)
  case stop =>
    rintro D c pre W _ _ h _
    exact h.elim
set_option maxHeartbeats 4000000 in
theorem sizes_1 (s : S5) (a : Option Addr) (cap : Nat) (l : List T6) (w : World) (hn : l.length ≤ 1000000) (hr : GRow w.heap.size w a l) (hb : fitB s.bye = true) (hs : l.all soundT = true) (hh : s.how = 1)
    (L : List Int) (hL : L = uptoS (fldK (fun t => strT t s.ord) l) l.length) (hLi : ∀ i, i < l.length → inR (fldK (fun t => strT t s.ord) l i)) :
    Calls Try.prog 15 #[stg s, .slice a l.length cap] w fun e w' => ∃ g, e = .returned (.slice (some ⟨g, 0, none⟩) l.length l.length) ∧ w.heap.size ≤ g ∧ ArrF w' g l.length (accA l.length (fldK T6.n l) (fun k => wrap64 (1 * shareK s.bye L k)) (allA id s.bye L)) ∧ Below w.heap.size w w' := by
  have hbi : inR s.bye := by have := fitB_true hb; unfold inR; omega
  have c := fits_any s.bye
  rw [hb] at c
  have HR := Lib.hid hr
  have B0 := blk_new w #[.int .i64 s.how, .int .i64 s.ord, .int .i64 s.bye, .int .i64 s.off, .int .i64 s.left] 28
  have b0 := tbel1 w (.cells #[.int .i64 s.how, .int .i64 s.ord, .int .i64 s.bye, .int .i64 s.off, .int .i64 s.left] 28)
  have c2 := contains_any a cap l _ hn ((hr.carry b0 (Nat.le_refl _)).mono b0.size)
  rw [hs, Bool.not_true] at c2
  clear hr
  unfold stg
  rw [hh] at B0 b0 c2 ⊢
  clear hs hb hh
  refine (callsIn_wide (n := 3)).1 ?_
  refine callsIn_of_wp_marks Try.func15 rfl trivial ?_ rfl
  simp only [Try.ntmps15, List.size_toArray, List.length_cons, List.length_nil, Nat.reduceAdd, Nat.reduceSub, Array.replicate_succ, Array.replicate_zero, List.push_toArray, List.append_toArray, List.nil_append, List.cons_append]
  refine wpIn_wide.2 ?_
  go_wp2_with (first | (with_reducible refine (c _).mono ?_; rintro e w1 ⟨rfl, rfl⟩) | (with_reducible refine c2.mono ?_; rintro e w2 ⟨rfl, b2⟩; replace B0 := B0.old b2; replace b0 := tstep b0 b2 b0.size; clear b2) | fail)
  refine (fnat_any a cap l _ hn ((HR.out.carry b0 (Nat.le_refl _)).mono b0.size)).mono ?_
  rintro e w3 ⟨g, rfl, hg, A, b3⟩
  have hB0 := B0.lt
  replace B0 := B0.old b3
  have hg0 := b0.size
  replace b0 := tstep b0 b3 b0.size
  have hg1 : w.heap.size < g := by omega
  have hA := A.lt
  have h3 := b0.size
  clear b3 hg c c2
  have f0 := ((B0.alloc (.cells #[.slice (some ⟨g, 0, none⟩) l.length l.length] 36)).alloc (.cells #[.int .i64 (-1)] 22)).five
  have S1 := (blk_new w3 #[.slice (some ⟨g, 0, none⟩) l.length l.length] 36).alloc (.cells #[.int .i64 (-1)] 22)
  have S2 := blk_two w3 (.cells #[.slice (some ⟨g, 0, none⟩) l.length l.length] 36) #[.int .i64 (-1)] 22
  replace A := (A.alloc (.cells #[.slice (some ⟨g, 0, none⟩) l.length l.length] 36)).alloc (.cells #[.int .i64 (-1)] 22)
  replace B0 := (B0.alloc (.cells #[.slice (some ⟨g, 0, none⟩) l.length l.length] 36)).alloc (.cells #[.int .i64 (-1)] 22)
  replace b0 := (b0.alloc b0.size (.cells #[.slice (some ⟨g, 0, none⟩) l.length l.length] 36)).alloc (by simp; omega) (.cells #[.int .i64 (-1)] 22)
  have hW : ((w3.alloc (.cells #[.slice (some ⟨g, 0, none⟩) l.length l.length] 36)).alloc (.cells #[.int .i64 (-1)] 22)).heap.size = w3.heap.size + 2 := by simp
  have hfr := S2.free 0
  go_wp2_with fail
  generalize (w3.alloc (.cells #[.slice (some ⟨g, 0, none⟩) l.length l.length] 36)).alloc (.cells #[.int .i64 (-1)] 22) = V at *
  clear f0
  refine (strof_any s.ord V).mono ?_
  rintro e w4 ⟨rfl, rfl⟩
  have O1 := blk_new V #[.int .i64 s.ord] 3
  replace S1 := S1.alloc (.cells #[.int .i64 s.ord] 3)
  replace S2 := S2.alloc (.cells #[.int .i64 s.ord] 3)
  replace A := A.alloc (.cells #[.int .i64 s.ord] 3)
  replace B0 := B0.alloc (.cells #[.int .i64 s.ord] 3)
  replace b0 := b0.alloc b0.size (.cells #[.int .i64 s.ord] 3)
  have hV : (V.alloc (.cells #[.int .i64 s.ord] 3)).heap.size = w3.heap.size + 3 := by simp; omega
  generalize V.alloc (.cells #[.int .i64 s.ord] 3) = V1 at *
  have hfr1 := S2.free 0
  have hcl1 := S2.one
  rw [hW]
  rw [hW] at O1
  clear hW hfr
  clear V
  go_wp2_with fail
  replace O1 := O1.other (b := w3.heap.size + 1) (by omega) 0 (.int .i64 1)
  replace S1 := S1.other (b := w3.heap.size + 1) (by omega) 0 (.int .i64 1)
  replace S2 := S2.set 0 (.int .i64 1)
  replace A := A.other (b := w3.heap.size + 1) (by omega) 0 (.int .i64 1)
  replace B0 := B0.other (b := w3.heap.size + 1) (by omega) 0 (.int .i64 1)
  replace b0 := b0.setCell (p := ⟨w3.heap.size + 1, 0, none⟩) (by simp; omega) (.int .i64 1)
  have hW : (V1.setCell ⟨w3.heap.size + 1, 0, none⟩ (.int .i64 1)).heap.size = w3.heap.size + 3 := by simp; omega
  generalize V1.setCell ⟨w3.heap.size + 1, 0, none⟩ (.int .i64 1) = W at *
  clear hV hfr1 hcl1
  clear V1
  replace S2 : Blk W (w3.heap.size + 1) #[.int .i64 1] 22 := by simpa using S2
  have CE := Lib.hid fun x (hx : Old W x) => (B0.old hx).five
  (refine wp_region_plan 5 [(0, true), (1, true), (2, true), (3, true), (4, false)] (by kernel_rfl) (by kernel_rfl) ?_; simp only [pick, List.getElem?_cons_succ, List.getElem?_cons_zero, List.drop_succ_cons, List.drop_zero])
  repeat (first | (apply TextV.sees (hw := by kernel_rfl); (focus (intro x hx K hK; have hc := CE.out x hx; go_simp; exact hK)); simp only [Act.put, List.getElem_toArray, List.getElem_cons_succ, List.getElem_cons_zero, List.setIfInBounds_toArray, List.set_cons_zero, List.set_cons_succ]) | (apply TextV.idle; (focus (intro x hx K hK; go_simp; exact hK)); simp only [Act.put, List.getElem_toArray, List.getElem_cons_succ, List.getElem_cons_zero, List.setIfInBounds_toArray, List.set_cons_zero, List.set_cons_succ]))
  (refine TextV.loud (V := fun v y => ∃ gp, v = .slice (some ⟨gp, 0, none⟩) l.length l.length ∧ W.heap.size ≤ gp ∧ ArrF y gp l.length (fldK (fun t => strT t s.ord) l)) (fun x hx => (fstr_any a cap l x (w3.heap.size + 2) s.ord ((hx.cell (p := ⟨w3.heap.size + 2, 0, none⟩) O1.lt).trans O1.one) hn ((HR.out.carry (b0.trans (hx.mono b0.size)) (Nat.le_refl _)).mono (Nat.le_trans b0.size hx.size))).mono fun e y ⟨gp, he, hg, hA, hb⟩ => ⟨_, he, ⟨gp, rfl, Nat.le_trans hx.size hg, hA⟩, hb⟩) (by kernel_rfl) (fun _ => by kernel_rfl) (fun v y hv hy => ?_); simp only [Act.put, List.getElem_toArray, List.getElem_cons_succ, List.getElem_cons_zero, List.setIfInBounds_toArray, List.set_cons_zero, List.set_cons_succ])
  obtain ⟨gp, rfl, hgp, Ap⟩ := hv
  intro x hx
  go_wp2_with fail
  have hyx : Below W.heap.size W x := hy.old hx
  refine (seach_in _ _ _ _ _).mono ?_
  rintro e w5 ⟨rfl, rfl⟩
  go_wp2_with fail
  have hWx := hyx.size
  have hgW := A.lt
  have hgp' : gp < x.heap.size := Nat.lt_of_lt_of_le Ap.lt hx.size
  replace A := A.old hyx
  replace S1 := S1.old hyx
  replace S2 := S2.old hyx
  replace Ap := Ap.old hx
  replace b0 := b0.trans (hyx.mono b0.size)
  have hB0 := tbel2 x (.cells #[.int .i64 s.bye] 22) (.cells #[.slice (some ⟨gp, 0, none⟩) l.length l.length] 36)
  have bW := ((blk_new x #[.int .i64 s.bye] 22).alloc (.cells #[.slice (some ⟨gp, 0, none⟩) l.length l.length] 36)).one
  have bP := (blk_two x (.cells #[.int .i64 s.bye] 22) #[.slice (some ⟨gp, 0, none⟩) l.length l.length] 36).one
  have hs0 : ((x.alloc (.cells #[.int .i64 s.bye] 22)).alloc (.cells #[.slice (some ⟨gp, 0, none⟩) l.length l.length] 36)).heap.size = x.heap.size + 2 := by simp
  generalize (x.alloc (.cells #[.int .i64 s.bye] 22)).alloc (.cells #[.slice (some ⟨gp, 0, none⟩) l.length l.length] 36) = W0 at *
  replace A := A.old hB0
  replace S1 := S1.old hB0
  replace S2 := S2.old hB0
  replace Ap := Ap.old hB0
  replace b0 := b0.trans (hB0.mono b0.size)
  have hLl : L.length = l.length := by rw [hL, uptoS_length]
  have HL := Lib.hid hL
  rw [← hLl] at bP
  have hir : IRow W0.heap.size W0 (some ⟨gp, 0, none⟩) L := by rw [hL]; exact Ap.row (by omega) hLi
  clear hB0 hyx hx hy Ap hL B0 CE
  refine (wpIn_wide (n := 3)).1 ?_
  refine wpIn_rangeFunc_ownG rfl (by omega) (gf := 42) (lb := #[.pointer (some ⟨x.heap.size, 0, none⟩), .pointer (some ⟨x.heap.size + 1, 0, none⟩)]) rfl trivial (enters_of Try.func42 (by kernel_rfl) rfl)
    (each_stopsA id (fun k : Nat => #[.int .i64 (clK l.length k : Int), .int .i64 (shareK s.bye L (clK l.length k))]) _ W0.heap.size x.heap.size (x.heap.size + 1) g s.bye (some ⟨gp, 0, none⟩) _ L W0
      (fun k hk => by simp only [id]; unfold clK; rw [if_pos (by omega)]) (by omega) hbi bW bP (by omega) (by omega) (by omega) (fun _ b off e => by cases e; omega) (Nat.le_refl _) hir)
    SBut.trans (sbut_b (Nat.le_refl _)) (Below.refl _ _) (fun _ => rfl)
    (fun pre V => ArrF V g l.length (accA l.length (fldK T6.n l) (fun k => wrap64 (1 * shareK s.bye L k)) pre) ∧ SBut W0.heap.size g W0 V)
    (fun _ _ _ => False)
    (OwnFrom.and (ownFrom_arr (by omega)) (ownFrom_sbut (Nat.le_refl _) (Nat.le_refl _)))
    (fun _ _ _ _ _ hs _ _ => hs)
    ⟨A, SBut.refl _ _ _⟩
    ?a1 ?assign ?body ?done ?stop
  case assign =>
    intro l x W K hK
    gi_wp2
    exact hK
  case body =>
    rintro l0 pre k V ⟨A, hB⟩ hlt
    have S1v := Blk.one (show Blk V w3.heap.size #[.slice (some ⟨g, 0, none⟩) l.length l.length] 36 from (hB.block _ (by omega) (by omega)).trans S1)
    have S2v := Blk.one (show Blk V (w3.heap.size + 1) #[.int .i64 1] 22 from (hB.block _ (by omega) (by omega)).trans S2)
    have hj := clK_lt (show 0 < l.length by omega) k
    have hc := A.cell (clK l.length k) hj
    have hf := A.free (clK l.length k)
    have HX := Lib.hid (accA_snoc l.length (fldK T6.n l) (fun k => wrap64 (1 * shareK s.bye L k)) pre k)
    obtain ⟨j, ej⟩ : ∃ j, j = clK l.length k := ⟨_, rfl⟩
    rw [← ej] at hj hc hf HX
    obtain ⟨z, ez⟩ : ∃ z, z = shareK s.bye L j := ⟨_, rfl⟩
    obtain ⟨q, eq⟩ : ∃ q, q = wrap64 (1 * z) := ⟨_, rfl⟩
    obtain ⟨F, eF⟩ : ∃ F, F = accA l.length (fldK T6.n l) (fun k => wrap64 (1 * shareK s.bye L k)) pre := ⟨_, rfl⟩
    rw [← eF] at hc A HX
    rw [← ej, ← ez]
    have hm' : wrap64 ( z) = q := by rw [eq]; congr 1; omega
    obtain ⟨r, er⟩ : ∃ r, r = wrap64 (F j + wrap64 ( z)) := ⟨_, rfl⟩
    have hj' : ¬ l.length ≤ j := by omega
    have HA := Lib.hid A
    have HE := Lib.hid (And.intro ez (And.intro eq (And.intro hm' er)))
    clear ej ez eq eF er hm' A
    gi_wp2_with fail
    have CE := Lib.hid fun x (hx : Drawn V x) => (show x.cell? ⟨w3.heap.size, 0, none⟩ = some (.slice (some ⟨g, 0, none⟩) l.length l.length) ∧ x.cell? ⟨w3.heap.size + 1, 0, none⟩ = some (.int .i64 1) ∧ x.cell? ⟨g, j, none⟩ = some (.int .i64 (F j)) ∧ x.frozen? ⟨g, j, none⟩ = false ∧ j < l.length ∧ ¬ l.length ≤ j from by rw [show x = V.drew from hx]; exact ⟨S1v, S2v, hc, hf, hj, hj'⟩)
    (refine wpIn_region_text (Drawn V) 9 (by kernel_rfl) (by kernel_rfl) (by kernel_rfl) rfl ?_; simp only [List.take_succ_cons, List.take_zero, List.drop_succ_cons, List.drop_zero])
    repeat (first | (apply Text.sees (hw := by kernel_rfl); (focus (intro x hx K hK; have hc := CE.out x hx; go_simp; exact hK)); simp only [Act.put, List.getElem_toArray, List.getElem_cons_succ, List.getElem_cons_zero, List.setIfInBounds_toArray, List.set_cons_zero, List.set_cons_succ]) | (apply Text.idle; (focus (intro x hx K hK; go_simp; exact hK)); simp only [Act.put, List.getElem_toArray, List.getElem_cons_succ, List.getElem_cons_zero, List.setIfInBounds_toArray, List.set_cons_zero, List.set_cons_succ]))
    intro x hx
    have hc' := CE.out x hx
    clear CE S1v S2v hc hf
    gi_wp2
    rw [show x = V.drew from hx]
    refine ⟨((KeepsOthers.drew V).trans (KeepsOthers.setCell V.drew _ _)).from _, (gsbut_drew _ _ V).trans (gsbut_set W0.heap.size V.drew g j _), ?_, hB.trans ((gsbut_drew _ _ V).trans (gsbut_set W0.heap.size V.drew g j _))⟩
    rw [HX.out]
    have A' : ArrF V.drew g l.length F := HA.out
    refine (A'.set j _).congr fun i hi => ?_
    by_cases hij : i = j
    · subst hij
      rw [if_pos rfl, if_pos rfl, HE.out.2.2.1, HE.out.2.1, HE.out.1]
    · rw [if_neg hij, if_neg hij]
  case done =>
    rintro D ys V hD rfl ⟨A, hB⟩ hK
    have hS := Blk.one (show Blk V w3.heap.size #[.slice (some ⟨g, 0, none⟩) l.length l.length] 36 from (hB.block _ (by omega) (by omega)).trans S1)
    have HA := Lib.hid A
    clear A S1 S2
    go_wp2
    refine ⟨by simp, .inl ⟨_, _, rfl, run_takeDeferred hK, ?_⟩⟩
    refine ⟨_, results_tmp rfl _ _ _, g, rfl, by omega, HA.out.below (belowK_b (w := W0) (Nat.le_refl _) _ D _ _ hD hK rfl rfl) (by omega), ?_⟩
    have h1 := hB.below (m := w.heap.size) (by omega) (by omega)
    exact (b0.trans h1).trans (belowK_b (w := w) (Nat.le_refl _) _ D _ _ (by omega) hK rfl rfl)
  case stop =>
    rintro D c pre W _ _ h _
    exact h.elim
end Go.Proofs.Ytojphpncidjdiaa
namespace Go.Proofs.Ytojphpncidjdiaa
open Go.RowKit
set_option maxRecDepth 20000
set_option linter.unusedVariables false
set_option linter.unusedSimpArgs false

theorem upto_map (p : T6 → Int) (l : List T6) : uptoS (fldK p l) l.length = l.map p := by
  apply List.ext_getElem
  · simp [uptoS]
  · intro i h1 h2
    simp [uptoS, fldK] at *
    rw [List.getElem?_eq_getElem (by simpa using h2)]
    rfl
theorem part_1 {s : S5} (l : List T6) (h : s.how = 1) : partG s l = uptoS (fldK (fun t => strT t s.ord) l) l.length := by
  unfold partG; rw [if_pos h, upto_map]
theorem part_2 {s : S5} (l : List T6) (h : s.how ≠ 1) : partG s l = uptoS (fldK T6.h l) l.length := by
  unfold partG; rw [if_neg h, upto_map]
theorem inT_str {t : T6} (h : inT t) (o : Int) : inR (strT t o) := by
  unfold strT
  split
  · exact h.2.1
  split
  · exact h.2.2.1
  split
  · exact h.2.2.2.1
  split
  · exact h.2.2.2.2.1
  · unfold inR; omega
/-- What the rounds make, if By is at most 2^50. -/
theorem acc_share (n : Nat) (base : Nat → Int) (sg by' : Int) (L : List Int) (hL : L.length = n) (hb : 0 ≤ by') (hb' : by' ≤ 1125899906842624) (hsg : sg = 1 ∨ sg = -1) (hbase : ∀ i, i < n → 0 ≤ base i ∧ base i ≤ 1125899906842624) (i : Nat) (hi : i < n) :
    accA n base (fun k => wrap64 (sg * shareK by' L k)) (allA id by' L) i = base i + sg * (shareL by' L).getD i 0 := by
  by_cases h : rightS by' L = true
  · unfold allA
    rw [if_pos h, accA_upto n _ _ _ (by omega), if_pos (by omega), shareL_getD h i (by omega)]
    have := share_bd h i
    have hbi := hbase i hi
    rcases hsg with rfl | rfl
    · have e : (1 : Int) * shareK by' L i = shareK by' L i := by omega
      simp only [e]
      rw [show wrap64 (shareK by' L i) = shareK by' L i by unfold wrap64; omega]
      unfold wrap64; omega
    · have e : (-1 : Int) * shareK by' L i = - shareK by' L i := by omega
      simp only [e]
      rw [show wrap64 (-shareK by' L i) = -shareK by' L i by unfold wrap64; omega]
      unfold wrap64; omega
  · have h' : rightS by' L = false := by simpa using h
    unfold allA shareL
    rw [h']
    simp [accA]
theorem sizeK_in (s : S5) (l : List T6) (hb : fitB s.bye = true) (hs : l.all soundT = true) (k : Nat) (hk : k < l.length) : -1125899906842624 ≤ sizeK s l k ∧ sizeK s l k ≤ 2251799813685248 := by
  obtain ⟨h0, h1, h2, h3, h4, h5⟩ := soundT_true (all_get hs k hk)
  have b := fitB_true hb
  have n := fitB_true h4
  have h := fitB_true h5
  have sh : 0 ≤ (shareL s.bye (partG s l)).getD k 0 ∧ (shareL s.bye (partG s l)).getD k 0 ≤ s.bye := by
    by_cases hr : rightS s.bye (partG s l) = true
    · by_cases hk' : k < (partG s l).length
      · rw [shareL_getD hr k hk']; exact share_bd hr k
      · rw [List.getD_eq_getElem?_getD, List.getElem?_eq_none (by rw [shareL_len hr]; omega)]; simp; omega
    · have hr' : rightS s.bye (partG s l) = false := by simpa using hr
      unfold shareL; rw [hr']; simp; omega
  unfold sizeK
  split
  · omega
  split
  · omega
  split
  · omega
  · omega
theorem nil_own (w : World) (B : Nat) : OwnI w B (.slice none 0 0) [] := ⟨World.ownsRow_nil _ _ _ _, fun k => by simp [inR]⟩
theorem fld_in {w : World} {B : Nat} {a : Option Addr} {l : List T6} (h : GRow B w a l) (k : Nat) (hk : k < l.length) : inT (l.getD k zeroT) := (h k hk).1
theorem sizes_any (s : S5) (a : Option Addr) (cap : Nat) (l : List T6) (w : World) (hn : l.length ≤ 1000000) (hr : GRow w.heap.size w a l) :
    Calls Try.prog 15 #[stg s, .slice a l.length cap] w fun e w' => ∃ v, e = .returned v ∧ OwnI w' w.heap.size v (sizesG s l) ∧ Below w.heap.size w w' := by
  have hmax : 1000000 ≤ maxLen := by decide
  cases hb : fitB s.bye
  · refine (sizes_a s a cap l.length w hb).mono ?_
    rintro e w' ⟨rfl, h⟩
    refine ⟨_, rfl, ?_, h⟩
    unfold sizesG okG
    rw [hb]
    exact nil_own _ _
  cases hs : l.all soundT
  · refine (sizes_b s a cap l w hn hr hb hs).mono ?_
    rintro e w' ⟨rfl, h⟩
    refine ⟨_, rfl, ?_, h⟩
    unfold sizesG okG
    rw [hb, hs]
    exact nil_own _ _
  have hbb := fitB_true hb
  have hin : ∀ i, i < l.length → inR (sizeK s l i) := fun i hi => by have := sizeK_in s l hb hs i hi; unfold inR; omega
  have hnat : ∀ i, i < l.length → 0 ≤ fldK T6.n l i ∧ fldK T6.n l i ≤ 1125899906842624 := fun i hi => by
    obtain ⟨_, _, _, _, h4, _⟩ := soundT_true (all_get hs i hi)
    exact fitB_true h4
  have fin : ∀ (f : Nat → Int), 0 ≤ s.how → s.how ≤ 3 → (∀ i, i < l.length → f i = sizeK s l i) → ∀ e w', (∃ g, e = Ending.returned (.slice (some ⟨g, 0, none⟩) l.length l.length) ∧ w.heap.size ≤ g ∧ ArrF w' g l.length f ∧ Below w.heap.size w w') →
      ∃ v, e = .returned v ∧ OwnI w' w.heap.size v (sizesG s l) ∧ Below w.heap.size w w' := by
    rintro f g0 g3 hf e w' ⟨g, rfl, hg, A, hB⟩
    refine ⟨_, rfl, ?_, hB⟩
    have ho : okG s l = true := by unfold okG; rw [hb, hs, decide_eq_true g0, decide_eq_true g3]; rfl
    unfold sizesG
    rw [ho, cond_true]
    exact (A.congr hf).own hg (by omega) hin
  by_cases d0 : s.how = 0
  · refine (sizes_0 s a cap l w hn hr hb hs d0).mono (fin _ (by omega) (by omega) fun i hi => ?_)
    unfold sizeK
    rw [if_neg (by omega), if_neg (by omega), if_neg (by omega)]; rfl
  by_cases d1 : s.how = 1
  · refine (sizes_1 s a cap l w hn hr hb hs d1 (partG s l) (part_1 l d1) (fun i hi => inT_str (fld_in hr i hi) _)).mono (fin _ (by omega) (by omega) fun i hi => ?_)
    rw [acc_share l.length _ 1 s.bye _ (by rw [part_1 l d1, uptoS_length]) hbb.1 hbb.2 (.inl rfl) hnat i hi]
    unfold sizeK
    rw [if_pos d1, Int.one_mul]; rfl
  by_cases d2 : s.how = 2
  · refine (sizes_2 s a cap l w hn hr hb hs d2 (partG s l) (part_2 l d1) (fun i hi => (fld_in hr i hi).2.2.2.2.2)).mono (fin _ (by omega) (by omega) fun i hi => ?_)
    rw [acc_share l.length _ (-1) s.bye _ (by rw [part_2 l d1, uptoS_length]) hbb.1 hbb.2 (.inr rfl) hnat i hi]
    unfold sizeK
    rw [if_neg d1, if_pos d2, Int.neg_mul, Int.one_mul, ← Int.sub_eq_add_neg]; rfl
  by_cases d3 : s.how = 3
  · refine (sizes_3 s a cap l w hn hr hb hs d3).mono (fin _ (by omega) (by omega) fun i hi => ?_)
    unfold sizeK
    rw [if_neg d1, if_neg d2, if_pos d3]
  · refine (sizes_d s a cap l w hn hr hb hs (by simpa using d0) (by simpa using d1) (by simpa using d2) (by simpa using d3)).mono ?_
    rintro e w' ⟨rfl, h⟩
    refine ⟨_, rfl, ?_, h⟩
    have ho : okG s l = false := by
      unfold okG
      by_cases g0 : 0 ≤ s.how
      · rw [decide_eq_false (show ¬ s.how ≤ 3 by omega)]; simp
      · rw [decide_eq_false g0]; simp
    unfold sizesG
    rw [ho]
    exact nil_own _ _
end Go.Proofs.Ytojphpncidjdiaa
