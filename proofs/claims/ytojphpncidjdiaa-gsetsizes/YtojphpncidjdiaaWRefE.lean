/- The document's answers for layer 2, over the cut: Div. -/
import Derived.Test.YtojphpncidjdiaaWRefD
import Derived.Deep.DeepCutAuto
namespace Go.Proofs.Ytojphpncidjdiaa
open Go.RowKit
set_option linter.unusedVariables false

/-- The cells of a division's answer. -/
def partsC (f : Nat → Bool) (r : Int) (o : Bool) : Array Value := cellsB 128 f ++ #[.int .u64 r, .bool o]
theorem partsC_size (f : Nat → Bool) (r : Int) (o : Bool) : (partsC f r o).size = 130 := by simp [partsC, cellsB_size]
theorem partsC_one (f : Nat → Bool) (r : Int) (o : Bool) : (partsC f r o).all (·.oneCell') = true := by
  unfold partsC; rw [Array.all_append, cellsB_one]; simp [Value.oneCell']
theorem zParts : (Try.prog.info? 108).map (fun i => (i.zero, i.size)) = some (some (.agg (partsC (fun _ => false) 0 false)), 130) := by kernel_rfl
theorem zvParts : ∀ w, (zeroValue 108).run Try.prog w = .ok (.agg (partsC (fun _ => false) 0 false)) w := (zero_of_info zParts).1
theorem iParts : (Try.prog.info? 108).map (·.size) = some 130 := (zero_of_info zParts).2
/-- A block holds an answer of a division. -/
def PB (w : World) (g : Nat) (f : Nat → Bool) (r : Int) (o : Bool) : Prop := w.heap[g]? = some (.cells (partsC f r o) 108 (0, 0))
theorem PB.lt {w : World} {g : Nat} {f : Nat → Bool} {r : Int} {o : Bool} (h : PB w g f r o) : g < w.heap.size := (Array.getElem?_eq_some_iff.1 h).1
theorem PB.carry {w w' : World} {g B : Nat} {f : Nat → Bool} {r : Int} {o : Bool} (h : PB w g f r o) (hb : Below B w w') (hB : g < B) : PB w' g f r o := (hb.block g hB).trans h
theorem PB.row {w : World} {g : Nat} {f : Nat → Bool} {r : Int} {o : Bool} (h : PB w g f r o) (f' : Nat → Bool) (r' : Int) (o' : Bool) : PB (w.setRow g (partsC f' r' o')) g f' r' o' := setRow_heap w g _ _ _ _ h
theorem PB.rowOther {w : World} {g g' : Nat} {f : Nat → Bool} {r : Int} {o : Bool} (h : PB w g f r o) (hg : g ≠ g') (cs : Array Value) : PB (w.setRow g' cs) g f r o := (row_other w g g' cs hg).trans h
theorem PB.alloc {w : World} {g : Nat} {f : Nat → Bool} {r : Int} {o : Bool} (h : PB w g f r o) (ob : Obj) : PB (w.alloc ob) g f r o := (Below.heap_alloc w ob g h.lt).trans h
theorem PB.new (w : World) (f : Nat → Bool) (r : Int) (o : Bool) : PB (w.alloc (.cells (partsC f r o) 108)) w.heap.size f r o := heap_alloc_last w _
theorem st_parts {ops : Array Oper} {rest : List Oper} {o : Oper} {a : Act} {w : World} {Q : Exit → Act → World → Prop} (hgd : o.guard = none) (x y : Operand) (ho : o.op = .store 108 x y)
    (g : Nat) (f f' : Nat → Bool) (r r' : Int) (k k' : Bool) (hx : a.eval x = .pointer (some ⟨g, 0, none⟩)) (hy : a.eval y = .agg (partsC f' r' k')) (hg : PB w g f r k)
    (h : wpList Try.prog ops Q rest (a.put o.dst undef) (w.setRow g (partsC f' r' k'))) : wpList Try.prog ops Q (o :: rest) a w :=
  wpList_store_row hgd 108 x y ho g _ hx hy 108 _ hg (by rw [iParts, partsC_size]) (by rw [partsC_size, partsC_size]) (partsC_one _ _ _) h
theorem res_parts {fn : Func} {p : Tmp} (h : fn.results = #[.cell p 108]) (tmps : Array Value) (w : World) (g : Nat) (f : Nat → Bool) (r : Int) (k : Bool) (hp : tmps.getD p undef = .pointer (some ⟨g, 0, none⟩)) (hg : PB w g f r k) :
    (results fn tmps).run Try.prog w = .ok (.agg (partsC f r k)) w :=
  results_cell_row h tmps w g 108 _ _ _ hp hg Try.underlying108 rfl (by rw [iParts, partsC_size])
theorem built_parts (f : Nat → Bool) (r : Int) : Try.prog.built 108 [(0, .agg (cellsB 128 f)), (1, .int .u64 r), (2, .bool true)] = some (partsC f r true) := by kernel_rfl
theorem built_parts0 : Try.prog.built 108 [] = some (partsC (fun _ => false) 0 false) := by kernel_rfl
theorem field_parts (f : Nat → Bool) (r : Int) (o : Bool) (w : World) : (Instr.field 108 (.agg (partsC f r o)) 0).run Try.prog w = .ok (.agg (cellsB 128 f)) w := by kernel_rfl
theorem bd_parts0 {ops : Array Oper} {rest : List Oper} {o : Oper} {a : Act} {w : World} {Q : Exit → Act → World → Prop} (hgd : o.guard = none) (ho : o.op = .build 108 #[])
    (h : wpList Try.prog ops Q rest (a.put o.dst (.agg (partsC (fun _ => false) 0 false))) w) : wpList Try.prog ops Q (o :: rest) a w := by
  have e : ((#[] : Array (Nat × Operand)).map fun (i, x) => (i, a.eval x)).toList = [] := by simp
  refine wpList_build hgd 108 _ ho ?_ ?_
  · rw [e, built_parts0, Option.isSome_some]
  · rw [e, built_parts0, Option.getD_some]; exact h
set_option maxRecDepth 100000 in
theorem rdiv_zero (A : Nat) (w : World) :
    Calls Try.prog 79 #[numB A, .int .u64 0] w fun e w' => e = .returned (.agg (partsC (fun _ => false) 0 false)) ∧ Below w.heap.size w w' := by
  have z := zvParts
  have P0 := PB.new (w.alloc (.cells (cellsB 128 fun i => A.testBit i) 106)) (fun _ => false) 0 false
  simp only [World.size_alloc] at P0
  unfold numB numF
  go_enter Try.func79, Try.ntmps79
  go_wp2_with (first | (refine bd_parts0 rfl rfl ?_) | (refine st_parts rfl _ _ rfl _ _ _ _ _ _ _ rfl rfl P0 ?_))
  exact bodyPost_ret (v := .agg (partsC (fun _ => false) 0 false)) (res_parts rfl _ _ _ _ _ _ rfl (P0.row _ _ _)) rfl ⟨rfl, Below.setRow (bel2 _ _ _) (by omega) _⟩
/-! ### The still step over a whole number -/
theorem still_ld {ops : Array Oper} {rest : List Oper} {o : Oper} {a : Act} {w : World} {Q : Act → Prop} (hgd : o.guard = none) (x : Operand) (ho : o.op = .load 106 x) (g : Nat)
    (hx : a.eval x = .pointer (some ⟨g, 0, none⟩)) (f : Nat → Bool) (hg : BB w g 106 128 f) (h : wpStill Try.prog ops w Q rest (a.put o.dst (.agg (cellsB 128 f)))) : wpStill Try.prog ops w Q (o :: rest) a := by
  unfold wpStill
  rw [if_pos (by unfold Region.wanted; rw [hgd])]
  unfold Oper.still execOp
  simp only [ho, hx, Instr.loadAt, Instr.sureAddr, Sem.run_bind, Sem.run_pure, Result.andThen_ok, run_loadVar_row w g 106 106 _ (0, 0) _ hg Try.underlying106 rfl (by rw [iNum, cellsB_size])]
  rw [Oper.stillUpon_value]
  exact h
/-! ### Steps in a region that draws its order, by the held laws -/
theorem yif_ld {ops : Array Oper} {S : World → Prop} {o : Oper} {a : Act} (hgd : o.guard = none) (x : Operand) (ho : o.op = .load 106 x) (g : Nat)
    (hx : a.eval x = .pointer (some ⟨g, 0, none⟩)) (f : Nat → Bool) (hS : ∀ w, S w → BB w g 106 128 f) : YieldsIf Try.prog ops S o (.agg (cellsB 128 f)) a :=
  .inl ⟨by unfold Region.wanted; rw [hgd], fun w hw => by
    unfold execOp
    simp only [ho, hx, Instr.loadAt, Instr.sureAddr, Sem.run_bind, Sem.run_pure, Result.andThen_ok, run_loadVar_row w g 106 106 _ (0, 0) _ (hS w hw) Try.underlying106 rfl (by rw [iNum, cellsB_size])]⟩
theorem want_if {p q : Prop} {o : Oper} {y : Nat → Option Bool} (hgd : o.guard = none) (h : p) : if Region.wanted o y = true then p else q := by
  rw [if_pos (by unfold Region.wanted; rw [hgd])]; exact h
theorem ready_one {md : Region.Mode} {ops : Array Oper} {Q : Exit → Act → World → Prop} {S : World → Prop} {fuel : Nat} {listed : Array Bool} {a : Act} {w : World} (i : Nat) (o : Oper)
    (hr : Region.ready md ops listed = [i]) (ho : ops[i]? = some o) (hgd : o.guard = none) (a' : Act) (w' : World) (hs : ∀ K : Act → World → Prop, K a' w' → Oper.wp Try.prog o a w K Q) (hS : S w')
    (h : wpAnyH Try.prog md ops Q S fuel (listed.setIfInBounds i true) a' w') : wpAnyH Try.prog md ops Q S (fuel + 1) listed a w :=
  wpAnyH_ready hr (by simp) (AllReadyH.cons ho (fun K hK => want_if hgd (hs K (hK.out _ _ hS fun _ => h))) AllReadyH.nil)
theorem idx_words (u v : Value) (w : World) : (Instr.index 103 (.agg #[u, v]) (.int .i64 1)).run Try.prog w = .ok v w := by kernel_rfl
theorem wp_idx {o : Oper} {a : Act} {w : World} {K : Act → World → Prop} {Q : Exit → Act → World → Prop} (x : Operand) (ho : o.op = .index 103 x (.const (.int .i64 1))) (u v : Value)
    (hx : a.eval x = .agg #[u, v]) (h : K (a.put o.dst v) w) : o.wp Try.prog a w K Q := by
  have hc : a.eval (.const (.int .i64 1)) = .int .i64 1 := rfl
  unfold Oper.wp execOp
  simp only [ho, hx, hc, Sem.run_bind, idx_words, Result.andThen_ok, Sem.run_pure]
  exact h
theorem wp_bd_parts {o : Oper} {a : Act} {w : World} {K : Act → World → Prop} {Q : Exit → Act → World → Prop} (x y : Operand) (ho : o.op = .build 108 #[(0, x), (1, y), (2, .const (.bool true))])
    (f : Nat → Bool) (r : Int) (hx : a.eval x = .agg (cellsB 128 f)) (hy : a.eval y = .int .u64 r) (h : K (a.put o.dst (.agg (partsC f r true))) w) : o.wp Try.prog a w K Q := by
  have e : ((#[(0, x), (1, y), (2, Operand.const (.bool true))] : Array (Nat × Operand)).map fun (i, x) => (i, a.eval x)).toList = [(0, .agg (cellsB 128 f)), (1, .int .u64 r), (2, .bool true)] := by
    simp [hx, hy]; rfl
  refine wp_build 108 _ ho ?_ ?_
  · rw [e, built_parts, Option.isSome_some]
  · rw [e, built_parts, Option.getD_some]; exact h
theorem wp_st_parts {o : Oper} {a : Act} {w : World} {K : Act → World → Prop} {Q : Exit → Act → World → Prop} (x y : Operand) (ho : o.op = .store 108 x y)
    (g : Nat) (f f' : Nat → Bool) (r r' : Int) (k k' : Bool) (hx : a.eval x = .pointer (some ⟨g, 0, none⟩)) (hy : a.eval y = .agg (partsC f' r' k')) (hg : PB w g f r k)
    (h : K (a.put o.dst undef) (w.setRow g (partsC f' r' k'))) : o.wp Try.prog a w K Q :=
  wp_store_row 108 x y ho g _ hx hy 108 _ hg (by rw [iParts, partsC_size]) (by rw [partsC_size, partsC_size]) (partsC_one _ _ _) h
theorem ready_st {md : Region.Mode} {ops : Array Oper} {Q : Exit → Act → World → Prop} {S : World → Prop} {fuel : Nat} {listed : Array Bool} {a : Act} {w : World} (i : Nat) (o : Oper)
    (hr : Region.ready md ops listed = [i]) (ho : ops[i]? = some o) (hgd : o.guard = none) (x y : Operand) (hop : o.op = .store 108 x y)
    (g : Nat) (f f' : Nat → Bool) (r r' : Int) (k k' : Bool) (hx : a.eval x = .pointer (some ⟨g, 0, none⟩)) (hy : a.eval y = .agg (partsC f' r' k')) (hg : PB w g f r k) (hS : S (w.setRow g (partsC f' r' k')))
    (h : wpAnyH Try.prog md ops Q S fuel (listed.setIfInBounds i true) (a.put o.dst undef) (w.setRow g (partsC f' r' k'))) : wpAnyH Try.prog md ops Q S (fuel + 1) listed a w :=
  ready_one i o hr ho hgd _ _ (fun _ hK => wp_st_parts x y hop g f f' r r' k k' hx hy hg hK) hS h
theorem ready_bd {md : Region.Mode} {ops : Array Oper} {Q : Exit → Act → World → Prop} {S : World → Prop} {fuel : Nat} {listed : Array Bool} {a : Act} {w : World} (i : Nat) (o : Oper)
    (hr : Region.ready md ops listed = [i]) (ho : ops[i]? = some o) (hgd : o.guard = none) (x y : Operand) (hop : o.op = .build 108 #[(0, x), (1, y), (2, .const (.bool true))])
    (f : Nat → Bool) (r : Int) (hx : a.eval x = .agg (cellsB 128 f)) (hy : a.eval y = .int .u64 r) (hS : S w)
    (h : wpAnyH Try.prog md ops Q S fuel (listed.setIfInBounds i true) (a.put o.dst (.agg (partsC f r true))) w) : wpAnyH Try.prog md ops Q S (fuel + 1) listed a w :=
  ready_one i o hr ho hgd _ _ (fun _ hK => wp_bd_parts x y hop f r hx hy hK) hS h
theorem ready_idx {md : Region.Mode} {ops : Array Oper} {Q : Exit → Act → World → Prop} {S : World → Prop} {fuel : Nat} {listed : Array Bool} {a : Act} {w : World} (i : Nat) (o : Oper)
    (hr : Region.ready md ops listed = [i]) (ho : ops[i]? = some o) (hgd : o.guard = none) (x : Operand) (hop : o.op = .index 103 x (.const (.int .i64 1))) (u v : Value)
    (hx : a.eval x = .agg #[u, v]) (hS : S w) (h : wpAnyH Try.prog md ops Q S fuel (listed.setIfInBounds i true) (a.put o.dst v) w) : wpAnyH Try.prog md ops Q S (fuel + 1) listed a w :=
  ready_one i o hr ho hgd _ _ (fun _ hK => wp_idx x hop u v hx hK) hS h
/-- What a division has laid, in a world X. -/
structure DSt (w : World) (Y A d : Nat) (fq fr : Nat → Bool) (X : World) : Prop where
  b : Below w.heap.size w X
  a : BB X w.heap.size 106 128 (fun i => A.testBit i)
  p : PB X (w.heap.size + 1) (fun _ => false) 0 false
  q : BB X (w.heap.size + 2) 106 128 fq
  r : BB X (w.heap.size + 3) 106 128 fr
  y : BB X Y 106 128 (fun i => d.testBit i)
  l : w.heap.size + 3 < Y
theorem DSt.carry {w X X' : World} {Y A d : Nat} {fq fr : Nat → Bool} (h : DSt w Y A d fq fr X) (c : Below X.heap.size X X') : DSt w Y A d fq fr X' :=
  ⟨h.b.trans (c.mono h.b.size), h.a.carry c h.a.lt, h.p.carry c h.p.lt, h.q.carry c h.q.lt, h.r.carry c h.r.lt, h.y.carry c h.y.lt, h.l⟩
theorem DSt.setR {w X : World} {Y A d : Nat} {fq fr : Nat → Bool} (h : DSt w Y A d fq fr X) (fr' : Nat → Bool) : DSt w Y A d fq fr' (X.setRow (w.heap.size + 3) (cellsB 128 fr')) :=
  ⟨Below.setRow h.b (by omega) _, h.a.rowOther (by omega) _, h.p.rowOther (by omega) _, h.q.rowOther (by omega) _, h.r.row _, h.y.rowOther (by have := h.l; omega) _, h.l⟩
theorem PB.other {w : World} {g g' i : Nat} {f : Nat → Bool} {r : Int} {o : Bool} (h : PB w g f r o) (hg : g ≠ g') (v : Value) : PB (w.setCell ⟨g', i, none⟩ v) g f r o :=
  (Below.heap_setCell w ⟨g', i, none⟩ v g hg).trans h
theorem DSt.setQ {w X : World} {Y A d : Nat} {fq fr : Nat → Bool} (h : DSt w Y A d fq fr X) (j : Nat) (b : Bool) : DSt w Y A d (upd fq j b) fr (X.setCell ⟨w.heap.size + 2, j, none⟩ (.bool b)) :=
  ⟨h.b.setCell (by simp) _, h.a.other (by omega) _, h.p.other (by omega) _, h.q.set j b, h.r.other (by omega) _, h.y.other (by have := h.l; omega) _, h.l⟩
theorem DSt.congr {w X : World} {Y A d : Nat} {fq fr fq' fr' : Nat → Bool} (h : DSt w Y A d fq fr X) (e1 : ∀ i, i < 128 → fq i = fq' i) (e2 : ∀ i, i < 128 → fr i = fr' i) : DSt w Y A d fq' fr' X :=
  ⟨h.b, h.a, h.p, h.q.congr e1, h.r.congr e2, h.y, h.l⟩
def fQ (A d k : Nat) : Nat → Bool := fun j => decide (k ≤ j) && (A / d).testBit j
theorem fQ_top (A d i : Nat) (hi : i < 128) : false = fQ A d 128 i := by unfold fQ; rw [decide_eq_false (by omega)]; rfl
theorem fQ_end (A d i : Nat) : fQ A d 0 i = (A / d).testBit i := by unfold fQ; simp
theorem fQ_yes (A d j i : Nat) (h : (A / d).testBit j = true) : upd (fQ A d (j + 1)) j true i = fQ A d j i := by
  unfold upd fQ
  by_cases e : i = j
  · subst e; rw [if_pos rfl, h]; simp
  · rw [if_neg e]; congr 1; simp only [decide_eq_decide]; omega
theorem fQ_no (A d j i : Nat) (h : (A / d).testBit j = false) : fQ A d (j + 1) i = fQ A d j i := by
  unfold fQ
  by_cases e : i = j
  · subst e; rw [h]; simp
  · congr 1; simp only [decide_eq_decide]; omega
set_option maxRecDepth 100000 in
set_option maxHeartbeats 1000000 in
theorem rdiv_pos (A d : Nat) (w : World) (hA : A < 340282366920938463463374607431768211456) (hd0 : 0 < d) (hd : d < 18446744073709551616) :
    Calls Try.prog 79 #[numB A, .int .u64 d] w fun e w' => e = .returned (.agg (partsC (fun i => (A / d).testBit i) ((A % d : Nat) : Int) true)) ∧ Below w.heap.size w w' := by
  have z := zvNum
  have z2 := zvParts
  have dn : ((d : Int) == 0) = false := by simp; omega
  unfold numB numF
  go_enter Try.func79, Try.ntmps79
  go_wp2_with fail
  refine (w_of_any d _ hd).mono ?_
  rintro e w1 ⟨rfl, b1⟩
  have A0 := BB.new w 106 128 (fun i => A.testBit i)
  have P0 := PB.new (w.alloc (.cells (cellsB 128 fun i => A.testBit i) 106)) (fun _ => false) 0 false
  have Q0 := BB.new ((w.alloc (.cells (cellsB 128 fun i => A.testBit i) 106)).alloc (.cells (partsC (fun _ => false) 0 false) 108)) 106 128 (fun _ => false)
  have R0 := BB.new (((w.alloc (.cells (cellsB 128 fun i => A.testBit i) 106)).alloc (.cells (partsC (fun _ => false) 0 false) 108)).alloc (.cells (cellsB 128 fun _ => false) 106)) 106 128 (fun _ => false)
  have A1 := (((A0.alloc (.cells (partsC (fun _ => false) 0 false) 108)).alloc (.cells (cellsB 128 fun _ => false) 106)).alloc (.cells (cellsB 128 fun _ => false) 106)).carry b1 (by simp <;> omega)
  have P1 := ((P0.alloc (.cells (cellsB 128 fun _ => false) 106)).alloc (.cells (cellsB 128 fun _ => false) 106)).carry b1 (by simp <;> omega)
  have Q1 := (Q0.alloc (.cells (cellsB 128 fun _ => false) 106)).carry b1 (by simp <;> omega)
  have R1 := R0.carry b1 (by simp)
  simp only [World.size_alloc] at P1 Q1 R1
  have s1 := b1.size
  simp only [World.size_alloc] at s1
  have bw : Below w.heap.size w w1 := ((bel3 w _ _ _).alloc (by simp; omega) _).trans (b1.mono (by simp; omega))
  have N1 := BB.new w1 106 128 (fun _ => false)
  have D0 : DSt w w1.heap.size A d (fun _ => false) (fun _ => false) ((w1.alloc (.cells (cellsB 128 fun _ => false) 106)).setRow w1.heap.size (cellsB 128 fun i => d.testBit i)) :=
    ⟨Below.setRow (bw.alloc bw.size _) (by omega) _, (A1.alloc _).rowOther (by omega) _, (P1.alloc _).rowOther (by omega) _, (Q1.alloc _).rowOther (by omega) _, (R1.alloc _).rowOther (by omega) _, N1.row _, by omega⟩
  clear b1 A0 P0 Q0 R0 A1 P1 Q1 R1 bw
  unfold numB numF
  go_wp2_with (refine st_num rfl _ _ rfl _ _ _ rfl rfl N1 ?_)
  clear N1
  go_loopw [8] (fun i wr => ∃ k : Nat, k ≤ 128 ∧ i = .int .i64 ((k : Int) - 1) ∧ DSt w w1.heap.size A d (fQ A d k) (fun i => (A / 2 ^ k % d).testBit i) wr) (fun i _ => (intOf i + 1).toNat)
  case atStart =>
    refine ⟨128, by omega, rfl, D0.congr (fun i hi => fQ_top A d i hi) fun i hi => ?_⟩
    rw [show A / 2 ^ 128 = 0 from Nat.div_eq_of_lt hA]; simp
  case round =>
    obtain ⟨k, hk, rfl, hD⟩ := hrel
    clear D0 z z2
    have DL := Lib.hid hD.l
    by_cases hlt : 0 < k
    · obtain ⟨j, rfl⟩ : ∃ j, k = j + 1 := ⟨k - 1, by omega⟩
      rw [show ((j + 1 : Nat) : Int) - 1 = (j : Int) by omega]
      have ca := hD.a.cell (i := j) (by omega)
      have jb0 : (0 : Int) ≤ (j : Int) := by omega
      have jb1 : (j : Int) < 128 := by omega
      have hr := hD.r
      have hms := Lib.hid (mod_step A d j hd0)
      have hdb := Lib.hid (div_bit A d j hd0)
      have hrl := Lib.hid (show dbl (A / 2 ^ (j + 1) % d) (A.testBit j) < 340282366920938463463374607431768211456 by
        have := Nat.mod_lt (A / 2 ^ (j + 1)) hd0
        unfold dbl b2; split <;> omega)
      obtain ⟨p, hp⟩ : ∃ p, p = A.testBit j := ⟨_, rfl⟩
      rw [← hp] at ca hms hdb hrl
      have HP := Lib.hid hp
      have HD := Lib.hid hD
      clear hp hD
      go_wp2
      refine wp_region_still_tail 5 (by kernel_rfl) (by kernel_rfl) ?_
      simp only [List.take_succ_cons, List.take_zero, List.drop_succ_cons, List.drop_zero]
      refine still_ld rfl _ rfl _ rfl _ hr ?_
      simp only [Act.put, List.setIfInBounds_toArray, List.set_cons_zero, List.set_cons_succ]
      repeat still_step
      refine wpStill_nil ?_
      change wpList _ _ _ _ _ wr.drew
      go_wp2_with fail
      refine (w_up_any (A / 2 ^ (j + 1) % d) p _).mono ?_
      rintro e w2 ⟨rfl, c1⟩
      have D2 := HD.out.carry ((Below.refl _ wr).drew.trans c1)
      have r2 := D2.r
      have D3 := D2.setR (fun i => (dbl (A / 2 ^ (j + 1) % d) p).testBit i)
      have r3 := D3.r
      have y3 := D3.y
      have HD3 := Lib.hid D3
      clear c1 D2 D3 hr ca HD
      unfold numB numF
      go_wp2_with (first | (refine st_num rfl _ _ rfl _ _ _ rfl rfl r2 ?_) | (refine ld_num rfl _ rfl _ rfl _ r3 ?_) | (refine ld_num rfl _ rfl _ rfl _ y3 ?_))
      generalize w2.setRow (w.heap.size + 3) (cellsB 128 fun i => (dbl (A / 2 ^ (j + 1) % d) p).testBit i) = w3 at r3 y3 HD3 ⊢
      clear r2 r3 y3
      generalize dbl (A / 2 ^ (j + 1) % d) p = R at hms hdb hrl HD3 ⊢
      refine (rless_any R d _ hrl.out (by omega)).mono ?_
      rintro e w4 ⟨rfl, c2⟩
      have D4 := HD3.out.carry c2
      clear c2 HD3
      by_cases hc : R < d
      · have hdb' : (A / d).testBit j = false := by rw [hdb.out]; exact decide_eq_false (by omega)
        have hms' : A / 2 ^ j % d = R := by rw [hms.out, if_neg (by omega)]; rfl
        have H1 := Lib.hid hdb'
        have H2 := Lib.hid hms'
        have H4 := Lib.hid D4
        rw [decide_eq_true hc]
        clear hdb' hms' D4 hc
        go_wp2_with fail
        go_roundw
        case rel => exact ⟨j, by omega, rfl, H4.out.congr (fun i _ => fQ_no A d j i H1.out) fun i _ => by rw [H2.out]⟩
        case measure => simp [intOf]
      · have hdb' : (A / d).testBit j = true := by rw [hdb.out]; exact decide_eq_true (by omega)
        have hms' : A / 2 ^ j % d = R - d := by rw [hms.out, if_pos (by omega)]
        have H1 := Lib.hid hdb'
        have H2 := Lib.hid hms'
        rw [decide_eq_false hc]
        have r4 := D4.r
        have y4 := D4.y
        have H4 := Lib.hid D4
        clear hdb' hms' D4
        go_wp2_with (first | (refine ld_num rfl _ rfl _ rfl _ r4 ?_) | (refine ld_num rfl _ rfl _ rfl _ y4 ?_))
        refine (minus_any R d _ (by omega)).mono ?_
        rintro e w5 ⟨rfl, c3⟩
        have D5 := H4.out.carry c3
        have r5 := D5.r
        have D6 := D5.setR (fun i => (R - d).testBit i)
        have c6 := D6.q.cell (i := j) (by omega)
        have f6 := D6.q.frozen (i := j)
        have H6 := Lib.hid (D6.setQ j true)
        clear c3 D5 D6 H4 r4 y4 hc
        unfold numB numF
        go_wp2_with (refine st_num rfl _ _ rfl _ _ _ rfl rfl r5 ?_)
        go_roundw
        case rel => exact ⟨j, by omega, rfl, H6.out.congr (fun i _ => fQ_yes A d j i H1.out) fun i _ => by rw [H2.out]⟩
        case measure => simp [intOf]
    · obtain rfl : k = 0 := by omega
      have D9 := hD.congr (fq' := fun i => (A / d).testBit i) (fr' := fun i => (A % d).testBit i) (fun i _ => fQ_end A d i) (fun i _ => by simp)
      clear hD
      have H9 := Lib.hid D9
      clear D9
      have ha : A % d < 340282366920938463463374607431768211456 := by have := Nat.mod_lt A hd0; omega
      have hm : A % d % 18446744073709551616 = A % d := Nat.mod_eq_of_lt (by have := Nat.mod_lt A hd0; omega)
      have HM := Lib.hid hm
      clear hm
      go_wp2
      refine wp_region_held_drew (S := fun X => BB X (w.heap.size + 2) 106 128 (fun i => (A / d).testBit i) ∧ BB X (w.heap.size + 3) 106 128 (fun i => (A % d).testBit i)) (by kernel_rfl) ⟨H9.out.q, H9.out.r⟩ (fun hS => ?_)
      refine wpAnyH_take (i := 0) (v := .agg (cellsB 128 fun i => (A / d).testBit i)) rfl (by kernel_rfl) (by kernel_rfl) (by kernel_rfl) (fun _ _ _ h => h) (yif_ld rfl _ rfl (w.heap.size + 2) rfl _ fun X hX => hX.1) hS ?_
      simp only [Act.put]
      refine wpAnyH_take (i := 1) (v := .agg (cellsB 128 fun i => (A % d).testBit i)) rfl (by kernel_rfl) (by kernel_rfl) (by kernel_rfl) (fun _ _ _ h => h) (yif_ld rfl _ rfl (w.heap.size + 3) rfl _ fun X hX => hX.2) hS ?_
      simp only [Act.put]
      refine wpAnyH_ready (rs := [2]) (by kernel_rfl) (by simp) ?_
      refine AllReadyH.cons rfl (fun K hK => ?_) AllReadyH.nil
      go_simp
      refine (words_any (A % d) _ ha).mono ?_
      rintro e w2 ⟨rfl, c1⟩
      have D2 := H9.out.carry ((Below.refl _ wr).drew.trans c1)
      unfold wordsV
      rw [HM.out]
      go_wp2_with fail
      refine hK.out _ _ ⟨D2.q, D2.r⟩ (fun _ => ?_)
      have H2 := Lib.hid D2
      clear hK K D2 c1 hS H9
      refine ready_idx 3 _ (by kernel_rfl) rfl rfl _ rfl _ _ rfl ⟨H2.out.q, H2.out.r⟩ ?_
      simp only [Act.put, List.getElem_toArray, List.getElem_cons_succ, List.getElem_cons_zero, List.setIfInBounds_toArray, List.set_cons_zero, List.set_cons_succ]
      refine ready_bd 4 _ (by kernel_rfl) rfl rfl _ _ rfl (fun i => (A / d).testBit i) ((A : Int) % (d : Int)) rfl rfl ⟨H2.out.q, H2.out.r⟩ ?_
      simp only [Act.put, List.getElem_toArray, List.getElem_cons_succ, List.getElem_cons_zero, List.setIfInBounds_toArray, List.set_cons_zero, List.set_cons_succ]
      refine ready_st 5 _ (by kernel_rfl) rfl rfl _ _ rfl (w.heap.size + 1) (fun _ => false) (fun i => (A / d).testBit i) 0 ((A : Int) % (d : Int)) false true rfl rfl H2.out.p ⟨H2.out.q.rowOther (by omega) _, H2.out.r.rowOther (by omega) _⟩ ?_
      refine wpAnyH_done (by kernel_rfl) ?_ _
      go_wp2_with fail
      exact bodyPost_ret (v := .agg (partsC (fun i => (A / d).testBit i) ((A : Int) % (d : Int)) true)) (res_parts rfl _ _ _ _ _ _ rfl (H2.out.p.row _ _ _)) rfl ⟨by rw [Int.natCast_emod], Below.setRow H2.out.b (by omega) _⟩
/-- What a division by the document answers. -/
def divF (A d : Nat) : Value := if d = 0 then .agg (partsC (fun _ => false) 0 false) else .agg (partsC (fun i => (A / d).testBit i) ((A % d : Nat) : Int) true)
theorem rdiv_any (A d : Nat) (w : World) (hA : A < 340282366920938463463374607431768211456) (hd : d < 18446744073709551616) :
    Calls Try.prog 79 #[numB A, .int .u64 d] w fun e w' => e = .returned (divF A d) ∧ Below w.heap.size w w' := by
  unfold divF
  by_cases h : d = 0
  · subst h; rw [if_pos rfl]; exact rdiv_zero A w
  · rw [if_neg h]; exact rdiv_pos A d w hA (by omega) hd
end Go.Proofs.Ytojphpncidjdiaa
