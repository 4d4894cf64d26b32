/- The walk of WideReckons over the cut of stage 2. -/
import Derived.Test.YtmggcdhahimpnaaWRefF
import Derived.Deep.MidRow
namespace Go.Proofs.Ytmggcdhahimpnaa
open Go.RowKit
set_option linter.unusedVariables false

theorem yif_w {ops : Array Oper} {S : World → Prop} {o : Oper} {a : Act} {v : Value} (hw : Region.wanted o (yielded ops a.tmps) = true) (h : ∀ w, S w → (execOp a.eval o).run Try.prog w = .ok (.value v) w) : YieldsIf Try.prog ops S o v a :=
  .inl ⟨hw, h⟩
theorem wp_call {o : Oper} {a : Act} {w : World} {K : Act → World → Prop} {Q : Exit → Act → World → Prop} (F : Nat) (args : Array Value) (v : Value) (w' : World → Prop)
    (he : (execOp a.eval o).run Try.prog w = .ok (.enter F args) w) (c : Calls Try.prog F args w fun e x => e = .returned v ∧ w' x) (h : ∀ x, w' x → K (a.put o.dst v) x) : o.wp Try.prog a w K Q := by
  unfold Oper.wp
  rw [he]
  show Calls Try.prog F args w _
  refine c.mono ?_
  rintro e x ⟨rfl, hx⟩
  exact h x hx
theorem wp_of_run {o : Oper} {a : Act} {w w' : World} {K : Act → World → Prop} {Q : Exit → Act → World → Prop} (v : Value) (he : (execOp a.eval o).run Try.prog w = .ok (.value v) w') (h : K (a.put o.dst v) w') : o.wp Try.prog a w K Q := by
  unfold Oper.wp
  rw [he]
  exact h
section
variable {md : Region.Mode} {ops : Array Oper} {Q : Exit → Act → World → Prop} {S : World → Prop} {fuel : Nat} {listed : Array Bool} {a : Act} {w : World} {rs : List Nat}
theorem all_call (i : Nat) (o : Oper) (ho : ops[i]? = some o) (hw : Region.wanted o (yielded ops a.tmps) = true) (F : Nat) (args : Array Value) (v : Value)
    (he : (execOp a.eval o).run Try.prog w = .ok (.enter F args) w) (c : Calls Try.prog F args w fun e x => e = .returned v ∧ Below w.heap.size w x)
    (h : ∀ x, Below w.heap.size w x → S x ∧ wpAnyH Try.prog md ops Q S fuel (listed.setIfInBounds i true) (a.put o.dst v) x)
    (hr : AllReadyH Try.prog md ops Q S fuel listed a w rs) : AllReadyH Try.prog md ops Q S fuel listed a w (i :: rs) :=
  AllReadyH.cons ho (fun K hK => by
    rw [if_pos hw]
    exact wp_call F args v _ he c fun x hx => hK.out _ _ (h x hx).1 fun _ => (h x hx).2) hr
theorem all_run (i : Nat) (o : Oper) (ho : ops[i]? = some o) (hw : Region.wanted o (yielded ops a.tmps) = true) (v : Value) (w' : World)
    (he : (execOp a.eval o).run Try.prog w = .ok (.value v) w') (hS : S w') (h : wpAnyH Try.prog md ops Q S fuel (listed.setIfInBounds i true) (a.put o.dst v) w')
    (hr : AllReadyH Try.prog md ops Q S fuel listed a w rs) : AllReadyH Try.prog md ops Q S fuel listed a w (i :: rs) :=
  AllReadyH.cons ho (fun K hK => by
    rw [if_pos hw]
    exact wp_of_run v he (hK.out _ _ hS fun _ => h)) hr
theorem all_st (i : Nat) (o : Oper) (ho : ops[i]? = some o) (hw : Region.wanted o (yielded ops a.tmps) = true) (x y : Operand) (hop : o.op = .store 27 x y) (g : Nat) (f f' : Nat → Bool)
    (hx : a.eval x = .pointer (some ⟨g, 0, none⟩)) (hy : a.eval y = .agg (cellsB 128 f')) (hg : BB w g 27 128 f) (hS : S (w.setRow g (cellsB 128 f')))
    (h : wpAnyH Try.prog md ops Q S fuel (listed.setIfInBounds i true) (a.put o.dst undef) (w.setRow g (cellsB 128 f')))
    (hr : AllReadyH Try.prog md ops Q S fuel listed a w rs) : AllReadyH Try.prog md ops Q S fuel listed a w (i :: rs) :=
  AllReadyH.cons ho (fun K hK => by
    rw [if_pos hw]
    exact wp_store_row 27 x y hop g _ hx hy 27 _ hg (by rw [iNum, cellsB_size]) (by rw [cellsB_size, cellsB_size]) (cellsB_one _ _) (hK.out _ _ hS fun _ => h)) hr
end
theorem al_num {o : Oper} {a : Act} (w : World) (ho : o.op = .alloc 27) : (execOp a.eval o).run Try.prog w = .ok (.value (.pointer (some ⟨w.heap.size, 0, none⟩))) (w.alloc (.cells (cellsB 128 fun _ => false) 27)) := by
  unfold execOp
  simp only [ho, Instr.alloc, Sem.run_bind, zvNum, Result.andThen_ok]
  simp [newVar, newRow, go_sem, Value.cells]
theorem yif_load {ops : Array Oper} {S : World → Prop} {o : Oper} {a : Act} {v : Value} (hw : Region.wanted o (yielded ops a.tmps) = true) (T : TypeId) (x : Operand) (ho : o.op = .load T x) (p : Addr) (hx : a.eval x = .pointer (some p))
    (hT : ∀ w, (loadVar T p).run Try.prog w = (load p).run Try.prog w) (hS : ∀ w, S w → w.cell? p = some v) : YieldsIf Try.prog ops S o v a :=
  yif_w hw fun w hw => by
    unfold execOp
    simp only [ho, hx, Instr.loadAt, Instr.sureAddr, Sem.run_bind, Sem.run_pure, Result.andThen_ok, hT]
    simp [hS w hw]
theorem yif_agg {ops : Array Oper} {S : World → Prop} {o : Oper} {a : Act} {v : Value} (hw : Region.wanted o (yielded ops a.tmps) = true) (T : TypeId) (x : Operand) (ho : o.op = .load T x) (p : Addr) (hx : a.eval x = .pointer (some p))
    (hS : ∀ w, S w → (loadVar T p).run Try.prog w = .ok v w) : YieldsIf Try.prog ops S o v a :=
  yif_w hw fun w hw => by
    unfold execOp
    simp only [ho, hx, Instr.loadAt, Instr.sureAddr, Sem.run_bind, Sem.run_pure, Result.andThen_ok, hS w hw]
theorem lv_u64 (p : Addr) (w : World) : (loadVar 22 p).run Try.prog w = (load p).run Try.prog w := by kernel_rfl
theorem lv_bool (p : Addr) (w : World) : (loadVar 4 p).run Try.prog w = (load p).run Try.prog w := by kernel_rfl
theorem eql_bool {o : Oper} {a : Act} (x y : Operand) (ho : o.op = .binOp .eql 4 x y 4) {u : Bool} (hx : a.eval x = .bool u) (hy : a.eval y = .bool u) (w : World) : (execOp a.eval o).run Try.prog w = .ok (.value (.bool true)) w := by
  unfold execOp
  simp only [ho, hx, hy]
  simp [go_sem]
theorem eql_u64 {o : Oper} {a : Act} (x y : Operand) (ho : o.op = .binOp .eql 22 x y 22) {u : Int} (hx : a.eval x = .int .u64 u) (hy : a.eval y = .int .u64 u) (w : World) : (execOp a.eval o).run Try.prog w = .ok (.value (.bool true)) w := by
  unfold execOp
  simp only [ho, hx, hy]
  simp [go_sem]
theorem lv_tw (g : Nat) (u v : Value) (w : World) (h : Cel2 w g u v) : (loadVar 24 ⟨g, 0, none⟩).run Try.prog w = .ok (.agg #[u, v]) w := by
  obtain ⟨h0, h1, _, _⟩ := h
  simp [go_sem, loadVar, h0, h1]
/-- A range of a block's first cells is a whole number. -/
theorem ld_mid {w : World} {g : Nat} {T : TypeId} {C : Array Value} {f : Nat → Bool} (h : w.heap[g]? = some (.cells C T (0, 0))) (hc : ∀ i, i < 128 → C[i]? = some (.bool (f i))) :
    (loadVar 27 ⟨g, 0, none⟩).run Try.prog w = .ok (.agg (cellsB 128 f)) w := by
  have hr : w.rangeAt g 0 (cellsB 128 f).toList := by
    intro j v hv
    have hj : j < 128 := by
      have := (List.getElem?_eq_some_iff.1 hv).1
      simpa [cellsB_size] using this
    rw [Nat.zero_add, cell_of_row w g j _ T _ h, hc j hj]
    have := cellsB_get f hj
    rw [← Array.getElem?_toList] at this
    rw [this] at hv
    exact hv
  have := run_loadVar_mid (P := Try.prog) w g 0 27 (cellsB 128 f).toList _ hr Try.underlying27 rfl (by rw [iNum]; simp [cellsB_size])
  simpa using this
/-- What the first statement has laid. -/
def Q1 (W0 : World) (B : Nat) (l : List (Nat × (Nat → Bool))) (X : World) : Prop :=
  Below B W0 X ∧ B ≤ X.heap.size ∧ (∀ p ∈ l, B ≤ p.1 ∧ BB X p.1 27 128 p.2) ∧ l.Pairwise fun p q => p.1 ≠ q.1
theorem Q1.call {W0 X X' : World} {B : Nat} {l : List (Nat × (Nat → Bool))} (h : Q1 W0 B l X) (c : Below X.heap.size X X') : Q1 W0 B l X' :=
  ⟨h.1.trans (c.mono h.2.1), Nat.le_trans h.2.1 c.size, fun p hp => ⟨(h.2.2.1 p hp).1, (h.2.2.1 p hp).2.carry c (h.2.2.1 p hp).2.lt⟩, h.2.2.2⟩
theorem Q1.alloc {W0 X : World} {B : Nat} {l : List (Nat × (Nat → Bool))} (h : Q1 W0 B l X) : Q1 W0 B ((X.heap.size, fun _ => false) :: l) (X.alloc (.cells (cellsB 128 fun _ => false) 27)) := by
  refine ⟨h.1.alloc h.2.1 _, by simp; have := h.2.1; omega, ?_, ?_⟩
  · intro p hp
    rcases List.mem_cons.1 hp with rfl | hp
    · exact ⟨h.2.1, BB.new _ _ _ _⟩
    · exact ⟨(h.2.2.1 p hp).1, (h.2.2.1 p hp).2.alloc _⟩
  · refine List.pairwise_cons.2 ⟨fun q hq => ?_, h.2.2.2⟩
    have := (h.2.2.1 q hq).2.lt
    simp only; omega
theorem Q1.store {W0 X : World} {B g : Nat} {f : Nat → Bool} {l : List (Nat × (Nat → Bool))} (h : Q1 W0 B ((g, f) :: l) X) (f' : Nat → Bool) : Q1 W0 B ((g, f') :: l) (X.setRow g (cellsB 128 f')) := by
  have hg := h.2.2.1 (g, f) (by simp)
  have hp := List.pairwise_cons.1 h.2.2.2
  refine ⟨Below.setRow h.1 hg.1 _, by rw [row_size]; exact h.2.1, ?_, List.pairwise_cons.2 ⟨hp.1, hp.2⟩⟩
  intro p hq
  rcases List.mem_cons.1 hq with rfl | hq
  · exact ⟨hg.1, hg.2.row _⟩
  · exact ⟨(h.2.2.1 p (by simp [hq])).1, (h.2.2.1 p (by simp [hq])).2.rowOther (fun e => hp.1 p hq e.symm) _⟩
theorem Q1.swap {W0 X : World} {B : Nat} {p q : Nat × (Nat → Bool)} (h : Q1 W0 B [p, q] X) : Q1 W0 B [q, p] X := by
  refine ⟨h.1, h.2.1, fun r hr => h.2.2.1 r (by simp only [List.mem_cons, List.not_mem_nil, or_false] at hr ⊢; exact hr.symm), ?_⟩
  have := List.pairwise_cons.1 h.2.2.2
  exact List.pairwise_cons.2 ⟨fun r hr => by simp at hr; subst hr; exact fun e => this.1 q (by simp) e.symm, by simp⟩
def Cut1 (W0 : World) (B : Nat) (fx fy : Nat → Bool) (x y : Value) (wx : World) : Prop :=
  ∃ g7 g8, x = .pointer (some ⟨g7, 0, none⟩) ∧ y = .pointer (some ⟨g8, 0, none⟩) ∧ Q1 W0 B [(g7, fx), (g8, fy)] wx
/-- What the law has laid ahead of its last statement. -/
structure S6 (w : World) (g7 g8 g9 g11 g12 g15 : Nat) (ah al bh bl sh sl qh ql t : Int) (fx fy fS fq : Nat → Bool) (can : Bool) (X : World) : Prop where
  b : Below w.heap.size w X
  a0 : Cel2 X w.heap.size (.int .u64 ah) (.int .u64 al)
  b0 : Cel2 X (w.heap.size + 1) (.int .u64 bh) (.int .u64 bl)
  x : BB X g7 27 128 fx
  y : BB X g8 27 128 fy
  s : Cel2 X g9 (.int .u64 sh) (.int .u64 sl)
  S : BB X g11 32 129 fS
  q : Cel2 X g12 (.int .u64 qh) (.int .u64 ql)
  p : PB X g15 fq t can
theorem S6.carry {w : World} {g7 g8 g9 g11 g12 g15 : Nat} {ah al bh bl sh sl qh ql t : Int} {fx fy fS fq : Nat → Bool} {can : Bool} {X X' : World} (h : S6 w g7 g8 g9 g11 g12 g15 ah al bh bl sh sl qh ql t fx fy fS fq can X) (c : Below X.heap.size X X') :
    S6 w g7 g8 g9 g11 g12 g15 ah al bh bl sh sl qh ql t fx fy fS fq can X' :=
  ⟨h.b.trans (c.mono h.b.size), h.a0.carry c h.a0.lt, h.b0.carry c h.b0.lt, h.x.carry c h.x.lt, h.y.carry c h.y.lt, h.s.carry c h.s.lt, h.S.carry c h.S.lt, h.q.carry c h.q.lt, h.p.carry c h.p.lt⟩
theorem BB.num {w : World} {g : Nat} {f : Nat → Bool} (h : BB w g 27 128 f) : (loadVar 27 ⟨g, 0, none⟩).run Try.prog w = .ok (.agg (cellsB 128 f)) w := ld_mid h fun i hi => cellsB_get f hi
theorem BB.sum {w : World} {g : Nat} {f : Nat → Bool} (h : BB w g 32 129 f) : (loadVar 27 ⟨g, 0, none⟩).run Try.prog w = .ok (.agg (cellsB 128 f)) w := ld_mid h fun i hi => cellsB_get f (by omega)
theorem partsC_get {f : Nat → Bool} {r : Int} {o : Bool} (i : Nat) (hi : i < 128) : (partsC f r o)[i]? = some (.bool (f i)) := by
  unfold partsC; rw [Array.getElem?_append_left (by rw [cellsB_size]; exact hi)]; exact cellsB_get f hi
theorem PB.num {w : World} {g : Nat} {f : Nat → Bool} {r : Int} {o : Bool} (h : PB w g f r o) : (loadVar 27 ⟨g, 0, none⟩).run Try.prog w = .ok (.agg (cellsB 128 f)) w := ld_mid h fun i hi => partsC_get i hi
theorem PB.rest {w : World} {g : Nat} {f : Nat → Bool} {r : Int} {o : Bool} (h : PB w g f r o) : w.cell? ⟨g, 128, none⟩ = some (.int .u64 r) := by
  rw [cell_of_row w g 128 _ _ _ h]; unfold partsC; rw [Array.getElem?_append_right (by rw [cellsB_size]; omega), cellsB_size]; rfl
theorem PB.ok {w : World} {g : Nat} {f : Nat → Bool} {r : Int} {o : Bool} (h : PB w g f r o) : w.cell? ⟨g, 129, none⟩ = some (.bool o) := by
  rw [cell_of_row w g 129 _ _ _ h]; unfold partsC; rw [Array.getElem?_append_right (by rw [cellsB_size]; omega), cellsB_size]; rfl
set_option maxRecDepth 100000 in
set_option maxHeartbeats 8000000 in
theorem lreck_walk (ah al bh bl d sh sl qh ql t mh ml : Int) (fx fy fm fS fq : Nat → Bool) (so can lt : Bool) (w : World)
    (c1 : ∀ w, Calls Try.prog 7 #[.int .u64 ah, .int .u64 al] w fun e w' => e = .returned (.agg (cellsB 128 fx)) ∧ Below w.heap.size w w')
    (c2 : ∀ w, Calls Try.prog 7 #[.int .u64 bh, .int .u64 bl] w fun e w' => e = .returned (.agg (cellsB 128 fy)) ∧ Below w.heap.size w w')
    (c3 : ∀ w, Calls Try.prog 8 #[.agg #[.int .u64 ah, .int .u64 al], .agg #[.int .u64 bh, .int .u64 bl]] w fun e w' => e = .returned (.tuple #[.agg #[.int .u64 sh, .int .u64 sl], .bool so]) ∧ Below w.heap.size w w')
    (c4 : ∀ w, Calls Try.prog 9 #[.agg (cellsB 128 fx), .agg (cellsB 128 fy)] w fun e w' => e = .returned (.agg (cellsB 129 fS)) ∧ Below w.heap.size w w') (hso : fS 128 = so)
    (c5 : ∀ w, Calls Try.prog 10 #[.agg #[.int .u64 ah, .int .u64 al], .int .u64 d] w fun e w' => e = .returned (.tuple #[.agg #[.int .u64 qh, .int .u64 ql], .int .u64 t, .bool can]) ∧ Below w.heap.size w w')
    (c6 : ∀ w, Calls Try.prog 11 #[.agg (cellsB 128 fx), .int .u64 d] w fun e w' => e = .returned (.agg (partsC fq t can)) ∧ Below w.heap.size w w')
    (c7 : ∀ w, Calls Try.prog 13 #[.int .u64 al, .int .u64 bl] w fun e w' => e = .returned (.agg #[.int .u64 mh, .int .u64 ml]) ∧ Below w.heap.size w w')
    (c8 : ∀ w, Calls Try.prog 14 #[.int .u64 al, .int .u64 bl] w fun e w' => e = .returned (.agg (cellsB 128 fm)) ∧ Below w.heap.size w w')
    (c9 : ∀ w, Calls Try.prog 12 #[.agg #[.int .u64 mh, .int .u64 ml], .agg (cellsB 128 fm)] w fun e w' => e = .returned (.bool true) ∧ Below w.heap.size w w')
    (c10 : ∀ w, Calls Try.prog 12 #[.agg #[.int .u64 sh, .int .u64 sl], .agg (cellsB 128 fS)] w fun e w' => e = .returned (.bool true) ∧ Below w.heap.size w w')
    (c11 : ∀ w, Calls Try.prog 12 #[.agg #[.int .u64 qh, .int .u64 ql], .agg (cellsB 128 fq)] w fun e w' => e = .returned (.bool true) ∧ Below w.heap.size w w')
    (c12 : ∀ w, Calls Try.prog 15 #[.agg #[.int .u64 ah, .int .u64 al], .agg #[.int .u64 bh, .int .u64 bl]] w fun e w' => e = .returned (.bool lt) ∧ Below w.heap.size w w')
    (c13 : ∀ w, Calls Try.prog 16 #[.agg (cellsB 128 fx), .agg (cellsB 128 fy)] w fun e w' => e = .returned (.bool lt) ∧ Below w.heap.size w w') :
    Calls Try.prog 3 #[.agg #[.int .u64 ah, .int .u64 al], .agg #[.int .u64 bh, .int .u64 bl], .int .u64 d] w fun e w' => e = .returned (.bool true) ∧ Below w.heap.size w w' := by
  have C1 := Lib.hid c1
  have C2 := Lib.hid c2
  have C3 := Lib.hid c3
  have C4 := Lib.hid c4
  have C5 := Lib.hid c5
  have C6 := Lib.hid c6
  have C7 := Lib.hid c7
  have C8 := Lib.hid c8
  have C9 := Lib.hid c9
  have C10 := Lib.hid c10
  have C11 := Lib.hid c11
  have C12 := Lib.hid c12
  have C13 := Lib.hid c13
  have HSO := Lib.hid hso
  clear hso c1 c2 c3 c4 c5 c6 c7 c8 c9 c10 c11 c12 c13
  have zz := zvNum
  have zs := zvSum
  have zp := zvParts
  go_enter Try.func3, Try.ntmps3
  go_wp2_with fail
  have A0 := (cel2_new w (.int .u64 ah) (.int .u64 al) 24).alloc (.cells #[.int .u64 bh, .int .u64 bl] 24)
  have B0 := cel2_new (w.alloc (.cells #[.int .u64 ah, .int .u64 al] 24)) (.int .u64 bh) (.int .u64 bl) 24
  simp only [World.size_alloc] at B0
  have bw := bel2 w (.cells #[.int .u64 ah, .int .u64 al] 24) (.cells #[.int .u64 bh, .int .u64 bl] 24)
  have sz : w.heap.size + 2 ≤ ((w.alloc (.cells #[.int .u64 ah, .int .u64 al] 24)).alloc (.cells #[.int .u64 bh, .int .u64 bl] 24)).heap.size := by simp
  generalize (w.alloc (.cells #[.int .u64 ah, .int .u64 al] 24)).alloc (.cells #[.int .u64 bh, .int .u64 bl] 24) = W0 at A0 B0 bw sz ⊢
  go_cut [7, 8] from 16 to 25 (fun x y wx => Cut1 W0 (w.heap.size + 2) fx fy x y wx)
  case first =>
    have q0 : Q1 W0 (w.heap.size + 2) [] W0.drew := ⟨(Below.refl _ W0).drew, sz, (fun p hp => absurd hp List.not_mem_nil), List.Pairwise.nil⟩
    refine wp_region_held_drew (S := fun X => Below (w.heap.size + 2) W0 X) (by kernel_rfl) q0.1 (fun hS => ?_)
    refine wpAnyH_take (i := 0) (v := .pointer (some ⟨w.heap.size, 0, none⟩)) rfl (by kernel_rfl) (by kernel_rfl) (by kernel_rfl) (fun _ _ _ h => h) (yif_w (by kernel_rfl) fun X _ => by kernel_rfl) hS ?_
    refine wpAnyH_take (i := 1) (v := .int .u64 ah) rfl (by kernel_rfl) (by kernel_rfl) (by kernel_rfl) (fun _ _ _ h => h) (yif_load (by kernel_rfl) 22 _ rfl ⟨w.heap.size, 0, none⟩ (by kernel_rfl) (lv_u64 _) fun X hX => (hX.cell (p := ⟨w.heap.size, 0, none⟩) (by simp)).trans A0.1) hS ?_
    refine wpAnyH_take (i := 2) (v := .pointer (some ⟨w.heap.size, 1, none⟩)) rfl (by kernel_rfl) (by kernel_rfl) (by kernel_rfl) (fun _ _ _ h => h) (yif_w (by kernel_rfl) fun X _ => by kernel_rfl) hS ?_
    refine wpAnyH_take (i := 3) (v := .int .u64 al) rfl (by kernel_rfl) (by kernel_rfl) (by kernel_rfl) (fun _ _ _ h => h) (yif_load (by kernel_rfl) 22 _ rfl ⟨w.heap.size, 1, none⟩ (by kernel_rfl) (lv_u64 _) fun X hX => (hX.cell (p := ⟨w.heap.size, 1, none⟩) (by simp)).trans A0.2.1) hS ?_
    refine wpAnyH_take (i := 5) (v := .pointer (some ⟨w.heap.size + 1, 0, none⟩)) rfl (by kernel_rfl) (by kernel_rfl) (by kernel_rfl) (fun _ _ _ h => h) (yif_w (by kernel_rfl) fun X _ => by kernel_rfl) hS ?_
    refine wpAnyH_take (i := 6) (v := .int .u64 bh) rfl (by kernel_rfl) (by kernel_rfl) (by kernel_rfl) (fun _ _ _ h => h) (yif_load (by kernel_rfl) 22 _ rfl ⟨w.heap.size + 1, 0, none⟩ (by kernel_rfl) (lv_u64 _) fun X hX => (hX.cell (p := ⟨w.heap.size + 1, 0, none⟩) (by simp)).trans B0.1) hS ?_
    refine wpAnyH_take (i := 7) (v := .pointer (some ⟨w.heap.size + 1, 1, none⟩)) rfl (by kernel_rfl) (by kernel_rfl) (by kernel_rfl) (fun _ _ _ h => h) (yif_w (by kernel_rfl) fun X _ => by kernel_rfl) hS ?_
    refine wpAnyH_take (i := 8) (v := .int .u64 bl) rfl (by kernel_rfl) (by kernel_rfl) (by kernel_rfl) (fun _ _ _ h => h) (yif_load (by kernel_rfl) 22 _ rfl ⟨w.heap.size + 1, 1, none⟩ (by kernel_rfl) (lv_u64 _) fun X hX => (hX.cell (p := ⟨w.heap.size + 1, 1, none⟩) (by simp)).trans B0.2.1) hS ?_
    refine wpAnyH_ready (rs := [4, 10, 11]) (by kernel_rfl) (by simp) ?_
    refine all_call 4 _ rfl (by kernel_rfl) 7 #[.int .u64 ah, .int .u64 al] (.agg (cellsB 128 fx)) (by kernel_rfl) (C1.out _) (fun x1 d1 => ⟨(q0.call d1).1, ?_⟩) ?_
    · have q1 := q0.call d1
      refine wpAnyH_ready (rs := [9, 10, 11]) (by kernel_rfl) (by simp) ?_
      refine all_call 9 _ rfl (by kernel_rfl) 7 #[.int .u64 bh, .int .u64 bl] (.agg (cellsB 128 fy)) (by kernel_rfl) (C2.out _) (fun x2 d2 => ⟨(q1.call d2).1, ?_⟩) ?_
      · have q2 := q1.call d2
        refine wpAnyH_ready (rs := [10, 11]) (by kernel_rfl) (by simp) ?_
        refine all_run 10 _ rfl (by kernel_rfl) _ _ (al_num _ rfl) (q2.alloc).1 ?_ ?_
        · have q3 := q2.alloc
          refine wpAnyH_ready (rs := [11]) (by kernel_rfl) (by simp) ?_
          refine all_run 11 _ rfl (by kernel_rfl) _ _ (al_num _ rfl) (q3.alloc).1 ?_ ?_
          · have q4 := q3.alloc
            refine wpAnyH_ready (rs := [12]) (by kernel_rfl) (by simp) ?_
            have s5 := q4.swap
            refine all_st 12 _ rfl (by kernel_rfl) _ _ rfl _ _ fx (by kernel_rfl) (by kernel_rfl) (s5.2.2.1 _ (List.mem_cons_self ..)).2 (s5.store fx).1 ?_ ?_
            · have q5 := s5.store fx
              refine wpAnyH_ready (rs := [13]) (by kernel_rfl) (by simp) ?_
              have s6 := q5.swap
              refine all_st 13 _ rfl (by kernel_rfl) _ _ rfl _ _ fy (by kernel_rfl) (by kernel_rfl) (s6.2.2.1 _ (List.mem_cons_self ..)).2 (s6.store fy).1 ?_ ?_
              · have q6 := s6.store fy
                refine wpAnyH_done (by kernel_rfl) ?_ _
                simp only [Act.put, List.getElem_toArray, List.getElem_cons_succ, List.getElem_cons_zero, List.setIfInBounds_toArray, List.set_cons_zero, List.set_cons_succ]
                go_wp2_with fail
                go_meet
                case rel =>
                  have qq := q6.swap
                  (try simp only [World.size_alloc] at qq)
                  exact ⟨_, _, rfl, rfl, qq⟩
              exact AllReadyH.nil
            exact AllReadyH.nil
          exact AllReadyH.nil
        refine all_run 11 _ rfl (by kernel_rfl) _ _ (al_num _ rfl) (q2.alloc).1 ?_ ?_
        · have q7 := q2.alloc
          refine wpAnyH_ready (rs := [10]) (by kernel_rfl) (by simp) ?_
          refine all_run 10 _ rfl (by kernel_rfl) _ _ (al_num _ rfl) (q7.alloc).1 ?_ ?_
          · have q8 := q7.alloc
            refine wpAnyH_ready (rs := [12]) (by kernel_rfl) (by simp) ?_
            refine all_st 12 _ rfl (by kernel_rfl) _ _ rfl _ _ fx (by kernel_rfl) (by kernel_rfl) (q8.2.2.1 _ (List.mem_cons_self ..)).2 (q8.store fx).1 ?_ ?_
            · have q9 := q8.store fx
              refine wpAnyH_ready (rs := [13]) (by kernel_rfl) (by simp) ?_
              have s10 := q9.swap
              refine all_st 13 _ rfl (by kernel_rfl) _ _ rfl _ _ fy (by kernel_rfl) (by kernel_rfl) (s10.2.2.1 _ (List.mem_cons_self ..)).2 (s10.store fy).1 ?_ ?_
              · have q10 := s10.store fy
                refine wpAnyH_done (by kernel_rfl) ?_ _
                simp only [Act.put, List.getElem_toArray, List.getElem_cons_succ, List.getElem_cons_zero, List.setIfInBounds_toArray, List.set_cons_zero, List.set_cons_succ]
                go_wp2_with fail
                go_meet
                case rel =>
                  have qq := q10.swap
                  (try simp only [World.size_alloc] at qq)
                  exact ⟨_, _, rfl, rfl, qq⟩
              exact AllReadyH.nil
            exact AllReadyH.nil
          exact AllReadyH.nil
        exact AllReadyH.nil
      refine all_run 10 _ rfl (by kernel_rfl) _ _ (al_num _ rfl) (q1.alloc).1 ?_ ?_
      · have q11 := q1.alloc
        refine wpAnyH_ready (rs := [9, 11]) (by kernel_rfl) (by simp) ?_
        refine all_call 9 _ rfl (by kernel_rfl) 7 #[.int .u64 bh, .int .u64 bl] (.agg (cellsB 128 fy)) (by kernel_rfl) (C2.out _) (fun x12 d12 => ⟨(q11.call d12).1, ?_⟩) ?_
        · have q12 := q11.call d12
          refine wpAnyH_ready (rs := [11]) (by kernel_rfl) (by simp) ?_
          refine all_run 11 _ rfl (by kernel_rfl) _ _ (al_num _ rfl) (q12.alloc).1 ?_ ?_
          · have q13 := q12.alloc
            refine wpAnyH_ready (rs := [12]) (by kernel_rfl) (by simp) ?_
            have s14 := q13.swap
            refine all_st 12 _ rfl (by kernel_rfl) _ _ rfl _ _ fx (by kernel_rfl) (by kernel_rfl) (s14.2.2.1 _ (List.mem_cons_self ..)).2 (s14.store fx).1 ?_ ?_
            · have q14 := s14.store fx
              refine wpAnyH_ready (rs := [13]) (by kernel_rfl) (by simp) ?_
              have s15 := q14.swap
              refine all_st 13 _ rfl (by kernel_rfl) _ _ rfl _ _ fy (by kernel_rfl) (by kernel_rfl) (s15.2.2.1 _ (List.mem_cons_self ..)).2 (s15.store fy).1 ?_ ?_
              · have q15 := s15.store fy
                refine wpAnyH_done (by kernel_rfl) ?_ _
                simp only [Act.put, List.getElem_toArray, List.getElem_cons_succ, List.getElem_cons_zero, List.setIfInBounds_toArray, List.set_cons_zero, List.set_cons_succ]
                go_wp2_with fail
                go_meet
                case rel =>
                  have qq := q15.swap
                  (try simp only [World.size_alloc] at qq)
                  exact ⟨_, _, rfl, rfl, qq⟩
              exact AllReadyH.nil
            exact AllReadyH.nil
          exact AllReadyH.nil
        refine all_run 11 _ rfl (by kernel_rfl) _ _ (al_num _ rfl) (q11.alloc).1 ?_ ?_
        · have q16 := q11.alloc
          refine wpAnyH_ready (rs := [9]) (by kernel_rfl) (by simp) ?_
          refine all_call 9 _ rfl (by kernel_rfl) 7 #[.int .u64 bh, .int .u64 bl] (.agg (cellsB 128 fy)) (by kernel_rfl) (C2.out _) (fun x17 d17 => ⟨(q16.call d17).1, ?_⟩) ?_
          · have q17 := q16.call d17
            refine wpAnyH_ready (rs := [12]) (by kernel_rfl) (by simp) ?_
            have s18 := q17.swap
            refine all_st 12 _ rfl (by kernel_rfl) _ _ rfl _ _ fx (by kernel_rfl) (by kernel_rfl) (s18.2.2.1 _ (List.mem_cons_self ..)).2 (s18.store fx).1 ?_ ?_
            · have q18 := s18.store fx
              refine wpAnyH_ready (rs := [13]) (by kernel_rfl) (by simp) ?_
              have s19 := q18.swap
              refine all_st 13 _ rfl (by kernel_rfl) _ _ rfl _ _ fy (by kernel_rfl) (by kernel_rfl) (s19.2.2.1 _ (List.mem_cons_self ..)).2 (s19.store fy).1 ?_ ?_
              · have q19 := s19.store fy
                refine wpAnyH_done (by kernel_rfl) ?_ _
                simp only [Act.put, List.getElem_toArray, List.getElem_cons_succ, List.getElem_cons_zero, List.setIfInBounds_toArray, List.set_cons_zero, List.set_cons_succ]
                go_wp2_with fail
                go_meet
                case rel =>
                  have qq := q19.swap
                  (try simp only [World.size_alloc] at qq)
                  exact ⟨_, _, rfl, rfl, qq⟩
              exact AllReadyH.nil
            exact AllReadyH.nil
          exact AllReadyH.nil
        exact AllReadyH.nil
      refine all_run 11 _ rfl (by kernel_rfl) _ _ (al_num _ rfl) (q1.alloc).1 ?_ ?_
      · have q20 := q1.alloc
        refine wpAnyH_ready (rs := [9, 10]) (by kernel_rfl) (by simp) ?_
        refine all_call 9 _ rfl (by kernel_rfl) 7 #[.int .u64 bh, .int .u64 bl] (.agg (cellsB 128 fy)) (by kernel_rfl) (C2.out _) (fun x21 d21 => ⟨(q20.call d21).1, ?_⟩) ?_
        · have q21 := q20.call d21
          refine wpAnyH_ready (rs := [10]) (by kernel_rfl) (by simp) ?_
          refine all_run 10 _ rfl (by kernel_rfl) _ _ (al_num _ rfl) (q21.alloc).1 ?_ ?_
          · have q22 := q21.alloc
            refine wpAnyH_ready (rs := [12]) (by kernel_rfl) (by simp) ?_
            refine all_st 12 _ rfl (by kernel_rfl) _ _ rfl _ _ fx (by kernel_rfl) (by kernel_rfl) (q22.2.2.1 _ (List.mem_cons_self ..)).2 (q22.store fx).1 ?_ ?_
            · have q23 := q22.store fx
              refine wpAnyH_ready (rs := [13]) (by kernel_rfl) (by simp) ?_
              have s24 := q23.swap
              refine all_st 13 _ rfl (by kernel_rfl) _ _ rfl _ _ fy (by kernel_rfl) (by kernel_rfl) (s24.2.2.1 _ (List.mem_cons_self ..)).2 (s24.store fy).1 ?_ ?_
              · have q24 := s24.store fy
                refine wpAnyH_done (by kernel_rfl) ?_ _
                simp only [Act.put, List.getElem_toArray, List.getElem_cons_succ, List.getElem_cons_zero, List.setIfInBounds_toArray, List.set_cons_zero, List.set_cons_succ]
                go_wp2_with fail
                go_meet
                case rel =>
                  have qq := q24.swap
                  (try simp only [World.size_alloc] at qq)
                  exact ⟨_, _, rfl, rfl, qq⟩
              exact AllReadyH.nil
            exact AllReadyH.nil
          exact AllReadyH.nil
        refine all_run 10 _ rfl (by kernel_rfl) _ _ (al_num _ rfl) (q20.alloc).1 ?_ ?_
        · have q25 := q20.alloc
          refine wpAnyH_ready (rs := [9]) (by kernel_rfl) (by simp) ?_
          refine all_call 9 _ rfl (by kernel_rfl) 7 #[.int .u64 bh, .int .u64 bl] (.agg (cellsB 128 fy)) (by kernel_rfl) (C2.out _) (fun x26 d26 => ⟨(q25.call d26).1, ?_⟩) ?_
          · have q26 := q25.call d26
            refine wpAnyH_ready (rs := [12]) (by kernel_rfl) (by simp) ?_
            refine all_st 12 _ rfl (by kernel_rfl) _ _ rfl _ _ fx (by kernel_rfl) (by kernel_rfl) (q26.2.2.1 _ (List.mem_cons_self ..)).2 (q26.store fx).1 ?_ ?_
            · have q27 := q26.store fx
              refine wpAnyH_ready (rs := [13]) (by kernel_rfl) (by simp) ?_
              have s28 := q27.swap
              refine all_st 13 _ rfl (by kernel_rfl) _ _ rfl _ _ fy (by kernel_rfl) (by kernel_rfl) (s28.2.2.1 _ (List.mem_cons_self ..)).2 (s28.store fy).1 ?_ ?_
              · have q28 := s28.store fy
                refine wpAnyH_done (by kernel_rfl) ?_ _
                simp only [Act.put, List.getElem_toArray, List.getElem_cons_succ, List.getElem_cons_zero, List.setIfInBounds_toArray, List.set_cons_zero, List.set_cons_succ]
                go_wp2_with fail
                go_meet
                case rel =>
                  have qq := q28.swap
                  (try simp only [World.size_alloc] at qq)
                  exact ⟨_, _, rfl, rfl, qq⟩
              exact AllReadyH.nil
            exact AllReadyH.nil
          exact AllReadyH.nil
        exact AllReadyH.nil
      exact AllReadyH.nil
    refine all_run 10 _ rfl (by kernel_rfl) _ _ (al_num _ rfl) (q0.alloc).1 ?_ ?_
    · have q29 := q0.alloc
      refine wpAnyH_ready (rs := [4, 11]) (by kernel_rfl) (by simp) ?_
      refine all_call 4 _ rfl (by kernel_rfl) 7 #[.int .u64 ah, .int .u64 al] (.agg (cellsB 128 fx)) (by kernel_rfl) (C1.out _) (fun x30 d30 => ⟨(q29.call d30).1, ?_⟩) ?_
      · have q30 := q29.call d30
        refine wpAnyH_ready (rs := [9, 11]) (by kernel_rfl) (by simp) ?_
        refine all_call 9 _ rfl (by kernel_rfl) 7 #[.int .u64 bh, .int .u64 bl] (.agg (cellsB 128 fy)) (by kernel_rfl) (C2.out _) (fun x31 d31 => ⟨(q30.call d31).1, ?_⟩) ?_
        · have q31 := q30.call d31
          refine wpAnyH_ready (rs := [11]) (by kernel_rfl) (by simp) ?_
          refine all_run 11 _ rfl (by kernel_rfl) _ _ (al_num _ rfl) (q31.alloc).1 ?_ ?_
          · have q32 := q31.alloc
            refine wpAnyH_ready (rs := [12]) (by kernel_rfl) (by simp) ?_
            have s33 := q32.swap
            refine all_st 12 _ rfl (by kernel_rfl) _ _ rfl _ _ fx (by kernel_rfl) (by kernel_rfl) (s33.2.2.1 _ (List.mem_cons_self ..)).2 (s33.store fx).1 ?_ ?_
            · have q33 := s33.store fx
              refine wpAnyH_ready (rs := [13]) (by kernel_rfl) (by simp) ?_
              have s34 := q33.swap
              refine all_st 13 _ rfl (by kernel_rfl) _ _ rfl _ _ fy (by kernel_rfl) (by kernel_rfl) (s34.2.2.1 _ (List.mem_cons_self ..)).2 (s34.store fy).1 ?_ ?_
              · have q34 := s34.store fy
                refine wpAnyH_done (by kernel_rfl) ?_ _
                simp only [Act.put, List.getElem_toArray, List.getElem_cons_succ, List.getElem_cons_zero, List.setIfInBounds_toArray, List.set_cons_zero, List.set_cons_succ]
                go_wp2_with fail
                go_meet
                case rel =>
                  have qq := q34.swap
                  (try simp only [World.size_alloc] at qq)
                  exact ⟨_, _, rfl, rfl, qq⟩
              exact AllReadyH.nil
            exact AllReadyH.nil
          exact AllReadyH.nil
        refine all_run 11 _ rfl (by kernel_rfl) _ _ (al_num _ rfl) (q30.alloc).1 ?_ ?_
        · have q35 := q30.alloc
          refine wpAnyH_ready (rs := [9]) (by kernel_rfl) (by simp) ?_
          refine all_call 9 _ rfl (by kernel_rfl) 7 #[.int .u64 bh, .int .u64 bl] (.agg (cellsB 128 fy)) (by kernel_rfl) (C2.out _) (fun x36 d36 => ⟨(q35.call d36).1, ?_⟩) ?_
          · have q36 := q35.call d36
            refine wpAnyH_ready (rs := [12]) (by kernel_rfl) (by simp) ?_
            have s37 := q36.swap
            refine all_st 12 _ rfl (by kernel_rfl) _ _ rfl _ _ fx (by kernel_rfl) (by kernel_rfl) (s37.2.2.1 _ (List.mem_cons_self ..)).2 (s37.store fx).1 ?_ ?_
            · have q37 := s37.store fx
              refine wpAnyH_ready (rs := [13]) (by kernel_rfl) (by simp) ?_
              have s38 := q37.swap
              refine all_st 13 _ rfl (by kernel_rfl) _ _ rfl _ _ fy (by kernel_rfl) (by kernel_rfl) (s38.2.2.1 _ (List.mem_cons_self ..)).2 (s38.store fy).1 ?_ ?_
              · have q38 := s38.store fy
                refine wpAnyH_done (by kernel_rfl) ?_ _
                simp only [Act.put, List.getElem_toArray, List.getElem_cons_succ, List.getElem_cons_zero, List.setIfInBounds_toArray, List.set_cons_zero, List.set_cons_succ]
                go_wp2_with fail
                go_meet
                case rel =>
                  have qq := q38.swap
                  (try simp only [World.size_alloc] at qq)
                  exact ⟨_, _, rfl, rfl, qq⟩
              exact AllReadyH.nil
            exact AllReadyH.nil
          exact AllReadyH.nil
        exact AllReadyH.nil
      refine all_run 11 _ rfl (by kernel_rfl) _ _ (al_num _ rfl) (q29.alloc).1 ?_ ?_
      · have q39 := q29.alloc
        refine wpAnyH_ready (rs := [4]) (by kernel_rfl) (by simp) ?_
        refine all_call 4 _ rfl (by kernel_rfl) 7 #[.int .u64 ah, .int .u64 al] (.agg (cellsB 128 fx)) (by kernel_rfl) (C1.out _) (fun x40 d40 => ⟨(q39.call d40).1, ?_⟩) ?_
        · have q40 := q39.call d40
          refine wpAnyH_ready (rs := [9]) (by kernel_rfl) (by simp) ?_
          refine all_call 9 _ rfl (by kernel_rfl) 7 #[.int .u64 bh, .int .u64 bl] (.agg (cellsB 128 fy)) (by kernel_rfl) (C2.out _) (fun x41 d41 => ⟨(q40.call d41).1, ?_⟩) ?_
          · have q41 := q40.call d41
            refine wpAnyH_ready (rs := [12]) (by kernel_rfl) (by simp) ?_
            have s42 := q41.swap
            refine all_st 12 _ rfl (by kernel_rfl) _ _ rfl _ _ fx (by kernel_rfl) (by kernel_rfl) (s42.2.2.1 _ (List.mem_cons_self ..)).2 (s42.store fx).1 ?_ ?_
            · have q42 := s42.store fx
              refine wpAnyH_ready (rs := [13]) (by kernel_rfl) (by simp) ?_
              have s43 := q42.swap
              refine all_st 13 _ rfl (by kernel_rfl) _ _ rfl _ _ fy (by kernel_rfl) (by kernel_rfl) (s43.2.2.1 _ (List.mem_cons_self ..)).2 (s43.store fy).1 ?_ ?_
              · have q43 := s43.store fy
                refine wpAnyH_done (by kernel_rfl) ?_ _
                simp only [Act.put, List.getElem_toArray, List.getElem_cons_succ, List.getElem_cons_zero, List.setIfInBounds_toArray, List.set_cons_zero, List.set_cons_succ]
                go_wp2_with fail
                go_meet
                case rel =>
                  have qq := q43.swap
                  (try simp only [World.size_alloc] at qq)
                  exact ⟨_, _, rfl, rfl, qq⟩
              exact AllReadyH.nil
            exact AllReadyH.nil
          exact AllReadyH.nil
        exact AllReadyH.nil
      exact AllReadyH.nil
    refine all_run 11 _ rfl (by kernel_rfl) _ _ (al_num _ rfl) (q0.alloc).1 ?_ ?_
    · have q44 := q0.alloc
      refine wpAnyH_ready (rs := [4, 10]) (by kernel_rfl) (by simp) ?_
      refine all_call 4 _ rfl (by kernel_rfl) 7 #[.int .u64 ah, .int .u64 al] (.agg (cellsB 128 fx)) (by kernel_rfl) (C1.out _) (fun x45 d45 => ⟨(q44.call d45).1, ?_⟩) ?_
      · have q45 := q44.call d45
        refine wpAnyH_ready (rs := [9, 10]) (by kernel_rfl) (by simp) ?_
        refine all_call 9 _ rfl (by kernel_rfl) 7 #[.int .u64 bh, .int .u64 bl] (.agg (cellsB 128 fy)) (by kernel_rfl) (C2.out _) (fun x46 d46 => ⟨(q45.call d46).1, ?_⟩) ?_
        · have q46 := q45.call d46
          refine wpAnyH_ready (rs := [10]) (by kernel_rfl) (by simp) ?_
          refine all_run 10 _ rfl (by kernel_rfl) _ _ (al_num _ rfl) (q46.alloc).1 ?_ ?_
          · have q47 := q46.alloc
            refine wpAnyH_ready (rs := [12]) (by kernel_rfl) (by simp) ?_
            refine all_st 12 _ rfl (by kernel_rfl) _ _ rfl _ _ fx (by kernel_rfl) (by kernel_rfl) (q47.2.2.1 _ (List.mem_cons_self ..)).2 (q47.store fx).1 ?_ ?_
            · have q48 := q47.store fx
              refine wpAnyH_ready (rs := [13]) (by kernel_rfl) (by simp) ?_
              have s49 := q48.swap
              refine all_st 13 _ rfl (by kernel_rfl) _ _ rfl _ _ fy (by kernel_rfl) (by kernel_rfl) (s49.2.2.1 _ (List.mem_cons_self ..)).2 (s49.store fy).1 ?_ ?_
              · have q49 := s49.store fy
                refine wpAnyH_done (by kernel_rfl) ?_ _
                simp only [Act.put, List.getElem_toArray, List.getElem_cons_succ, List.getElem_cons_zero, List.setIfInBounds_toArray, List.set_cons_zero, List.set_cons_succ]
                go_wp2_with fail
                go_meet
                case rel =>
                  have qq := q49.swap
                  (try simp only [World.size_alloc] at qq)
                  exact ⟨_, _, rfl, rfl, qq⟩
              exact AllReadyH.nil
            exact AllReadyH.nil
          exact AllReadyH.nil
        refine all_run 10 _ rfl (by kernel_rfl) _ _ (al_num _ rfl) (q45.alloc).1 ?_ ?_
        · have q50 := q45.alloc
          refine wpAnyH_ready (rs := [9]) (by kernel_rfl) (by simp) ?_
          refine all_call 9 _ rfl (by kernel_rfl) 7 #[.int .u64 bh, .int .u64 bl] (.agg (cellsB 128 fy)) (by kernel_rfl) (C2.out _) (fun x51 d51 => ⟨(q50.call d51).1, ?_⟩) ?_
          · have q51 := q50.call d51
            refine wpAnyH_ready (rs := [12]) (by kernel_rfl) (by simp) ?_
            refine all_st 12 _ rfl (by kernel_rfl) _ _ rfl _ _ fx (by kernel_rfl) (by kernel_rfl) (q51.2.2.1 _ (List.mem_cons_self ..)).2 (q51.store fx).1 ?_ ?_
            · have q52 := q51.store fx
              refine wpAnyH_ready (rs := [13]) (by kernel_rfl) (by simp) ?_
              have s53 := q52.swap
              refine all_st 13 _ rfl (by kernel_rfl) _ _ rfl _ _ fy (by kernel_rfl) (by kernel_rfl) (s53.2.2.1 _ (List.mem_cons_self ..)).2 (s53.store fy).1 ?_ ?_
              · have q53 := s53.store fy
                refine wpAnyH_done (by kernel_rfl) ?_ _
                simp only [Act.put, List.getElem_toArray, List.getElem_cons_succ, List.getElem_cons_zero, List.setIfInBounds_toArray, List.set_cons_zero, List.set_cons_succ]
                go_wp2_with fail
                go_meet
                case rel =>
                  have qq := q53.swap
                  (try simp only [World.size_alloc] at qq)
                  exact ⟨_, _, rfl, rfl, qq⟩
              exact AllReadyH.nil
            exact AllReadyH.nil
          exact AllReadyH.nil
        exact AllReadyH.nil
      refine all_run 10 _ rfl (by kernel_rfl) _ _ (al_num _ rfl) (q44.alloc).1 ?_ ?_
      · have q54 := q44.alloc
        refine wpAnyH_ready (rs := [4]) (by kernel_rfl) (by simp) ?_
        refine all_call 4 _ rfl (by kernel_rfl) 7 #[.int .u64 ah, .int .u64 al] (.agg (cellsB 128 fx)) (by kernel_rfl) (C1.out _) (fun x55 d55 => ⟨(q54.call d55).1, ?_⟩) ?_
        · have q55 := q54.call d55
          refine wpAnyH_ready (rs := [9]) (by kernel_rfl) (by simp) ?_
          refine all_call 9 _ rfl (by kernel_rfl) 7 #[.int .u64 bh, .int .u64 bl] (.agg (cellsB 128 fy)) (by kernel_rfl) (C2.out _) (fun x56 d56 => ⟨(q55.call d56).1, ?_⟩) ?_
          · have q56 := q55.call d56
            refine wpAnyH_ready (rs := [12]) (by kernel_rfl) (by simp) ?_
            refine all_st 12 _ rfl (by kernel_rfl) _ _ rfl _ _ fx (by kernel_rfl) (by kernel_rfl) (q56.2.2.1 _ (List.mem_cons_self ..)).2 (q56.store fx).1 ?_ ?_
            · have q57 := q56.store fx
              refine wpAnyH_ready (rs := [13]) (by kernel_rfl) (by simp) ?_
              have s58 := q57.swap
              refine all_st 13 _ rfl (by kernel_rfl) _ _ rfl _ _ fy (by kernel_rfl) (by kernel_rfl) (s58.2.2.1 _ (List.mem_cons_self ..)).2 (s58.store fy).1 ?_ ?_
              · have q58 := s58.store fy
                refine wpAnyH_done (by kernel_rfl) ?_ _
                simp only [Act.put, List.getElem_toArray, List.getElem_cons_succ, List.getElem_cons_zero, List.setIfInBounds_toArray, List.set_cons_zero, List.set_cons_succ]
                go_wp2_with fail
                go_meet
                case rel =>
                  have qq := q58.swap
                  (try simp only [World.size_alloc] at qq)
                  exact ⟨_, _, rfl, rfl, qq⟩
              exact AllReadyH.nil
            exact AllReadyH.nil
          exact AllReadyH.nil
        exact AllReadyH.nil
      exact AllReadyH.nil
    exact AllReadyH.nil
  case rest =>
    obtain ⟨g7, g8, rfl, rfl, hq⟩ := hcut
    have X := (hq.2.2.1 (g7, fx) (by simp)).2
    have Y := (hq.2.2.1 (g8, fy) (by simp)).2
    have A1 := A0.carry hq.1 (by omega)
    have B1 := B0.carry hq.1 (by omega)
    have bc : Below w.heap.size w wc := bw.trans (hq.1.mono (by omega))
    clear A0 B0 bw sz hq W0
    have A1' := A1
    have B1' := B1
    obtain ⟨a0, a1, _, _⟩ := A1'
    obtain ⟨b0, b1, _, _⟩ := B1'
    go_wp2_with fail
    refine (C3.out _).mono ?_
    rintro e w2 ⟨rfl, d2⟩
    have A2 := A1.carry d2 A1.lt
    have B2 := B1.carry d2 B1.lt
    have X2 := X.carry d2 X.lt
    have Y2 := Y.carry d2 Y.lt
    have bd : Below w.heap.size w w2 := bstep bc d2 bc.size
    clear A1 B1 X Y d2 bc a0 a1 b0 b1
    have X3 := X2.alloc (.cells #[.int .u64 sh, .int .u64 sl] 24)
    have Y3 := Y2.alloc (.cells #[.int .u64 sh, .int .u64 sl] 24)
    have A3 := A2.alloc (.cells #[.int .u64 sh, .int .u64 sl] 24)
    have B3 := B2.alloc (.cells #[.int .u64 sh, .int .u64 sl] 24)
    have S3 := cel2_new w2 (.int .u64 sh) (.int .u64 sl) 24
    have be : Below w.heap.size w (w2.alloc (.cells #[.int .u64 sh, .int .u64 sl] 24)) := bd.alloc bd.size _
    clear X2 Y2 A2 B2 bd
    go_wp2_with (first | (refine ld_num rfl _ rfl _ rfl _ X3 ?_) | (refine ld_num rfl _ rfl _ rfl _ Y3 ?_))
    refine (C4.out _).mono ?_
    rintro e w4 ⟨rfl, d4⟩
    have N4 := BB.new w4 32 129 (fun _ => false)
    have e4 : Below w4.heap.size w4 ((w4.alloc (.cells (cellsB 129 fun _ => false) 32)).setRow w4.heap.size (cellsB 129 fS)) := Below.setRow (bel1 w4 _) (Nat.le_refl _) _
    have T4 := N4.row fS
    have f4 := d4.trans (e4.mono d4.size)
    have A4 := A3.carry f4 A3.lt
    have B4 := B3.carry f4 B3.lt
    have X4 := X3.carry f4 X3.lt
    have Y4 := Y3.carry f4 Y3.lt
    have S4 := S3.carry f4 S3.lt
    have bf := bstep be f4 be.size
    clear A3 B3 X3 Y3 S3 d4 e4 f4 be
    go_upto_region 4 with (refine st_sum rfl _ _ rfl _ _ _ rfl rfl N4 ?_)
    generalize (w4.alloc (.cells (cellsB 129 fun _ => false) 32)).setRow w4.heap.size (cellsB 129 fS) = w5 at T4 A4 B4 X4 Y4 S4 bf ⊢
    clear N4
    have A4' := A4
    obtain ⟨a0, a1, _, _⟩ := A4'
    go_wp2_with fail
    refine (C5.out _).mono ?_
    rintro e w6 ⟨rfl, d6⟩
    have f6 := d6.trans ((bel1 w6 (.cells #[.int .u64 qh, .int .u64 ql] 24)).mono d6.size)
    have A6 := A4.carry f6 A4.lt
    have B6 := B4.carry f6 B4.lt
    have X6 := X4.carry f6 X4.lt
    have Y6 := Y4.carry f6 Y4.lt
    have S6' := S4.carry f6 S4.lt
    have T6 := T4.carry f6 T4.lt
    have Q6 := cel2_new w6 (.int .u64 qh) (.int .u64 ql) 24
    have bg := bstep bf f6 bf.size
    clear A4 B4 X4 Y4 S4 T4 d6 f6 bf a0 a1
    go_wp2_with (refine ld_num rfl _ rfl _ rfl _ X6 ?_)
    refine (C6.out _).mono ?_
    rintro e w7 ⟨rfl, d7⟩
    have N7 := PB.new w7 (fun _ => false) 0 false
    have e7 : Below w7.heap.size w7 ((w7.alloc (.cells (partsC (fun _ => false) 0 false) 37)).setRow w7.heap.size (partsC fq t can)) := Below.setRow (bel1 w7 _) (Nat.le_refl _) _
    have P7 := N7.row fq t can
    have f7 := d7.trans (e7.mono d7.size)
    have hS6 : S6 w g7 g8 w2.heap.size w4.heap.size w6.heap.size w7.heap.size ah al bh bl sh sl qh ql t fx fy fS fq can ((w7.alloc (.cells (partsC (fun _ => false) 0 false) 37)).setRow w7.heap.size (partsC fq t can)) :=
      ⟨bstep bg f7 bg.size, A6.carry f7 A6.lt, B6.carry f7 B6.lt, X6.carry f7 X6.lt, Y6.carry f7 Y6.lt, S6'.carry f7 S6'.lt, T6.carry f7 T6.lt, Q6.carry f7 Q6.lt, P7⟩
    clear A6 B6 X6 Y6 S6' T6 Q6 P7 d7 e7 f7 bg
    go_upto_region 6 with (refine st_parts rfl _ _ rfl _ _ _ _ _ _ _ rfl rfl N7 ?_)
    generalize (w7.alloc (.cells (partsC (fun _ => false) 0 false) 37)).setRow w7.heap.size (partsC fq t can) = w8 at hS6 ⊢
    clear N7 zz zs zp
    refine wp_region_held_drew (S := fun X => S6 w g7 g8 w2.heap.size w4.heap.size w6.heap.size w7.heap.size ah al bh bl sh sl qh ql t fx fy fS fq can X) (by kernel_rfl) (hS6.carry (Below.refl _ w8).drew) (fun hS => ?_)
    clear hS6
    refine wpAnyH_take (i := 0) (v := .pointer (some ⟨w.heap.size, 1, none⟩)) rfl (by kernel_rfl) (by kernel_rfl) (by kernel_rfl) (fun _ _ _ h => h) (yif_w (by kernel_rfl) fun X _ => by kernel_rfl) hS ?_
    refine wpAnyH_take (i := 1) (v := .int .u64 al) rfl (by kernel_rfl) (by kernel_rfl) (by kernel_rfl) (fun _ _ _ h => h) (yif_load (by kernel_rfl) 22 _ rfl ⟨w.heap.size, 1, none⟩ (by kernel_rfl) (lv_u64 _) fun X hX => hX.a0.2.1) hS ?_
    refine wpAnyH_take (i := 2) (v := .pointer (some ⟨w.heap.size + 1, 1, none⟩)) rfl (by kernel_rfl) (by kernel_rfl) (by kernel_rfl) (fun _ _ _ h => h) (yif_w (by kernel_rfl) fun X _ => by kernel_rfl) hS ?_
    refine wpAnyH_take (i := 3) (v := .int .u64 bl) rfl (by kernel_rfl) (by kernel_rfl) (by kernel_rfl) (fun _ _ _ h => h) (yif_load (by kernel_rfl) 22 _ rfl ⟨w.heap.size + 1, 1, none⟩ (by kernel_rfl) (lv_u64 _) fun X hX => hX.b0.2.1) hS ?_
    refine wpAnyH_take (i := 5) (v := .pointer (some ⟨w.heap.size, 1, none⟩)) rfl (by kernel_rfl) (by kernel_rfl) (by kernel_rfl) (fun _ _ _ h => h) (yif_w (by kernel_rfl) fun X _ => by kernel_rfl) hS ?_
    refine wpAnyH_take (i := 6) (v := .int .u64 al) rfl (by kernel_rfl) (by kernel_rfl) (by kernel_rfl) (fun _ _ _ h => h) (yif_load (by kernel_rfl) 22 _ rfl ⟨w.heap.size, 1, none⟩ (by kernel_rfl) (lv_u64 _) fun X hX => hX.a0.2.1) hS ?_
    refine wpAnyH_take (i := 7) (v := .pointer (some ⟨w.heap.size + 1, 1, none⟩)) rfl (by kernel_rfl) (by kernel_rfl) (by kernel_rfl) (fun _ _ _ h => h) (yif_w (by kernel_rfl) fun X _ => by kernel_rfl) hS ?_
    refine wpAnyH_take (i := 8) (v := .int .u64 bl) rfl (by kernel_rfl) (by kernel_rfl) (by kernel_rfl) (fun _ _ _ h => h) (yif_load (by kernel_rfl) 22 _ rfl ⟨w.heap.size + 1, 1, none⟩ (by kernel_rfl) (lv_u64 _) fun X hX => hX.b0.2.1) hS ?_
    refine wpAnyH_ready (rs := [4]) (by kernel_rfl) (by simp) ?_
    refine all_call 4 _ rfl (by kernel_rfl) 13 #[.int .u64 al, .int .u64 bl] (.agg #[.int .u64 mh, .int .u64 ml]) (by kernel_rfl) (C7.out _) (fun v1 u1 => ⟨hS.carry u1, ?_⟩) AllReadyH.nil
    have hS1 := hS.carry u1
    clear hS u1
    refine wpAnyH_ready (rs := [9]) (by kernel_rfl) (by simp) ?_
    refine all_call 9 _ rfl (by kernel_rfl) 14 #[.int .u64 al, .int .u64 bl] (.agg (cellsB 128 fm)) (by kernel_rfl) (C8.out _) (fun v2 u2 => ⟨hS1.carry u2, ?_⟩) AllReadyH.nil
    have hS2 := hS1.carry u2
    clear hS1 u2
    refine wpAnyH_ready (rs := [10]) (by kernel_rfl) (by simp) ?_
    refine all_call 10 _ rfl (by kernel_rfl) 12 #[.agg #[.int .u64 mh, .int .u64 ml], .agg (cellsB 128 fm)] (.bool true) (by kernel_rfl) (C9.out _) (fun v3 u3 => ⟨hS2.carry u3, ?_⟩) AllReadyH.nil
    have hS3 := hS2.carry u3
    clear hS2 u3
    refine wpAnyH_take (i := 11) (v := .bool true) rfl (by kernel_rfl) (by kernel_rfl) (by kernel_rfl) (fun _ _ _ h => h) (yif_w (by kernel_rfl) fun X _ => by kernel_rfl) hS3 ?_
    refine wpAnyH_take (i := 12) (v := .agg #[.int .u64 sh, .int .u64 sl]) rfl (by kernel_rfl) (by kernel_rfl) (by kernel_rfl) (fun _ _ _ h => h) (yif_agg (by kernel_rfl) 24 _ rfl ⟨w2.heap.size, 0, none⟩ (by kernel_rfl) fun X hX => lv_tw _ _ _ _ hX.s) hS3 ?_
    refine wpAnyH_take (i := 13) (v := .pointer (some ⟨w4.heap.size, 0, none⟩)) rfl (by kernel_rfl) (by kernel_rfl) (by kernel_rfl) (fun _ _ _ h => h) (yif_w (by kernel_rfl) fun X _ => by kernel_rfl) hS3 ?_
    refine wpAnyH_take (i := 14) (v := .agg (cellsB 128 fS)) rfl (by kernel_rfl) (by kernel_rfl) (by kernel_rfl) (fun _ _ _ h => h) (yif_agg (by kernel_rfl) 27 _ rfl ⟨w4.heap.size, 0, none⟩ (by kernel_rfl) fun X hX => hX.S.sum) hS3 ?_
    refine wpAnyH_ready (rs := [15]) (by kernel_rfl) (by simp) ?_
    refine all_call 15 _ rfl (by kernel_rfl) 12 #[.agg #[.int .u64 sh, .int .u64 sl], .agg (cellsB 128 fS)] (.bool true) (by kernel_rfl) (C10.out _) (fun v4 u4 => ⟨hS3.carry u4, ?_⟩) AllReadyH.nil
    have hS4 := hS3.carry u4
    clear hS3 u4
    refine wpAnyH_take (i := 16) (v := .bool true) rfl (by kernel_rfl) (by kernel_rfl) (by kernel_rfl) (fun _ _ _ h => h) (yif_w (by kernel_rfl) fun X _ => by kernel_rfl) hS4 ?_
    refine wpAnyH_take (i := 17) (v := .bool true) rfl (by kernel_rfl) (by kernel_rfl) (by kernel_rfl) (fun _ _ _ h => h) (yif_w (by kernel_rfl) fun X _ => by kernel_rfl) hS4 ?_
    refine wpAnyH_take (i := 18) (v := .bool so) rfl (by kernel_rfl) (by kernel_rfl) (by kernel_rfl) (fun _ _ _ h => h) (yif_w (by kernel_rfl) fun X _ => by kernel_rfl) hS4 ?_
    refine wpAnyH_take (i := 19) (v := .pointer (some ⟨w4.heap.size, 128, none⟩)) rfl (by kernel_rfl) (by kernel_rfl) (by kernel_rfl) (fun _ _ _ h => h) (yif_w (by kernel_rfl) fun X _ => by kernel_rfl) hS4 ?_
    refine wpAnyH_take (i := 20) (v := .bool so) rfl (by kernel_rfl) (by kernel_rfl) (by kernel_rfl) (fun _ _ _ h => h) (yif_load (by kernel_rfl) 4 _ rfl ⟨w4.heap.size, 128, none⟩ (by kernel_rfl) (lv_bool _) fun X hX => by rw [hX.S.cell (i := 128) (by omega), HSO.out]) hS4 ?_
    refine wpAnyH_take (i := 21) (v := .bool true) rfl (by kernel_rfl) (by kernel_rfl) (by kernel_rfl) (fun _ _ _ h => h) (yif_w (by kernel_rfl) fun X _ => eql_bool (u := so) _ _ rfl (by kernel_rfl) (by kernel_rfl) X) hS4 ?_
    refine wpAnyH_take (i := 22) (v := .bool true) rfl (by kernel_rfl) (by kernel_rfl) (by kernel_rfl) (fun _ _ _ h => h) (yif_w (by kernel_rfl) fun X _ => by kernel_rfl) hS4 ?_
    refine wpAnyH_take (i := 23) (v := .bool true) rfl (by kernel_rfl) (by kernel_rfl) (by kernel_rfl) (fun _ _ _ h => h) (yif_w (by kernel_rfl) fun X _ => by kernel_rfl) hS4 ?_
    refine wpAnyH_take (i := 24) (v := .agg #[.int .u64 qh, .int .u64 ql]) rfl (by kernel_rfl) (by kernel_rfl) (by kernel_rfl) (fun _ _ _ h => h) (yif_agg (by kernel_rfl) 24 _ rfl ⟨w6.heap.size, 0, none⟩ (by kernel_rfl) fun X hX => lv_tw _ _ _ _ hX.q) hS4 ?_
    refine wpAnyH_take (i := 25) (v := .pointer (some ⟨w7.heap.size, 0, none⟩)) rfl (by kernel_rfl) (by kernel_rfl) (by kernel_rfl) (fun _ _ _ h => h) (yif_w (by kernel_rfl) fun X _ => by kernel_rfl) hS4 ?_
    refine wpAnyH_take (i := 26) (v := .agg (cellsB 128 fq)) rfl (by kernel_rfl) (by kernel_rfl) (by kernel_rfl) (fun _ _ _ h => h) (yif_agg (by kernel_rfl) 27 _ rfl ⟨w7.heap.size, 0, none⟩ (by kernel_rfl) fun X hX => hX.p.num) hS4 ?_
    refine wpAnyH_ready (rs := [27]) (by kernel_rfl) (by simp) ?_
    refine all_call 27 _ rfl (by kernel_rfl) 12 #[.agg #[.int .u64 qh, .int .u64 ql], .agg (cellsB 128 fq)] (.bool true) (by kernel_rfl) (C11.out _) (fun v5 u5 => ⟨hS4.carry u5, ?_⟩) AllReadyH.nil
    have hS5 := hS4.carry u5
    clear hS4 u5
    refine wpAnyH_take (i := 28) (v := .bool true) rfl (by kernel_rfl) (by kernel_rfl) (by kernel_rfl) (fun _ _ _ h => h) (yif_w (by kernel_rfl) fun X _ => by kernel_rfl) hS5 ?_
    refine wpAnyH_take (i := 29) (v := .bool true) rfl (by kernel_rfl) (by kernel_rfl) (by kernel_rfl) (fun _ _ _ h => h) (yif_w (by kernel_rfl) fun X _ => by kernel_rfl) hS5 ?_
    refine wpAnyH_take (i := 30) (v := .int .u64 t) rfl (by kernel_rfl) (by kernel_rfl) (by kernel_rfl) (fun _ _ _ h => h) (yif_w (by kernel_rfl) fun X _ => by kernel_rfl) hS5 ?_
    refine wpAnyH_take (i := 31) (v := .pointer (some ⟨w7.heap.size, 128, none⟩)) rfl (by kernel_rfl) (by kernel_rfl) (by kernel_rfl) (fun _ _ _ h => h) (yif_w (by kernel_rfl) fun X _ => by kernel_rfl) hS5 ?_
    refine wpAnyH_take (i := 32) (v := .int .u64 t) rfl (by kernel_rfl) (by kernel_rfl) (by kernel_rfl) (fun _ _ _ h => h) (yif_load (by kernel_rfl) 22 _ rfl ⟨w7.heap.size, 128, none⟩ (by kernel_rfl) (lv_u64 _) fun X hX => hX.p.rest) hS5 ?_
    refine wpAnyH_take (i := 33) (v := .bool true) rfl (by kernel_rfl) (by kernel_rfl) (by kernel_rfl) (fun _ _ _ h => h) (yif_w (by kernel_rfl) fun X _ => eql_u64 (u := t) _ _ rfl (by kernel_rfl) (by kernel_rfl) X) hS5 ?_
    refine wpAnyH_take (i := 34) (v := .bool true) rfl (by kernel_rfl) (by kernel_rfl) (by kernel_rfl) (fun _ _ _ h => h) (yif_w (by kernel_rfl) fun X _ => by kernel_rfl) hS5 ?_
    refine wpAnyH_take (i := 35) (v := .bool true) rfl (by kernel_rfl) (by kernel_rfl) (by kernel_rfl) (fun _ _ _ h => h) (yif_w (by kernel_rfl) fun X _ => by kernel_rfl) hS5 ?_
    refine wpAnyH_take (i := 36) (v := .bool can) rfl (by kernel_rfl) (by kernel_rfl) (by kernel_rfl) (fun _ _ _ h => h) (yif_w (by kernel_rfl) fun X _ => by kernel_rfl) hS5 ?_
    refine wpAnyH_take (i := 37) (v := .pointer (some ⟨w7.heap.size, 129, none⟩)) rfl (by kernel_rfl) (by kernel_rfl) (by kernel_rfl) (fun _ _ _ h => h) (yif_w (by kernel_rfl) fun X _ => by kernel_rfl) hS5 ?_
    refine wpAnyH_take (i := 38) (v := .bool can) rfl (by kernel_rfl) (by kernel_rfl) (by kernel_rfl) (fun _ _ _ h => h) (yif_load (by kernel_rfl) 4 _ rfl ⟨w7.heap.size, 129, none⟩ (by kernel_rfl) (lv_bool _) fun X hX => hX.p.ok) hS5 ?_
    refine wpAnyH_take (i := 39) (v := .bool true) rfl (by kernel_rfl) (by kernel_rfl) (by kernel_rfl) (fun _ _ _ h => h) (yif_w (by kernel_rfl) fun X _ => eql_bool (u := can) _ _ rfl (by kernel_rfl) (by kernel_rfl) X) hS5 ?_
    refine wpAnyH_take (i := 40) (v := .bool true) rfl (by kernel_rfl) (by kernel_rfl) (by kernel_rfl) (fun _ _ _ h => h) (yif_w (by kernel_rfl) fun X _ => by kernel_rfl) hS5 ?_
    refine wpAnyH_take (i := 41) (v := .bool true) rfl (by kernel_rfl) (by kernel_rfl) (by kernel_rfl) (fun _ _ _ h => h) (yif_w (by kernel_rfl) fun X _ => by kernel_rfl) hS5 ?_
    refine wpAnyH_take (i := 42) (v := .agg #[.int .u64 ah, .int .u64 al]) rfl (by kernel_rfl) (by kernel_rfl) (by kernel_rfl) (fun _ _ _ h => h) (yif_agg (by kernel_rfl) 24 _ rfl ⟨w.heap.size, 0, none⟩ (by kernel_rfl) fun X hX => lv_tw _ _ _ _ hX.a0) hS5 ?_
    refine wpAnyH_take (i := 43) (v := .agg #[.int .u64 bh, .int .u64 bl]) rfl (by kernel_rfl) (by kernel_rfl) (by kernel_rfl) (fun _ _ _ h => h) (yif_agg (by kernel_rfl) 24 _ rfl ⟨w.heap.size + 1, 0, none⟩ (by kernel_rfl) fun X hX => lv_tw _ _ _ _ hX.b0) hS5 ?_
    refine wpAnyH_take (i := 45) (v := .agg (cellsB 128 fx)) rfl (by kernel_rfl) (by kernel_rfl) (by kernel_rfl) (fun _ _ _ h => h) (yif_agg (by kernel_rfl) 27 _ rfl ⟨g7, 0, none⟩ (by kernel_rfl) fun X hX => hX.x.num) hS5 ?_
    refine wpAnyH_take (i := 46) (v := .agg (cellsB 128 fy)) rfl (by kernel_rfl) (by kernel_rfl) (by kernel_rfl) (fun _ _ _ h => h) (yif_agg (by kernel_rfl) 27 _ rfl ⟨g8, 0, none⟩ (by kernel_rfl) fun X hX => hX.y.num) hS5 ?_
    refine wpAnyH_ready (rs := [44]) (by kernel_rfl) (by simp) ?_
    refine all_call 44 _ rfl (by kernel_rfl) 15 #[.agg #[.int .u64 ah, .int .u64 al], .agg #[.int .u64 bh, .int .u64 bl]] (.bool lt) (by kernel_rfl) (C12.out _) (fun v6 u6 => ⟨hS5.carry u6, ?_⟩) AllReadyH.nil
    have hS6 := hS5.carry u6
    clear hS5 u6
    refine wpAnyH_ready (rs := [47]) (by kernel_rfl) (by simp) ?_
    refine all_call 47 _ rfl (by kernel_rfl) 16 #[.agg (cellsB 128 fx), .agg (cellsB 128 fy)] (.bool lt) (by kernel_rfl) (C13.out _) (fun v7 u7 => ⟨hS6.carry u7, ?_⟩) AllReadyH.nil
    have hS7 := hS6.carry u7
    clear hS6 u7
    refine wpAnyH_take (i := 48) (v := .bool true) rfl (by kernel_rfl) (by kernel_rfl) (by kernel_rfl) (fun _ _ _ h => h) (yif_w (by kernel_rfl) fun X _ => eql_bool (u := lt) _ _ rfl (by kernel_rfl) (by kernel_rfl) X) hS7 ?_
    refine wpAnyH_take (i := 49) (v := .bool true) rfl (by kernel_rfl) (by kernel_rfl) (by kernel_rfl) (fun _ _ _ h => h) (yif_w (by kernel_rfl) fun X _ => by kernel_rfl) hS7 ?_
    refine wpAnyH_take (i := 50) (v := .bool true) rfl (by kernel_rfl) (by kernel_rfl) (by kernel_rfl) (fun _ _ _ h => h) (yif_w (by kernel_rfl) fun X _ => by kernel_rfl) hS7 ?_
    refine wpAnyH_ready (rs := [51]) (by kernel_rfl) (by simp) ?_
    refine all_call 51 _ rfl (by kernel_rfl) 17 #[] (.bool true) (by kernel_rfl) (awake_any _) (fun v8 u8 => ⟨hS7.carry u8, ?_⟩) AllReadyH.nil
    have hS8 := hS7.carry u8
    clear hS7 u8
    refine wpAnyH_take (i := 52) (v := .bool true) rfl (by kernel_rfl) (by kernel_rfl) (by kernel_rfl) (fun _ _ _ h => h) (yif_w (by kernel_rfl) fun X _ => by kernel_rfl) hS8 ?_
    refine wpAnyH_take (i := 53) (v := .bool true) rfl (by kernel_rfl) (by kernel_rfl) (by kernel_rfl) (fun _ _ _ h => h) (yif_w (by kernel_rfl) fun X _ => by kernel_rfl) hS8 ?_
    refine wpAnyH_done (by kernel_rfl) ?_ _
    have acc := hS8.b
    clear hS8
    simp only [Act.put, List.getElem_toArray, List.getElem_cons_succ, List.getElem_cons_zero, List.setIfInBounds_toArray, List.set_cons_zero, List.set_cons_succ]
    go_wp2_with fail
    go_ret
    exact ⟨rfl, acc⟩
end Go.Proofs.Ytmggcdhahimpnaa
