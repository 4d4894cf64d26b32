/- Blocks that hold the bits of a number (the document's [128]bool), known whole; the steps of a walk over them. -/
import Derived.Test.YtojphpncidjdiaaWNum
import Derived.Laws.Rows
import Derived.Laws.Tables
import Derived.Deep.WholeRow
import Derived.Deep.RegionHeld3
import Derived.StillTailTactics
namespace Go.Proofs.Ytojphpncidjdiaa
open Go.RowKit
set_option linter.unusedVariables false

/-- Bits as the cells of an array. -/
def cellsB (n : Nat) (f : Nat → Bool) : Array Value := Array.ofFn (n := n) fun i => .bool (f i)
theorem cellsB_size (n : Nat) (f : Nat → Bool) : (cellsB n f).size = n := by simp [cellsB]
theorem cellsB_get {n i : Nat} (f : Nat → Bool) (h : i < n) : (cellsB n f)[i]? = some (.bool (f i)) := by simp [cellsB, h]
theorem cellsB_congr {n : Nat} {f g : Nat → Bool} (h : ∀ i, i < n → f i = g i) : cellsB n f = cellsB n g := by
  unfold cellsB; congr 1; funext i; rw [h i i.2]
theorem cellsB_one (n : Nat) (f : Nat → Bool) : (cellsB n f).all (·.oneCell') = true := by
  rw [Array.all_eq_true_iff_forall_mem]
  intro v hv
  simp only [cellsB, Array.mem_ofFn] at hv
  obtain ⟨i, rfl⟩ := hv
  rfl
def upd (f : Nat → Bool) (i : Nat) (b : Bool) : Nat → Bool := fun j => if j = i then b else f j
theorem cellsB_set (n i : Nat) (f : Nat → Bool) (b : Bool) : (cellsB n f).setIfInBounds i (.bool b) = cellsB n (upd f i b) := by
  apply Array.ext_getElem?
  intro j
  rw [Array.getElem?_setIfInBounds, cellsB_size]
  by_cases hj : j < n
  · rw [cellsB_get _ hj, cellsB_get _ hj]
    unfold upd
    by_cases h : i = j
    · subst h; rw [if_pos rfl, if_pos hj, if_pos rfl]
    · rw [if_neg h, if_neg (fun e => h e.symm)]
  · have e1 : ∀ g : Nat → Bool, (cellsB n g)[j]? = none := fun g => by rw [Array.getElem?_eq_none_iff, cellsB_size]; omega
    rw [e1, e1]
    by_cases h : i = j
    · subst h; rw [if_pos rfl, if_neg hj]
    · rw [if_neg h]
/-- A block holds these bits, of a type. -/
def BB (w : World) (g : Nat) (T : TypeId) (n : Nat) (f : Nat → Bool) : Prop := w.heap[g]? = some (.cells (cellsB n f) T (0, 0))
theorem BB.cell {w : World} {g n i : Nat} {T : TypeId} {f : Nat → Bool} (h : BB w g T n f) (hi : i < n) : w.cell? ⟨g, i, none⟩ = some (.bool (f i)) := by
  rw [cell_of_row w g i _ T _ h]; exact cellsB_get f hi
theorem BB.frozen {w : World} {g n i : Nat} {T : TypeId} {f : Nat → Bool} (h : BB w g T n f) : w.frozen? ⟨g, i, none⟩ = false := by
  unfold BB at h; simp [World.frozen?, h]
theorem BB.lt {w : World} {g n : Nat} {T : TypeId} {f : Nat → Bool} (h : BB w g T n f) : g < w.heap.size := (Array.getElem?_eq_some_iff.1 h).1
theorem BB.carry {w w' : World} {g n B : Nat} {T : TypeId} {f : Nat → Bool} (h : BB w g T n f) (hb : Below B w w') (hB : g < B) : BB w' g T n f := (hb.block g hB).trans h
theorem BB.congr {w : World} {g n : Nat} {T : TypeId} {f f' : Nat → Bool} (h : BB w g T n f) (e : ∀ i, i < n → f i = f' i) : BB w g T n f' := by
  unfold BB at *; rw [h, cellsB_congr e]
theorem BB.set {w : World} {g n : Nat} {T : TypeId} {f : Nat → Bool} (h : BB w g T n f) (i : Nat) (b : Bool) : BB (w.setCell ⟨g, i, none⟩ (.bool b)) g T n (upd f i b) := by
  unfold BB at *
  rw [setCell_eq_setRow w g i _ T _ _ h, setRow_heap w g _ _ T _ h, cellsB_set]
theorem BB.other {w : World} {g g' i n : Nat} {T : TypeId} {f : Nat → Bool} (h : BB w g T n f) (hg : g ≠ g') (v : Value) : BB (w.setCell ⟨g', i, none⟩ v) g T n f :=
  (Below.heap_setCell w ⟨g', i, none⟩ v g hg).trans h
theorem BB.alloc {w : World} {g n : Nat} {T : TypeId} {f : Nat → Bool} (h : BB w g T n f) (o : Obj) : BB (w.alloc o) g T n f := (Below.heap_alloc w o g h.lt).trans h
theorem BB.new (w : World) (T : TypeId) (n : Nat) (f : Nat → Bool) : BB (w.alloc (.cells (cellsB n f) T)) w.heap.size T n f := heap_alloc_last w _
theorem BB.drew {w : World} {g n : Nat} {T : TypeId} {f : Nat → Bool} (h : BB w g T n f) : BB w.drew g T n f := h
theorem BB.row {w : World} {g n : Nat} {T : TypeId} {f : Nat → Bool} (h : BB w g T n f) (f' : Nat → Bool) : BB (w.setRow g (cellsB n f')) g T n f' := setRow_heap w g _ _ T _ h
theorem row_other (w : World) (g g' : Nat) (cs : Array Value) (h : g ≠ g') : (w.setRow g' cs).heap[g]? = w.heap[g]? := by
  simp only [World.setRow, Array.getElem?_modify]
  rw [if_neg (fun e => h e.symm)]
theorem BB.rowOther {w : World} {g g' n : Nat} {T : TypeId} {f : Nat → Bool} (h : BB w g T n f) (hg : g ≠ g') (cs : Array Value) : BB (w.setRow g' cs) g T n f := (row_other w g g' cs hg).trans h
theorem row_size (w : World) (g : Nat) (cs : Array Value) : (w.setRow g cs).heap.size = w.heap.size := by simp [World.setRow]
theorem Below.setRow {B : Nat} {a w : World} (h : Below B a w) {g : Nat} (hg : B ≤ g) (cs : Array Value) : Below B a (w.setRow g cs) :=
  h.trans ⟨rfl, rfl, rfl, by rw [row_size]; exact Nat.le_refl _, fun k hk => row_other w k g cs (by omega)⟩

/-! ### The types -/
theorem zNum : (Try.prog.info? 106).map (fun i => (i.zero, i.size)) = some (some (.agg (cellsB 128 fun _ => false)), 128) := by kernel_rfl
theorem zvNum : ∀ w, (zeroValue 106).run Try.prog w = .ok (.agg (cellsB 128 fun _ => false)) w := (zero_of_info zNum).1
theorem iNum : (Try.prog.info? 106).map (·.size) = some 128 := (zero_of_info zNum).2
theorem zSum : (Try.prog.info? 126).map (fun i => (i.zero, i.size)) = some (some (.agg (cellsB 129 fun _ => false)), 129) := by kernel_rfl
theorem zvSum : ∀ w, (zeroValue 126).run Try.prog w = .ok (.agg (cellsB 129 fun _ => false)) w := (zero_of_info zSum).1
theorem iSum : (Try.prog.info? 126).map (·.size) = some 129 := (zero_of_info zSum).2
/-- The document's number, by value. -/
def numF (f : Nat → Bool) : Value := .agg (cellsB 128 f)
def numB (n : Nat) : Value := numF fun i => n.testBit i

/-! ### Steps -/
theorem ld_num {ops : Array Oper} {rest : List Oper} {o : Oper} {a : Act} {w : World} {Q : Exit → Act → World → Prop} (hgd : o.guard = none) (x : Operand) (ho : o.op = .load 106 x)
    (g : Nat) (hx : a.eval x = .pointer (some ⟨g, 0, none⟩)) (f : Nat → Bool) (hg : BB w g 106 128 f)
    (h : wpList Try.prog ops Q rest (a.put o.dst (.agg (cellsB 128 f))) w) : wpList Try.prog ops Q (o :: rest) a w :=
  wpList_load_row hgd 106 x ho g hx 106 _ _ _ hg Try.underlying106 rfl (by rw [iNum, cellsB_size]) h
theorem st_num {ops : Array Oper} {rest : List Oper} {o : Oper} {a : Act} {w : World} {Q : Exit → Act → World → Prop} (hgd : o.guard = none) (x y : Operand) (ho : o.op = .store 106 x y)
    (g : Nat) (f f' : Nat → Bool) (hx : a.eval x = .pointer (some ⟨g, 0, none⟩)) (hy : a.eval y = .agg (cellsB 128 f')) (hg : BB w g 106 128 f)
    (h : wpList Try.prog ops Q rest (a.put o.dst undef) (w.setRow g (cellsB 128 f'))) : wpList Try.prog ops Q (o :: rest) a w :=
  wpList_store_row hgd 106 x y ho g _ hx hy 106 _ hg (by rw [iNum, cellsB_size]) (by rw [cellsB_size, cellsB_size]) (cellsB_one _ _) h
theorem res_num {fn : Func} {p : Tmp} (h : fn.results = #[.cell p 106]) (tmps : Array Value) (w : World) (g : Nat) (f : Nat → Bool) (hp : tmps.getD p undef = .pointer (some ⟨g, 0, none⟩)) (hg : BB w g 106 128 f) :
    (results fn tmps).run Try.prog w = .ok (.agg (cellsB 128 f)) w :=
  results_cell_row h tmps w g 106 _ _ _ hp hg Try.underlying106 rfl (by rw [iNum, cellsB_size])
theorem st_sum {ops : Array Oper} {rest : List Oper} {o : Oper} {a : Act} {w : World} {Q : Exit → Act → World → Prop} (hgd : o.guard = none) (x y : Operand) (ho : o.op = .store 126 x y)
    (g : Nat) (f f' : Nat → Bool) (hx : a.eval x = .pointer (some ⟨g, 0, none⟩)) (hy : a.eval y = .agg (cellsB 129 f')) (hg : BB w g 126 129 f)
    (h : wpList Try.prog ops Q rest (a.put o.dst undef) (w.setRow g (cellsB 129 f'))) : wpList Try.prog ops Q (o :: rest) a w :=
  wpList_store_row hgd 126 x y ho g _ hx hy 126 _ hg (by rw [iSum, cellsB_size]) (by rw [cellsB_size, cellsB_size]) (cellsB_one _ _) h
theorem res_sum {fn : Func} {p : Tmp} (h : fn.results = #[.cell p 126]) (tmps : Array Value) (w : World) (g : Nat) (f : Nat → Bool) (hp : tmps.getD p undef = .pointer (some ⟨g, 0, none⟩)) (hg : BB w g 126 129 f) :
    (results fn tmps).run Try.prog w = .ok (.agg (cellsB 129 f)) w :=
  results_cell_row h tmps w g 126 _ _ _ hp hg Try.underlying126 rfl (by rw [iSum, cellsB_size])
theorem built_sum (f : Nat → Bool) : Try.prog.built 126 [(0, .agg (cellsB 128 f)), (1, .bool true)] = some (cellsB 129 fun i => if i < 128 then f i else true) := by kernel_rfl
theorem built_sum0 : Try.prog.built 126 [] = some (cellsB 129 fun _ => false) := by kernel_rfl
theorem field_sum (f : Nat → Bool) (w : World) : (Instr.field 126 (.agg (cellsB 129 f)) 0).run Try.prog w = .ok (.agg (cellsB 128 f)) w := by kernel_rfl
theorem bd_sum {ops : Array Oper} {rest : List Oper} {o : Oper} {a : Act} {w : World} {Q : Exit → Act → World → Prop} (hgd : o.guard = none) (x : Operand) (ho : o.op = .build 126 #[(0, x), (1, .const (.bool true))])
    (f : Nat → Bool) (hx : a.eval x = .agg (cellsB 128 f)) (h : wpList Try.prog ops Q rest (a.put o.dst (.agg (cellsB 129 fun i => if i < 128 then f i else true))) w) : wpList Try.prog ops Q (o :: rest) a w := by
  have e : ((#[(0, x), (1, Operand.const (.bool true))] : Array (Nat × Operand)).map fun (i, x) => (i, a.eval x)).toList = [(0, .agg (cellsB 128 f)), (1, .bool true)] := by
    simp [hx]; rfl
  refine wpList_build hgd 126 _ ho ?_ ?_
  · rw [e, built_sum, Option.isSome_some]
  · rw [e, built_sum, Option.getD_some]; exact h
theorem bd_sum0 {ops : Array Oper} {rest : List Oper} {o : Oper} {a : Act} {w : World} {Q : Exit → Act → World → Prop} (hgd : o.guard = none) (ho : o.op = .build 126 #[])
    (h : wpList Try.prog ops Q rest (a.put o.dst (.agg (cellsB 129 fun _ => false))) w) : wpList Try.prog ops Q (o :: rest) a w := by
  have e : ((#[] : Array (Nat × Operand)).map fun (i, x) => (i, a.eval x)).toList = [] := by simp
  refine wpList_build hgd 126 _ ho ?_ ?_
  · rw [e, built_sum0, Option.isSome_some]
  · rw [e, built_sum0, Option.getD_some]; exact h
end Go.Proofs.Ytojphpncidjdiaa
