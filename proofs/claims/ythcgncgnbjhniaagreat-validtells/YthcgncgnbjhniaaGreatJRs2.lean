/- Fair of the document, and Large of the law. Fair of the document. The document's Snap: what it needs. The document's Snap. -/
import Derived.Test.YthcgncgnbjhniaaGreatJSm
import Derived.Test.YthcgncgnbjhniaaGreatJSnp
import Derived.Test.YthcgncgnbjhniaaGreatDetY
namespace Go.Proofs.YthcgncgnbjhniaaGreat
open Go.RowKit
set_option maxRecDepth 20000
set_option linter.unusedVariables false
set_option linter.unusedSimpArgs false

theorem all_no {α : Type} {p : α → Bool} {l : List α} {d : α} {k : Nat} (hk : k < l.length) (h : p (l.getD k d) = false) : l.all p = false := by
  rw [List.all_eq_false]
  exact ⟨_, mem_getD hk, by rw [h]; simp⟩
theorem all_yes {α : Type} {p : α → Bool} {l : List α} {d : α} (h : ∀ k, k < l.length → p (l.getD k d) = true) : l.all p = true := by
  rw [List.all_eq_true]
  intro x hx
  obtain ⟨k, hk, rfl⟩ := List.getElem_of_mem hx
  have := h k hk
  rwa [List.getD_eq_getElem?_getD, List.getElem?_eq_getElem hk] at this
/-- What Large tells. -/
def LargeOut (j : J4) (e : Ending) : Prop := (e = .returned (.bool true) ∧ ¬ Few j) ∨ (e = .returned (.bool false) ∧ Few j)
set_option maxHeartbeats 4000000 in
theorem large_any (j : J4) (s : S3) (w : World) (hL : Lists w j s) :
    Calls Tryz.prog 5 #[.agg (jobC j s)] w fun e w' => LargeOut j e ∧ Below w.heap.size w w' := by
  have D := job_new w j s
  have b0 := tbel1 w (.cells (jobC j s) 29)
  obtain ⟨hs, hH, hN⟩ := hL.notes
  have HH := Lib.hid hH
  have HN := Lib.hid hN
  have m1 := Nat.le_trans hL.ic.1 hL.ic.2
  have m2 := Nat.le_trans hL.nc.1 hL.nc.2
  have m3 := Nat.le_trans hL.fc.1 hL.fc.2
  simp only [maxLen] at m1 m2 m3
  obtain ⟨t19, t20, t21⟩ := D.three
  clear hL hH hN
  go_enter Tryz.func5, Tryz.ntmps5
  go_upto_region 1 with (fail)
  generalize w.alloc _ = U at *
  go_wp2_with fail
  go_loopw [3] (fun i wr => ∃ k : Nat, k ≤ j.notes.length ∧ k ≤ 100 ∧ i = .int .i64 k ∧ Below U.heap.size U wr ∧ Hid (∀ m, m < k → (j.notes.getD m zeroN).l.length ≤ 100 ∧ (j.notes.getD m zeroN).p.length ≤ 100)) (fun i _ => j.notes.length - (intOf i).toNat)
  case atStart => exact ⟨0, Nat.zero_le _, Nat.zero_le _, rfl, Below.refl _ _, Lib.hid fun m hm => by omega⟩
  case round =>
    obtain ⟨k, hk, hk2, rfl, hbl, HP⟩ := hrel
    have bw := tstep b0 hbl b0.size
    have D' := D.old hbl
    clear t19 t20 t21
    obtain ⟨t19, t20, t21⟩ := D'.three
    by_cases hlt : k < j.notes.length
    · by_cases hlt2 : k < 100
      · obtain ⟨b, off, hna, hB, p0, p1⟩ := els2 (HH.out.carry bw) hlt
        obtain ⟨n1, n2, n3, n4, _, _⟩ := HN.out k hlt
        rw [hna] at t20
        have HS : Hid ((j.notes.getD k zeroN).l.length ≤ 100 → (j.notes.getD k zeroN).p.length ≤ 100 → ∀ m, m < k + 1 → (j.notes.getD m zeroN).l.length ≤ 100 ∧ (j.notes.getD m zeroN).p.length ≤ 100) := Lib.hid fun h h' m hm => by
          rcases Nat.lt_or_ge m k with h1 | h1
          · exact HP.out m h1
          · obtain rfl : m = k := by omega
            exact ⟨h, h'⟩
        have HF1 : Hid (100 < (j.notes.getD k zeroN).l.length → ¬ Few j) := Lib.hid fun h hf => by have := (hf.2.2.2 k).1; omega
        have HF2 : Hid (100 < (j.notes.getD k zeroN).p.length → ¬ Few j) := Lib.hid fun h hf => by have := (hf.2.2.2 k).2; omega
        rw [n1] at p0 n3
        rw [n2] at p1 n4
        clear HP hna D' n1 n2
        generalize (j.notes.getD k zeroN).l.length = x at *
        generalize (j.notes.getD k zeroN).p.length = y at *
        have n3' := Nat.le_trans n3.1 n3.2
        have n4' := Nat.le_trans n4.1 n4.2
        simp only [maxLen] at n3' n4'
        clear n3 n4
        by_cases g1 : 100 < x
        · clear HS
          go_wp2
          go_ret
          exact ⟨.inl ⟨rfl, HF1.out g1⟩, bw⟩
        by_cases g2 : 100 < y
        · clear HS
          go_wp2
          go_ret
          exact ⟨.inl ⟨rfl, HF2.out g2⟩, bw⟩
        · replace HS := Lib.hid (HS.out (by omega) (by omega))
          go_wp2
          go_roundw
          case rel => exact ⟨k + 1, by omega, by omega, by go_num, hbl, HS⟩
          case measure => simp [intOf]; omega
      · have hn : 100 ≤ j.notes.length := by omega
        obtain rfl : k = 100 := by omega
        clear D'
        by_cases g1 : 100 < j.items.length
        · go_wp2
          go_ret
          exact ⟨.inl ⟨rfl, fun hf => by have := hf.1; omega⟩, bw⟩
        · go_wp2
          go_ret
          exact ⟨.inl ⟨rfl, fun hf => by have := hf.2.1; omega⟩, bw⟩
    · obtain rfl : k = j.notes.length := by omega
      clear D'
      by_cases g1 : 100 < j.items.length
      · go_wp2
        go_ret
        exact ⟨.inl ⟨rfl, fun hf => by have := hf.1; omega⟩, bw⟩
      by_cases g3 : 100 < j.floats.length
      · go_wp2
        go_ret
        exact ⟨.inl ⟨(congrArg (fun b => Ending.returned (Value.bool b)) (show (decide (100 < (j.items.length : Int)) || decide (100 < (j.notes.length : Int)) || decide (100 < (j.floats.length : Int))) = true from by simp; omega)), fun hf => by have := hf.2.2.1; omega⟩, bw⟩
      · have HF : Hid (Few j) := Lib.hid ⟨by omega, by omega, by omega, fun m => by
          rcases Nat.lt_or_ge m j.notes.length with h | h
          · exact HP.out m h
          · rw [getD_none h]; simp [zeroN]⟩
        clear HP
        go_wp2
        go_ret
        exact ⟨.inr ⟨(congrArg (fun b => Ending.returned (Value.bool b)) (show (decide (100 < (j.items.length : Int)) || decide (100 < (j.notes.length : Int)) || decide (100 < (j.floats.length : Int))) = false from by simp; omega)), HF.out⟩, bw⟩
theorem large_is (j : J4) (s : S3) (w : World) (hL : Lists w j s) :
    Calls Tryz.prog 5 #[.agg (jobC j s)] w fun e w' => e = .returned (.bool (isB (¬ Few j))) ∧ Below w.heap.size w w' := (large_any j s w hL).mono fun e w' h => by
  obtain ⟨h1, h2⟩ := h
  rcases h1 with ⟨h1, h3⟩ | ⟨h1, h3⟩
  · rw [isB_yes h3]; exact ⟨h1, h2⟩
  · rw [isB_no (fun h => h h3)]; exact ⟨h1, h2⟩
end Go.Proofs.YthcgncgnbjhniaaGreat
namespace Go.Proofs.YthcgncgnbjhniaaGreat
open Go.RowKit
set_option maxRecDepth 20000
set_option linter.unusedVariables false
set_option linter.unusedSimpArgs false

/-- append of a slice that is nil, whatever its capacity. -/
theorem run_append_nil {P : Program} {w : World} {B : Nat} {t ty e : TypeId} {i : TypeInfo} {sz c : Nat} (ht : P.underlying t = some (.slice e)) (hi : P.info? e = some i) {v : Value} {n : Nat} {xs : List Value} (hown : w.ownsRow B e sz v n xs) :
    (Builtin.append_ #[t, t] ty #[v, .slice none 0 c]).run P w = .ok v w := by
  rcases hown.2 with ⟨rfl, rfl⟩ | ⟨g, cap, cur, rfl, _, _, hnc, _⟩
  · simp [Builtin.append_, run_underlying ht, sizeOf, typeInfo, hi, Builtin.lenOf, Builtin.firstCells]
  · simp [Builtin.append_, run_underlying ht, sizeOf, typeInfo, hi, Builtin.lenOf, Builtin.firstCells, hnc, storeCells]
section
variable {α : Type} {sz : Nat} {enc : α → List Value} {w w' : World} {a : Option Addr} {n : Nat} {e : TypeId} {B : Nat}
/-- A slice that is grown by elements that lie where another says, nil or not. -/
theorem run_app4 {P : Program} {t ty : TypeId} {i : TypeInfo} {z : Value} {bytes : Nat} {v : Value} {l m : List α} {d : α} {c : Nat} (ht : P.underlying t = some (.slice e)) (hi : P.info? e = some i) (hz : i.zero = some z) (hs : i.size = sz) (hy : i.bytes = bytes) (hzs : z.cells.size = sz) (hsz : 0 < sz)
    (hlen : ∀ x, (enc x).length = sz) (hone : ∀ x, ∀ u ∈ enc x, u.oneCell' = true) (hown : w.ownsRow B e sz v l.length (l.map enc).flatten) (hr : Els sz enc w a m.length fun k => m.getD k d) (hn : l.length + m.length ≤ maxLen) (hb : (l.length + m.length) * bytes ≤ 140737488355328) (hB : B ≤ w.heap.size) :
    ∃ v' w', (Builtin.append_ #[t, t] ty #[v, .slice a m.length c]).run P w = .ok v' w' ∧ w'.ownsRow B e sz v' (l ++ m).length ((l ++ m).map enc).flatten ∧ w.grownBy w' v.ownBlock := by
  cases a with
  | none =>
    obtain rfl : m = [] := List.eq_nil_of_length_eq_zero (none_nil hr hsz)
    exact ⟨v, w, run_append_nil ht hi hown, by simpa using hown, World.grownBy.refl _ _⟩
  | some ad => exact run_els ht hi hz hs hy hzs hsz hlen hone hown hr hn hb hB (fun h => by cases h)
theorem wpList_app4 {P : Program} {ops : Array Oper} {rest : List Oper} {o : Oper} {act : Act} {Q : Exit → Act → World → Prop} {w0 : World} (hgd : o.guard = none) (s x : Operand) {t : TypeId} (ho : o.op = .call { callee := .builtin .append, args := #[s, x], argTypes := #[t, t] })
    {i : TypeInfo} {z : Value} {bytes : Nat} {v : Value} {l m : List α} {d : α} {c : Nat} (ht : P.underlying t = some (.slice e)) (hi : P.info? e = some i) (hz : i.zero = some z) (hs : i.size = sz) (hy : i.bytes = bytes) (hzs : z.cells.size = sz) (hsz : 0 < sz)
    (hlen : ∀ x, (enc x).length = sz) (hone : ∀ x, ∀ u ∈ enc x, u.oneCell' = true) (hev : act.eval s = v) (hown : w.ownsRow B e sz v l.length (l.map enc).flatten) (hex : act.eval x = .slice a m.length c) (hr : Els sz enc w a m.length fun k => m.getD k d) (hn : l.length + m.length ≤ maxLen) (hby : (l.length + m.length) * bytes ≤ 140737488355328) (hb : Below B w0 w) (hB : B ≤ w.heap.size)
    (h : ∀ v' w', w'.ownsRow B e sz v' (l ++ m).length ((l ++ m).map enc).flatten → Below B w0 w' → wpList P ops Q rest (act.put o.dst v') w') : wpList P ops Q (o :: rest) act w := by
  obtain ⟨v', w', hrun, h2, h3⟩ := run_app4 (c := c) (ty := o.type) ht hi hz hs hy hzs hsz hlen hone hown hr hn hby hB
  refine wpList_plain hgd fun _ hK => ?_
  unfold Oper.wp execOp
  simp only [ho, resolve, invoke, builtin, Sem.run_bind, Sem.run_pure, Result.andThen_ok, List.map_toArray, List.map_cons, List.map_nil, hev, hex, hrun]
  exact hK _ _ (h v' w' h2 (grown_below hown hb h3 hB))
theorem els_new {w : World} {e : TypeId} {enc : α → List Value} (hlen : ∀ x, (enc x).length = sz) (x : α) (d : α) : Els sz enc (w.alloc (.cells (enc x).toArray e)) (some ⟨w.heap.size, 0, none⟩) [x].length fun k => [x].getD k d := fun k j hk hj => by
  obtain rfl : k = 0 := by simp at hk; omega
  have B := blk_new w (enc x).toArray e
  refine ⟨w.heap.size, 0, rfl, B.lt, ?_⟩
  rw [B.cell, Nat.zero_add, Nat.zero_mul, Nat.zero_add, List.getElem?_toArray]
  rfl
theorem take_snoc {l : List α} {k : Nat} (d : α) (hk : k < l.length) : l.take (k + 1) = l.take k ++ [l.getD k d] := by
  rw [List.take_succ_eq_append_getElem hk, List.getD_eq_getElem?_getD, List.getElem?_eq_getElem hk]
  rfl
end
theorem own_five (w : World) (a b c d e : Int) : (w.alloc (.cells #[.int .i64 a, .int .i64 b, .int .i64 c, .int .i64 d, .int .i64 e] 22)).ownsRow w.heap.size 22 1 (.slice (some ⟨w.heap.size, 0, none⟩) 5 5) [a, b, c, d, e].length (([a, b, c, d, e].map encZ).flatten) :=
  ⟨rfl, .inr ⟨w.heap.size, 5, _, rfl, Nat.le_refl _, blk_new w _ 22, by simp, by decide, rfl, rfl⟩⟩
theorem flat_few {l : List N2} (h : ∀ k, (l.getD k zeroN).l.length ≤ 100) : ∀ k, k ≤ l.length → ((l.take k).map (·.l)).flatten.length ≤ 100 * k
  | 0, _ => by simp
  | k + 1, hk => by
    have := flat_few h k (by omega)
    rw [take_snoc zeroN (by omega), List.map_append, List.flatten_append, List.length_append]
    have h2 := h k
    simp only [List.map_cons, List.map_nil, List.flatten_cons, List.flatten_nil, List.append_nil]
    omega
/-- The numbers so far. -/
def NumsOwn (B : Nat) (wr : World) (v : Value) (L : List Int) : Prop := wr.ownsRow B 22 1 v L.length (L.map encZ).flatten
/-- What stands while Fair goes on. -/
def FairI (U wr : World) (L : List Int) (v : Value) : Prop := Old U wr ∧ NumsOwn U.heap.size wr v L
end Go.Proofs.YthcgncgnbjhniaaGreat
namespace Go.Proofs.YthcgncgnbjhniaaGreat
open Go.RowKit
set_option maxRecDepth 20000
set_option linter.unusedVariables false
set_option linter.unusedSimpArgs false

theorem grown_old {A B : World} (h : Below A.heap.size A B) : A.grownBy B none := ⟨h.os, h.tape, h.output, h.size, fun k hk _ => h.block k hk⟩
theorem own_old {w w' : World} {e : TypeId} {sz base : Nat} {v : Value} {k : Nat} {xs : List Value} (h : w.ownsRow base e sz v k xs) (hb : Old w w') : w'.ownsRow base e sz v k xs :=
  h.kept (row := none) (grown_old hb) (by
    rcases h.2 with ⟨rfl, _⟩ | ⟨g, cap, cur, rfl, _⟩
    · exact .inl rfl
    · exact .inr (by simp [Value.ownBlock]))
theorem own_ge {w : World} {B : Nat} {e : TypeId} {sz : Nat} {v : Value} {k : Nat} {xs : List Value} (h : w.ownsRow B e sz v k xs) : ∀ i, some i = v.ownBlock → B ≤ i := by
  intro i e
  rcases h.2 with ⟨rfl, _⟩ | ⟨g, cap, cur, rfl, hb, _⟩
  · simp [Value.ownBlock] at e
  · simp [Value.ownBlock] at e; omega
theorem near_at {M : Nat → Prop} {w x : World} {b i : Nat} {v : Value} (hx : Near M w x) (h : w.cell? ⟨b, i, none⟩ = some v) (hb : ¬ M b) : x.cell? ⟨b, i, none⟩ = some v :=
  (World.cell?_of_block (a := ⟨b, i, none⟩) (hx.block b (World.block_lt_of_cell? _ _ h) hb)).trans h
/-- All blocks of other types stand. -/
structure Chg (T : TypeId) (w w' : World) : Prop where
  size : w.heap.size ≤ w'.heap.size
  block : ∀ k cs T', Blk w k cs T' → T' ≠ T → Blk w' k cs T'
theorem Chg.of_old {T : TypeId} {w w' : World} (h : Old w w') : Chg T w w' := ⟨h.size, fun k cs T' hk _ => hk.old h⟩
theorem Chg.trans {T : TypeId} {a b c : World} (h : Chg T a b) (k : Chg T b c) : Chg T a c := ⟨Nat.le_trans h.size k.size, fun i cs T' hi ht => k.block i cs T' (h.block i cs T' hi ht) ht⟩
theorem Chg.set {w : World} {b : Nat} {cs : Array Value} {T : TypeId} (h : Blk w b cs T) (i : Nat) (v : Value) : Chg T w (w.setCell ⟨b, i, none⟩ v) :=
  ⟨by simp, fun k cs' T' hk ht => hk.other (by
    rintro rfl
    unfold Blk at h hk
    rw [h] at hk
    simp only [Option.some.injEq, Obj.cells.injEq] at hk
    exact ht hk.2.1.symm) i v⟩
theorem Chg.grown {w w' : World} {B : Nat} {T : TypeId} {sz : Nat} {v : Value} {k : Nat} {xs : List Value} (hown : w.ownsRow B T sz v k xs) (hg : w.grownBy w' v.ownBlock) : Chg T w w' := by
  refine ⟨hg.size, fun i cs T' hi ht => (hg.block i hi.lt fun e => ?_).trans hi⟩
  rcases hown.2 with ⟨rfl, _⟩ | ⟨g, cap, cur, rfl, _, h, _⟩
  · simp [Value.ownBlock] at e
  · obtain rfl : g = i := by simpa [Value.ownBlock, eq_comm] using e
    unfold Blk at hi
    rw [h] at hi
    simp only [Option.some.injEq, Obj.cells.injEq] at hi
    exact ht hi.2.1.symm
theorem OwnE.chg {α : Type} {e : TypeId} {sz : Nat} {enc : α → List Value} {B : Nat} {w x : World} {a : Option Addr} {n : Nat} {F : Nat → α} (h : OwnE e sz enc B w a n F) {T : TypeId} (hc : Chg T w x) (hT : e ≠ T) : OwnE e sz enc B x a n F := by
  rcases h with h | ⟨g, cur, h1, h2, h3, h4⟩
  · exact .inl h
  · exact .inr ⟨g, cur, h1, h2, hc.block g cur e h3 hT, h4⟩
section
variable {α : Type} {sz : Nat} {enc : α → List Value} {e : TypeId} {B : Nat}
/-- One element more. -/
theorem app_E {t : TypeId} {i : TypeInfo} {z0 : Value} {bytes : Nat} (ht : Tryz.prog.underlying t = some (.slice e)) (hi : Tryz.prog.info? e = some i) (hz0 : i.zero = some z0) (hs0 : i.size = sz) (hy : i.bytes = bytes) (hzs : z0.cells.size = sz) (hsz : 0 < sz) (hlen : ∀ x, (enc x).length = sz) (hone : ∀ x, ∀ u ∈ enc x, u.oneCell' = true)
    (x z : World) (u : Value) (y : α) {l : List α} (o : Oper) (a : Act) (s r : Operand) (ho : o.op = .call { callee := .builtin .append, args := #[s, r], argTypes := #[t, t] }) (hs : a.eval s = u) (hr : a.eval r = .slice (some ⟨x.heap.size, 0, none⟩) 1 1)
    (hown : (x.alloc (.cells (enc y).toArray e)).ownsRow B e sz u l.length (l.map enc).flatten) (hz : Old (x.alloc (.cells (enc y).toArray e)) z) (hn : l.length + 1 ≤ maxLen) (hby : (l.length + 1) * bytes ≤ 140737488355328) (hB : B ≤ x.heap.size) :
    ∃ v' w', (execOp a.eval o).run Tryz.prog z = .ok (.value v') w' ∧ (w'.ownsRow B e sz v' (l ++ [y]).length ((l ++ [y]).map enc).flatten ∧ Below B z w' ∧ Chg e z w') ∧ Near (fun i => some i = u.ownBlock) z w' := by
  have hzs' := hz.size
  have hown2 := own_old hown hz
  obtain ⟨v', w', h1, h2, h3⟩ := run_app4 (c := 1) (ty := o.type) (m := [y]) ht hi hz0 hs0 hy hzs hsz hlen hone hown2 ((els_new (w := x) (e := e) hlen y y).carry hz) hn hby (by simp at hzs'; omega)
  exact ⟨v', w', exec_append s r ho hs hr h1, ⟨h2, grown_below hown2 (Below.refl _ _) h3 (by simp at hzs'; omega), Chg.grown hown2 h3⟩, ⟨h3.os, h3.tape, h3.output, h3.size, fun i hi hn => h3.block i hi hn⟩⟩
end
theorem run_buildI (x0 x1 x2 x3 x4 x5 x6 : Int) (x : World) : (Instr.buildSlice 25 1 #[(0, .agg #[.int .i64 x0, .int .i64 x1, .int .i64 x2, .int .i64 x3, .int .i64 x4, .int .i64 x5, .int .i64 x6])]).run Tryz.prog x = .ok (.slice (some ⟨x.heap.size, 0, none⟩) 1 1) (x.alloc (.cells #[.int .i64 x0, .int .i64 x1, .int .i64 x2, .int .i64 x3, .int .i64 x4, .int .i64 x5, .int .i64 x6] 46)) := by
  simp [go_sem]
theorem build_I (o : Oper) (a : Act) (y : I7) (s : Operand) (ho : o.op = .buildSlice 25 1 #[(0, s)]) (hs : a.eval s = itm y) (x : World) :
    (execOp a.eval o).run Tryz.prog x = .ok (.value (.slice (some ⟨x.heap.size, 0, none⟩) 1 1)) (x.alloc (.cells (encI y).toArray 46)) := by
  unfold execOp
  unfold itm at hs
  simp only [ho, List.map_toArray, List.map_cons, List.map_nil, hs, Sem.run_bind, run_buildI, Result.andThen_ok, Sem.run_pure]
  rfl
theorem run_buildZ (Z : Int) (x : World) : (Instr.buildSlice 41 1 #[(0, .int .i64 Z)]).run Tryz.prog x = .ok (.slice (some ⟨x.heap.size, 0, none⟩) 1 1) (x.alloc (.cells #[.int .i64 Z] 22)) := by
  simp [go_sem]
theorem build_Z (o : Oper) (a : Act) (Z : Int) (s : Operand) (ho : o.op = .buildSlice 41 1 #[(0, s)]) (hs : a.eval s = .int .i64 Z) (x : World) :
    (execOp a.eval o).run Tryz.prog x = .ok (.value (.slice (some ⟨x.heap.size, 0, none⟩) 1 1)) (x.alloc (.cells (encZ Z).toArray 22)) := by
  unfold execOp
  simp only [ho, List.map_toArray, List.map_cons, List.map_nil, hs, Sem.run_bind, run_buildZ, Result.andThen_ok, Sem.run_pure]
  rfl
/-- What stands while the document's Snap goes on. -/
structure RsS (w V : World) (O : Nat) (j : J4) (s : S3) (jo : J4) (so : S3) : Prop where
  job : JobAt V w.heap.size j s
  room : JobAt V (w.heap.size + 1) zeroJ zeroS4
  out : JobAt V O jo so
  low : w.heap.size + 2 ≤ O
  lt : O < V.heap.size
  bel : Below w.heap.size w V
theorem RsS.step {w V x : World} {O : Nat} {j jo : J4} {s so : S3} (h : RsS w V O j s jo so) (hx : Below (O + 1) V x) : RsS w x O j s jo so := by
  have k : ∀ {b : Nat} {J : J4} {S : S3}, b < O + 1 → JobAt V b J S → JobAt x b J S := fun hb hj => (hx.block _ hb).trans hj
  have := h.low
  exact ⟨k (by omega) h.job, k (by omega) h.room, k (by omega) h.out, h.low, Nat.lt_of_lt_of_le h.lt hx.size, h.bel.trans (hx.mono (by omega))⟩
theorem RsS.old {w V x : World} {O : Nat} {j jo : J4} {s so : S3} (h : RsS w V O j s jo so) (hx : Old V x) : RsS w x O j s jo so := h.step (hx.mono h.lt)
theorem RsS.set {w V : World} {O : Nat} {j jo jo' : J4} {s so so' : S3} (h : RsS w V O j s jo so) (i : Nat) (v : Value) (hj : JobAt (V.setCell ⟨O, i, none⟩ v) O jo' so') : RsS w (V.setCell ⟨O, i, none⟩ v) O j s jo' so' := by
  have := h.low
  exact ⟨h.job.other (by omega) _ _, h.room.other (by omega) _ _, hj, h.low, by simpa using h.lt, h.bel.setCell (p := ⟨O, i, none⟩) (by simp; omega) _⟩
end Go.Proofs.YthcgncgnbjhniaaGreat
namespace Go.Proofs.YthcgncgnbjhniaaGreat
open Go.RowKit
set_option maxRecDepth 20000
set_option linter.unusedVariables false
set_option linter.unusedSimpArgs false

theorem rsnap_none (j : J4) (s : S3) (w : World) (hL : Lists w j s) (hg : j.g.grid < 1) :
    Calls Tryz.prog 16 #[.agg (jobC j s)] w fun e w' => ∃ s', e = .returned (.agg (jobC (snapJ j) s')) ∧ Lists w' (snapJ j) s' ∧ Below w.heap.size w w' := by
  have eJ : snapJ j = j := by unfold snapJ; rw [if_pos hg]
  rw [eJ]
  have C : ClS w ((w.alloc (.cells (jobC j s) 29)).alloc (.cells (jobC zeroJ zeroS4) 29)) j s :=
    ⟨(job_new w j s).old (tbel1 _ _), blk_two w _ _ _, tbel2 w _ _, by simp⟩
  have q5 := C.job.geo.2.2.2.2.2.1
  have HL := Lib.hid hL
  clear hL
  go_enter Tryz.func16, Tryz.ntmps16
  go_upto_region 1 with (fail)
  change Code.wp _ _ _ _ ((w.alloc (.cells (jobC j s) 29)).alloc (.cells (jobC zeroJ zeroS4) 29))
  generalize (w.alloc _).alloc _ = V at *
  go_upto_region 3 with (fail)
  (refine wp_region_plain (Old V) 1 (Below.refl _ V) ?_; simp only [List.take_succ_cons, List.take_zero, List.drop_succ_cons, List.drop_zero])
  (refine Text.val (fun x hx => load_job (.tmp 1) rfl rfl (C.job.old hx)) (by kernel_rfl) ?_; simp only [Act.put, List.getElem_toArray, List.getElem_cons_succ, List.getElem_cons_zero, List.setIfInBounds_toArray, List.set_cons_zero, List.set_cons_succ])
  intro x hx
  refine store_job (j := j) (s := s) rfl (.tmp 2) (.tmp 16) rfl rfl (by kernel_rfl) ((C.old hx).room) ?_
  go_wp2
  refine bodyPost_ret (v := .agg (jobC j s)) ?_ rfl ?_
  · exact results_cell_row Tryz.results16 _ _ _ 29 _ _ _ rfl ((C.old hx).room.row j s) Tryz.underlying29 rfl info29
  · have hb := below_row (C.old hx).bel (show w.heap.size ≤ w.heap.size + 1 by omega) (jobC j s)
    exact ⟨s, rfl, HL.out.carry hb, hb⟩
theorem own_form {w : World} {B : Nat} {e : TypeId} {sz : Nat} {v : Value} {n : Nat} {xs : List Value} (h : w.ownsRow B e sz v n xs) : ∃ a c, v = .slice a n c ∧ n ≤ c ∧ c ≤ maxLen := by
  rcases h.2 with ⟨rfl, h0⟩ | ⟨g, cap, cur, rfl, _, _, h1, h2, _⟩
  · exact ⟨none, 0, by rw [h0], by omega, by decide⟩
  · exact ⟨_, _, rfl, h1, h2⟩
theorem JobAt.newI {w : World} {b : Nat} {j : J4} {s : S3} (h : JobAt w b j s) (l : List I7) (a : Option Addr) (c : Nat) : JobAt (w.setCell ⟨b, 19, none⟩ (.slice a l.length c)) b { j with items := l } { s with ia := a, ic := c } := Blk.set h 19 _
theorem JobAt.newN {w : World} {b : Nat} {j : J4} {s : S3} (h : JobAt w b j s) (l : List N2) (a : Option Addr) (c : Nat) : JobAt (w.setCell ⟨b, 20, none⟩ (.slice a l.length c)) b { j with notes := l } { s with na := a, nc := c } := Blk.set h 20 _
theorem JobAt.newF {w : World} {b : Nat} {j : J4} {s : S3} (h : JobAt w b j s) (l : List F3) (a : Option Addr) (c : Nat) : JobAt (w.setCell ⟨b, 21, none⟩ (.slice a l.length c)) b { j with floats := l } { s with fa := a, fc := c } := Blk.set h 21 _
/-- In the loop over the items. -/
def RsI1 (w wr : World) (O : Nat) (j : J4) (s : S3) (t : Int) (L : List I7) : Prop :=
  ∃ a c, (L.length ≤ c ∧ c ≤ maxLen) ∧ RsS w wr O j s ⟨snapG j.g t, L, [], []⟩ ⟨a, c, none, 0, none, 0⟩ ∧ wr.ownsRow (O + 1) 46 7 (.slice a L.length c) L.length (L.map encI).flatten
theorem wpList_app5 {α : Type} {sz : Nat} {enc : α → List Value} {w : World} {ad : Option Addr} {e : TypeId} {B : Nat} {ops : Array Oper} {rest : List Oper} {o : Oper} {act : Act} {Q : Exit → Act → World → Prop} {w0 : World} (hgd : o.guard = none) (s x : Operand) {t : TypeId} (ho : o.op = .call { callee := .builtin .append, args := #[s, x], argTypes := #[t, t] })
    {i : TypeInfo} {z : Value} {bytes : Nat} {v : Value} {l m : List α} {d : α} {c : Nat} (ht : Tryz.prog.underlying t = some (.slice e)) (hi : Tryz.prog.info? e = some i) (hz : i.zero = some z) (hs : i.size = sz) (hy : i.bytes = bytes) (hzs : z.cells.size = sz) (hsz : 0 < sz)
    (hlen : ∀ x, (enc x).length = sz) (hone : ∀ x, ∀ u ∈ enc x, u.oneCell' = true) (hev : act.eval s = v) (hown : w.ownsRow B e sz v l.length (l.map enc).flatten) (hex : act.eval x = .slice ad m.length c) (hr : Els sz enc w ad m.length fun k => m.getD k d) (hn : l.length + m.length ≤ maxLen) (hby : (l.length + m.length) * bytes ≤ 140737488355328) (hb : Below B w0 w) (hB : B ≤ w.heap.size)
    (h : ∀ v' w', w'.ownsRow B e sz v' (l ++ m).length ((l ++ m).map enc).flatten → Below B w0 w' → Chg e w w' → wpList Tryz.prog ops Q rest (act.put o.dst v') w') : wpList Tryz.prog ops Q (o :: rest) act w := by
  obtain ⟨v', w', hrun, h2, h3⟩ := run_app4 (c := c) (ty := o.type) ht hi hz hs hy hzs hsz hlen hone hown hr hn hby hB
  refine wpList_plain hgd fun _ hK => ?_
  unfold Oper.wp execOp
  simp only [ho, resolve, invoke, builtin, Sem.run_bind, Sem.run_pure, Result.andThen_ok, List.map_toArray, List.map_cons, List.map_nil, hev, hex, hrun]
  exact hK _ _ (h v' w' h2 (grown_below hown hb h3 hB) (Chg.grown hown h3))
/-- A note that the document's Snap made: lines of its own, the penalties that were. -/
def NoteR (B : Nat) (wr : World) (h h0 : H2) (n : N2) : Prop := h.ll = n.l.length ∧ (h.ll ≤ h.lc ∧ h.lc ≤ maxLen) ∧ (OwnE 22 1 encZ B wr h.la n.l.length fun k => n.l.getD k 0) ∧ h.pa = h0.pa ∧ h.pl = h0.pl ∧ h.pc = h0.pc
theorem NoteR.chg {B : Nat} {w x : World} {h h0 : H2} {n : N2} (H : NoteR B w h h0 n) {T : TypeId} (hc : Chg T w x) (hT : (22 : TypeId) ≠ T) : NoteR B x h h0 n := ⟨H.1, H.2.1, H.2.2.1.chg hc hT, H.2.2.2⟩
theorem NoteR.old {B : Nat} {w x : World} {h h0 : H2} {n : N2} (H : NoteR B w h h0 n) (hx : Old w x) : NoteR B x h h0 n := ⟨H.1, H.2.1, H.2.2.1.old hx, H.2.2.2⟩
/-- In the loop over the notes: IT the items, hd the headers so far. -/
def RsI2 (w wr : World) (O : Nat) (j : J4) (s : S3) (t : Int) (IT : List I7) (hs0 : Nat → H2) (L : List N2) : Prop :=
  ∃ (ia : Option Addr) (ic : Nat) (a : Option Addr) (c : Nat) (hd : List H2), ((IT.length ≤ ic ∧ ic ≤ maxLen) ∧ L.length ≤ c ∧ c ≤ maxLen) ∧ RsS w wr O j s ⟨snapG j.g t, IT, L, []⟩ ⟨ia, ic, a, c, none, 0⟩ ∧ (OwnE 46 7 encI (O + 1) wr ia IT.length fun k => IT.getD k zeroI) ∧ hd.length = L.length ∧ wr.ownsRow (O + 1) 44 2 (.slice a L.length c) hd.length (hd.map encH).flatten ∧ ∀ i, i < L.length → NoteR (O + 1) wr (hd.getD i zeroH) (hs0 i) (L.getD i zeroN)
/-- In the loop over the lines of a note: the note lies in block q. -/
def RsI4 (V wx : World) (q : Nat) (pv : Value) (L : List Int) : Prop :=
  ∃ (a : Option Addr) (c : Nat), (L.length ≤ c ∧ c ≤ maxLen) ∧ Old V wx ∧ Blk wx q #[.slice a L.length c, pv] 44 ∧ wx.ownsRow (q + 1) 22 1 (.slice a L.length c) L.length (L.map encZ).flatten
theorem wpl_val {P : Program} {ops : Array Oper} {rest : List Oper} {o : Oper} {a : Act} {w w' : World} {Q : Exit → Act → World → Prop} {v : Value} (hgd : o.guard = none) (he : (execOp a.eval o).run P w = .ok (.value v) w') (hk : wpList P ops Q rest (a.put o.dst v) w') : wpList P ops Q (o :: rest) a w :=
  wpList_plain hgd fun K hK => by
    unfold Oper.wp
    rw [he]
    exact hK _ _ hk
theorem run_buildH (a : Option Addr) (n c : Nat) (a' : Option Addr) (n' c' : Nat) (x : World) : (Instr.buildSlice 26 1 #[(0, .agg #[.slice a n c, .slice a' n' c'])]).run Tryz.prog x = .ok (.slice (some ⟨x.heap.size, 0, none⟩) 1 1) (x.alloc (.cells #[.slice a n c, .slice a' n' c'] 44)) := by
  simp [go_sem]
theorem build_H (o : Oper) (act : Act) (h : H2) (s : Operand) (ho : o.op = .buildSlice 26 1 #[(0, s)]) (hs : act.eval s = .agg #[.slice h.la h.ll h.lc, .slice h.pa h.pl h.pc]) (x : World) :
    (execOp act.eval o).run Tryz.prog x = .ok (.value (.slice (some ⟨x.heap.size, 0, none⟩) 1 1)) (x.alloc (.cells (encH h).toArray 44)) := by
  unfold execOp
  simp only [ho, List.map_toArray, List.map_cons, List.map_nil, hs, Sem.run_bind, run_buildH, Result.andThen_ok, Sem.run_pure]
  rfl
theorem run_buildF (c h p : Int) (x : World) : (Instr.buildSlice 27 1 #[(0, .agg #[.int .i64 c, .int .i64 h, .int .i64 p])]).run Tryz.prog x = .ok (.slice (some ⟨x.heap.size, 0, none⟩) 1 1) (x.alloc (.cells #[.int .i64 c, .int .i64 h, .int .i64 p] 48)) := by
  simp [go_sem]
theorem build_F (o : Oper) (act : Act) (f : F3) (s : Operand) (ho : o.op = .buildSlice 27 1 #[(0, s)]) (hs : act.eval s = .agg #[.int .i64 f.c, .int .i64 f.h, .int .i64 f.p]) (x : World) :
    (execOp act.eval o).run Tryz.prog x = .ok (.value (.slice (some ⟨x.heap.size, 0, none⟩) 1 1)) (x.alloc (.cells (encF f).toArray 48)) := by
  unfold execOp
  simp only [ho, List.map_toArray, List.map_cons, List.map_nil, hs, Sem.run_bind, run_buildF, Result.andThen_ok, Sem.run_pure]
  rfl
theorem getD_app_lt {α : Type} {l : List α} {x d : α} {i : Nat} (h : i < l.length) : (l ++ [x]).getD i d = l.getD i d := by
  rw [List.getD_eq_getElem?_getD, List.getD_eq_getElem?_getD, List.getElem?_append_left h]
theorem getD_app_eq {α : Type} {l : List α} {x d : α} {i : Nat} (h : i = l.length) : (l ++ [x]).getD i d = x := by
  subst h
  rw [List.getD_eq_getElem?_getD, List.getElem?_append_right (Nat.le_refl _), Nat.sub_self]
  rfl
theorem NoteR.other {B : Nat} {w : World} {h h0 : H2} {n : N2} (H : NoteR B w h h0 n) {b : Nat} (hb : b < B) (i : Nat) (v : Value) : NoteR B (w.setCell ⟨b, i, none⟩ v) h h0 n := ⟨H.1, H.2.1, H.2.2.1.other hb i v, H.2.2.2⟩
/-- In the loop over the floats: IT the items, NT the notes. -/
def RsI3 (w wr : World) (O : Nat) (j : J4) (s : S3) (t : Int) (IT : List I7) (NT : List N2) (hs0 : Nat → H2) (L : List F3) : Prop :=
  ∃ (ia : Option Addr) (ic : Nat) (na : Option Addr) (nc : Nat) (a : Option Addr) (c : Nat) (hs : Nat → H2), ((IT.length ≤ ic ∧ ic ≤ maxLen) ∧ (NT.length ≤ nc ∧ nc ≤ maxLen) ∧ L.length ≤ c ∧ c ≤ maxLen) ∧ RsS w wr O j s ⟨snapG j.g t, IT, NT, L⟩ ⟨ia, ic, na, nc, a, c⟩ ∧ (OwnE 46 7 encI (O + 1) wr ia IT.length fun k => IT.getD k zeroI) ∧ OwnE 44 2 encH (O + 1) wr na NT.length hs ∧ (∀ i, i < NT.length → NoteR (O + 1) wr (hs i) (hs0 i) (NT.getD i zeroN)) ∧ wr.ownsRow (O + 1) 48 3 (.slice a L.length c) L.length (L.map encF).flatten
theorem RsI3_step {w wr w5 : World} {O : Nat} {j : J4} {s : S3} {t : Int} {IT : List I7} {NT : List N2} {hs0 hs : Nat → H2} {L : List F3} {y : F3} {ia na a a5 : Option Addr} {ic nc c c5 : Nat} (c1 : IT.length ≤ ic ∧ ic ≤ maxLen) (c2 : NT.length ≤ nc ∧ nc ≤ maxLen) (c3 : (L ++ [y]).length ≤ c5 ∧ c5 ≤ maxLen)
    (R5 : RsS w w5 O j s ⟨snapG j.g t, IT, NT, L⟩ ⟨ia, ic, na, nc, a, c⟩) (hI : OwnE 46 7 encI (O + 1) wr ia IT.length fun k => IT.getD k zeroI) (hH : OwnE 44 2 encH (O + 1) wr na NT.length hs) (hN : ∀ i, i < NT.length → NoteR (O + 1) wr (hs i) (hs0 i) (NT.getD i zeroN)) (hc : Chg 48 wr w5)
    (hown : w5.ownsRow (O + 1) 48 3 (.slice a5 (L ++ [y]).length c5) (L ++ [y]).length ((L ++ [y]).map encF).flatten) : RsI3 w (w5.setCell ⟨O, 21, none⟩ (.slice a5 (L ++ [y]).length c5)) O j s t IT NT hs0 (L ++ [y]) := by
  have hO : O < O + 1 := Nat.lt_succ_self O
  have h1 := (hI.chg hc (by decide)).other hO 21 (.slice a5 (L ++ [y]).length c5)
  have h2 := (hH.chg hc (by decide)).other hO 21 (.slice a5 (L ++ [y]).length c5)
  have h3 := fun i hi => ((hN i hi).chg hc (by decide)).other hO 21 (.slice a5 (L ++ [y]).length c5)
  have h4 := R5.out.newF (L ++ [y]) a5 c5
  have h5 := R5.set 21 _ h4
  have h6 := ownsRow_setCell_below hown (a := ⟨O, 21, none⟩) hO (.slice a5 (L ++ [y]).length c5)
  exact ⟨ia, ic, na, nc, a5, c5, hs, ⟨c1, c2, c3⟩, h5, h1, h2, h3, h6⟩
set_option maxHeartbeats 8000000 in
theorem rsnap_any (j : J4) (s : S3) (w : World) (hL : Lists w j s) (hf : Few j) :
    Calls Tryz.prog 16 #[.agg (jobC j s)] w fun e w' => ∃ s', e = .returned (.agg (jobC (snapJ j) s')) ∧ Lists w' (snapJ j) s' ∧ Below w.heap.size w w' := by
  by_cases hg : j.g.grid < 1
  · exact rsnap_none j s w hL hg
  have hmx : 1000002 ≤ maxLen := by decide
  obtain ⟨i0, hi, hz0, hz1, hz2⟩ := info_parts infoI7
  obtain ⟨i1, hj, hj0, hj1, hj2⟩ := info_parts infoZ22
  obtain ⟨i8, hki, hk0, hk1, hk2⟩ := info_parts infoH2
  obtain ⟨i9, hfi, hf0, hf1, hf2⟩ := info_parts infoF3
  have hin := Lib.hid hL.ins
  obtain ⟨f1, f2, f3, f4⟩ := hf
  obtain ⟨⟨_, _, _, i3, i4, i5, i6, i7, _⟩, _⟩ := hL.ins
  have C : ClS w ((w.alloc (.cells (jobC j s) 29)).alloc (.cells (jobC zeroJ zeroS4) 29)) j s :=
    ⟨(job_new w j s).old (tbel1 _ _), blk_two w _ _ _, tbel2 w _ _, by simp⟩
  have q5 := C.job.geo.2.2.2.2.2.1
  have HL := Lib.hid hL
  have eJ : Hid (snapJ j = ⟨snapG j.g j.g.grid, j.items.map (snapI j.g.grid), j.notes.map (snapN j.g.grid), j.floats.map (snapF j.g.grid)⟩) := Lib.hid (by unfold snapJ; rw [if_neg hg])
  clear hL
  obtain ⟨t, ht⟩ : ∃ t, t = j.g.grid := ⟨_, rfl⟩
  rw [← ht] at hg i5 q5 eJ
  have HT := Lib.hid ht
  clear ht
  go_enter Tryz.func16, Tryz.ntmps16
  go_upto_region 1 with (fail)
  change Code.wp _ _ _ _ ((w.alloc (.cells (jobC j s) 29)).alloc (.cells (jobC zeroJ zeroS4) 29))
  generalize (w.alloc _).alloc _ = V at *
  go_upto_region 4 with (fail)
  (refine wp_region_plain (Old V) 2 (Below.refl _ V) ?_; simp only [List.take_succ_cons, List.take_zero, List.drop_succ_cons, List.drop_zero])
  repeat (first | (apply Text.sees (hw := by kernel_rfl); (focus (intro x hx K hK; have hc := (fun _ _ => trivial) x hx; go_simp; exact hK)); simp only [Act.put, List.getElem_toArray, List.getElem_cons_succ, List.getElem_cons_zero, List.setIfInBounds_toArray, List.set_cons_zero, List.set_cons_succ]) | (apply Text.idle; (focus (intro x hx K hK; go_simp; exact hK)); simp only [Act.put, List.getElem_toArray, List.getElem_cons_succ, List.getElem_cons_zero, List.setIfInBounds_toArray, List.set_cons_zero, List.set_cons_succ]))
  (refine Text.val (fun x hx => load_jgeo (.tmp 17) rfl rfl (C.job.old hx)) (by kernel_rfl) ?_; simp only [Act.put, List.getElem_toArray, List.getElem_cons_succ, List.getElem_cons_zero, List.setIfInBounds_toArray, List.set_cons_zero, List.set_cons_succ])
  intro x hx
  refine wpList_build rfl 29 _ rfl (by kernel_rfl) ?_
  refine make_job (j := ⟨j.g, [], [], []⟩) (s := zeroS4) rfl rfl rfl (.tmp 4) (.tmp 19) rfl rfl (by kernel_rfl) ?_
  replace C := C.old hx
  have R : RsS w (x.alloc (.cells (jobC ⟨j.g, [], [], []⟩ zeroS4) 29)) x.heap.size j s ⟨j.g, [], [], []⟩ zeroS4 :=
    ⟨C.job.old (tbel1 _ _), C.room.old (tbel1 _ _), job_new x _ _, C.size, by simp, tstep C.bel (tbel1 x _) C.bel.size⟩
  clear C hx q5
  simp only [Act.put, List.getElem_toArray, List.getElem_cons_succ, List.getElem_cons_zero, List.setIfInBounds_toArray, List.set_cons_zero, List.set_cons_succ]
  go_upto_region 5 with (fail)
  generalize x.heap.size = O at *
  generalize x.alloc _ = V1 at *
  have qs := R.job.geo.2.2.2.1
  go_wp2_with fail
  refine (rgdown_any j.g.high t _ i3 i5).mono ?_
  rintro e w1 ⟨rfl, b1⟩
  clear qs
  replace R := R.old b1
  have fs := Blk.free R.out 3
  have cs := R.out.geo.2.2.2.1
  dsimp only at cs
  go_upto_region 6 with (fail)
  replace R := R.set 3 _ (R.out.high (downZ j.g.high t))
  clear fs cs b1
  generalize w1.setCell _ _ = V2 at *
  clear w1
  have qs := R.job.geo.2.2.2.2.1
  go_wp2_with fail
  refine (rgdown_any j.g.first t _ i4 i5).mono ?_
  rintro e w1 ⟨rfl, b1⟩
  clear qs
  replace R := R.old b1
  have fs := Blk.free R.out 4
  have cs := R.out.geo.2.2.2.2.1
  dsimp only at cs
  go_upto_region 7 with (fail)
  replace R := R.set 4 _ (R.out.first (downZ j.g.first t))
  clear fs cs b1
  generalize w1.setCell _ _ = V3 at *
  clear w1
  have qs := R.job.geo.2.2.2.2.2.2.1
  go_wp2_with fail
  refine (rgup_any j.g.rule t _ i6 i5).mono ?_
  rintro e w1 ⟨rfl, b1⟩
  clear qs
  replace R := R.old b1
  have fs := Blk.free R.out 6
  have cs := R.out.geo.2.2.2.2.2.2.1
  dsimp only at cs
  go_upto_region 8 with (fail)
  replace R := R.set 6 _ (R.out.rule (upZ j.g.rule t))
  clear fs cs b1
  generalize w1.setCell _ _ = V4 at *
  clear w1
  have qs := R.job.geo.2.2.2.2.2.2.2.1
  go_wp2_with fail
  refine (rgup_any j.g.sep t _ i7 i5).mono ?_
  rintro e w1 ⟨rfl, b1⟩
  clear qs
  replace R := R.old b1
  have fs := Blk.free R.out 7
  have cs := R.out.geo.2.2.2.2.2.2.2.1
  dsimp only at cs
  go_upto_region 9 with (fail)
  replace R := R.set 7 _ (R.out.sep (upZ j.g.sep t))
  clear fs cs b1
  generalize w1.setCell _ _ = V5 at *
  clear w1
  replace R : RsS w V5 O j s ⟨snapG j.g t, [], [], []⟩ zeroS4 := R
  obtain ⟨t19, t20, t21⟩ := R.job.three
  go_wp2_with fail
  have hO0 : w.heap.size + 2 ≤ O := R.low
  have HO1 : Hid (RsI1 w V5 O j s t ((j.items.take 0).map (snapI t))) := Lib.hid ⟨none, 0, ⟨Nat.le_refl _, by decide⟩, R, World.ownsRow_nil _ _ _ _⟩
  clear R t19 t20 t21
  go_loopw [5] (fun i wr => ∃ (k : Nat), k ≤ j.items.length ∧ i = .int .i64 k ∧ Hid (RsI1 w wr O j s t ((j.items.take k).map (snapI t)))) (fun i _ => j.items.length - (intOf i).toNat)
  case atStart => exact ⟨0, Nat.zero_le _, rfl, HO1⟩
  case round =>
    clear HO1
    obtain ⟨k, hk, rfl, HI⟩ := hrel
    obtain ⟨a, c, hcc, R, hown⟩ := HI.out
    obtain ⟨t19, t20, t21⟩ := R.job.three
    by_cases hlt : k < j.items.length
    · obtain ⟨b, off, hia, hB, p0, p1, p2, p3, p4, p5, p6⟩ := els7 HL.out.items hlt
      have hx := (hin.out.2.1 k).2.1
      have HS : Hid ((j.items.take k).map (snapI t) ++ [snapI t (j.items.getD k zeroI)] = (j.items.take (k + 1)).map (snapI t)) := Lib.hid (by rw [take_snoc zeroI hlt, List.map_append]; rfl)
      have hlen : ((j.items.take k).map (snapI t)).length ≤ 100 := by simp only [List.length_map, List.length_take]; omega
      obtain ⟨o19, _, _⟩ := R.out.three
      dsimp only at o19
      rw [hia] at t19
      have hlow := R.low
      have hltV := R.lt
      have pc : ∀ {i : Nat} {v : Value}, w.cell? ⟨b, i, none⟩ = some v → wr.cell? ⟨b, i, none⟩ = some v := fun h => (R.bel.cell hB).trans h
      have c1 := fun x => ritem_any (j.items.getD k zeroI) t x hx i5
      have HR := Lib.hid R
      clear HI hia hx R
      generalize (j.items.take k).map (snapI t) = L at *
      generalize j.items.getD k zeroI = x at *
      unfold itm at c1
      obtain ⟨y, hy⟩ : ∃ y, y = snapI t x := ⟨_, rfl⟩
      rw [← hy] at c1 HS
      have hub := own_ge hown
      have CE := Lib.hid fun z (hz : Near (fun i => some i = (Value.slice a L.length c).ownBlock) wr z) =>
        And.intro (near_at hz o19 (fun e => by have := hub _ e; omega)) (And.intro (near_at hz t19 (fun e => by have := hub _ e; omega)) (And.intro (near_at hz (pc p0) (fun e => by have := hub _ e; omega)) (And.intro (near_at hz (pc p1) (fun e => by have := hub _ e; omega)) (And.intro (near_at hz (pc p2) (fun e => by have := hub _ e; omega)) (And.intro (near_at hz (pc p3) (fun e => by have := hub _ e; omega)) (And.intro (near_at hz (pc p4) (fun e => by have := hub _ e; omega)) (And.intro (near_at hz (pc p5) (fun e => by have := hub _ e; omega)) (near_at hz (pc p6) (fun e => by have := hub _ e; omega)))))))))
      go_upto_region 12 with (fail)
      clear p0 p1 p2 p3 p4 p5 p6 o19 t19 t20 t21 pc hy
      (refine wp_region_planU 12 [(0, true), (1, true), (2, true), (3, true), (4, true), (5, true), (6, true), (7, true), (8, true), (9, false), (10, false), (11, true)] (fun i => some i = (Value.slice a L.length c).ownBlock) (by kernel_rfl) (by kernel_rfl) ?_; simp only [pick, List.getElem?_cons_succ, List.getElem?_cons_zero, List.drop_succ_cons, List.drop_zero])
      repeat (first | (apply TextU.sees (hw := by kernel_rfl); (focus (intro x hx K hK; have hc := CE.out x hx; go_simp; exact hK)); simp only [Act.put, List.getElem_toArray, List.getElem_cons_succ, List.getElem_cons_zero, List.setIfInBounds_toArray, List.set_cons_zero, List.set_cons_succ]) | (apply TextU.idle; (focus (intro x hx K hK; go_simp; exact hK)); simp only [Act.put, List.getElem_toArray, List.getElem_cons_succ, List.getElem_cons_zero, List.setIfInBounds_toArray, List.set_cons_zero, List.set_cons_succ]))
      (refine TextU.call (fun x _ => c1 x) (by kernel_rfl) (fun _ => by kernel_rfl) ?_; simp only [Act.put, List.getElem_toArray, List.getElem_cons_succ, List.getElem_cons_zero, List.setIfInBounds_toArray, List.set_cons_zero, List.set_cons_succ])
      (refine TextU.loudv (fun i => some i = (Value.slice a L.length c).ownBlock) (V := fun v z => ∃ x, Old wr x ∧ v = .slice (some ⟨x.heap.size, 0, none⟩) 1 1 ∧ z = x.alloc (.cells (encI y).toArray 46)) (fun _ h => h) (fun x hx => ⟨_, _, build_I _ _ y (.tmp 63) rfl rfl x, ⟨x, hx, rfl, rfl⟩, Near.of (tbel1 x _)⟩) (by kernel_rfl) (fun v2 y2 hv2 _ => ?_); simp only [Act.put, List.getElem_toArray, List.getElem_cons_succ, List.getElem_cons_zero, List.setIfInBounds_toArray, List.set_cons_zero, List.set_cons_succ])
      obtain ⟨x1, hx1, rfl, rfl⟩ := hv2
      have hx1s := hx1.size
      (refine TextU.loudv (fun _ => False) (V := fun v w' => ∃ z, Old (x1.alloc (.cells (encI y).toArray 46)) z ∧ (w'.ownsRow (O + 1) 46 7 v (L ++ [y]).length ((L ++ [y]).map encI).flatten ∧ Below (O + 1) z w' ∧ Chg 46 z w')) (fun _ h => h.elim) (fun z hz => (app_E Tryz.underlying25 hi hz0 hz1 hz2 rfl (by decide) encI_len encI_one x1 z _ y _ _ (.tmp 56) (.tmp 64) rfl rfl rfl ((own_old hown hx1).alloc _) hz (by omega) (by omega) (by omega)).imp fun v' => fun ⟨w', e1, e2, e3⟩ => ⟨w', e1, ⟨z, hz, e2⟩, e3⟩) (by kernel_rfl) (fun v3 w4 hv3 _ => ?_); simp only [Act.put, List.getElem_toArray, List.getElem_cons_succ, List.getElem_cons_zero, List.setIfInBounds_toArray, List.set_cons_zero, List.set_cons_succ])
      obtain ⟨z, hz3, hown', hb3, hc3⟩ := hv3
      repeat (first | (apply TextU.sees (hw := by kernel_rfl); (focus (intro x hx K hK; have hc := (fun _ _ => trivial) x hx; go_simp; exact hK)); simp only [Act.put, List.getElem_toArray, List.getElem_cons_succ, List.getElem_cons_zero, List.setIfInBounds_toArray, List.set_cons_zero, List.set_cons_succ]) | (apply TextU.idle; (focus (intro x hx K hK; go_simp; exact hK)); simp only [Act.put, List.getElem_toArray, List.getElem_cons_succ, List.getElem_cons_zero, List.setIfInBounds_toArray, List.set_cons_zero, List.set_cons_succ]))
      apply TextU.done
      intro z2 hz2
      obtain ⟨a', c', rfl, hc1', hc2'⟩ := own_form hown'
      have hs3 := hz3.size
      have hs4 := hb3.size
      simp only [World.size_alloc] at hs3
      have bz : Below (O + 1) wr z2 := ((((hx1.mono (by omega)).alloc (by omega) (.cells (encI y).toArray 46)).trans (hz3.mono (by simp; omega))).trans hb3).trans (hz2.mono (by omega))
      have R2 := HR.out.step bz
      have f19 := Blk.free R2.out 19
      obtain ⟨o19, _, _⟩ := R2.out.three
      dsimp only at o19
      have HN : Hid (RsI1 w (z2.setCell ⟨O, 19, none⟩ (.slice a' (L ++ [y]).length c')) O j s t (L ++ [y])) := Lib.hid ⟨a', c', ⟨hc1', hc2'⟩, R2.set 19 _ (R2.out.newI (L ++ [y]) a' c'), ownsRow_setCell_below (own_old hown' hz2) (by simp) _⟩
      clear CE hown hown' hz2 hb3 hc3 hz3 hx1 bz R2 HR hub
      go_wp2
      go_roundw
      case rel =>
        refine ⟨k + 1, by omega, by go_num, ?_⟩
        rw [show L.length + 1 = (L ++ [y]).length by simp, ← HS.out]
        exact HN
      case measure => simp [intOf]; omega
    · obtain rfl : k = j.items.length := by omega
      rw [List.take_length] at HI
      obtain ⟨IT, hIT⟩ : ∃ IT, IT = j.items.map (snapI t) := ⟨_, rfl⟩
      rw [← hIT] at HI
      have lIT : IT.length = j.items.length := by rw [hIT]; simp
      have HIT := Lib.hid hIT
      clear hk hlt a c hcc R hown t19 t20 t21 hIT
      obtain ⟨hs0, hH0, hN0⟩ := HL.out.notes
      obtain ⟨a, c, hcc, R, hown⟩ := HI.out
      have HO2 : Hid (RsI2 w wr O j s t IT hs0 ((j.notes.take 0).map (snapN t))) := Lib.hid (by
        obtain ⟨a', c', e, _, _, hO⟩ := own_of (d := zeroI) hown encI_len
        cases e
        exact ⟨a, c, none, 0, [], ⟨hcc, Nat.le_refl _, by decide⟩, R, hO, rfl, World.ownsRow_nil _ _ _ _, fun i hi => by simp at hi⟩)
      obtain ⟨t19, t20, t21⟩ := R.job.three
      clear hown HI
      go_wp2_with fail
      clear R t19 t20 t21 hcc a c
      go_loopw [6] (fun i wr => ∃ (k : Nat), k ≤ j.notes.length ∧ i = .int .i64 k ∧ Hid (RsI2 w wr O j s t IT hs0 ((j.notes.take k).map (snapN t)))) (fun i _ => j.notes.length - (intOf i).toNat)
      case atStart => exact ⟨0, Nat.zero_le _, rfl, HO2⟩
      case round =>
        clear HO2
        obtain ⟨k, hk, rfl, HI⟩ := hrel
        have R : JobAt wr w.heap.size j s := by
          obtain ⟨_, _, _, _, _, _, R, _⟩ := HI.out
          exact R.job
        obtain ⟨t19, t20, t21⟩ := R.three
        clear R
        by_cases hlt : k < j.notes.length
        · obtain ⟨ia, ic, a, c, hd, hcc, R, hI, hhd, hown, hNR⟩ := HI.out
          obtain ⟨b, off, hna, hB, p0, p1⟩ := els2 hH0 hlt
          obtain ⟨n1, n2, n3, n4, n5, n6⟩ := hN0 k hlt
          rw [n1] at p0 n3
          have r1 := (R.bel.cell (p := ⟨b, off + k * 2 + 1, none⟩) hB).trans p1
          rw [hna] at t20
          have hlt1 := R.lt
          have hlen : ((j.notes.take k).map (snapN t)).length ≤ 100 := by simp only [List.length_map, List.length_take]; omega
          have HS : Hid ((j.notes.take k).map (snapN t) ++ [snapN t (j.notes.getD k zeroN)] = (j.notes.take (k + 1)).map (snapN t)) := Lib.hid (by rw [take_snoc zeroN hlt, List.map_append]; rfl)
          have hln := (f4 k).1
          have hLk : Hid (((j.notes.take k).map (snapN t)).length = k) := Lib.hid (by simp only [List.length_map, List.length_take]; omega)
          have HR := Lib.hid (And.intro hcc (And.intro R (And.intro hI (And.intro hhd (And.intro hown hNR)))))
          have HN5 := Lib.hid n5
          obtain ⟨V, hV⟩ : ∃ V, V = wr := ⟨_, rfl⟩
          subst hV
          clear HI hI hhd hown hNR hcc n1 n2 n4 n5 n6
          generalize (j.notes.take k).map (snapN t) = L at *
          generalize j.notes.getD k zeroN = N at *
          obtain ⟨h0, eh0⟩ : ∃ h0, h0 = hs0 k := ⟨_, rfl⟩
          rw [← eh0] at p0 p1 n3 HN5 r1
          have HH0 := Lib.hid eh0
          clear eh0
          go_upto_region 17 with (fail)
          have HQ : Hid (RsI4 V (V.alloc (.cells #[.slice none 0 0, .slice h0.pa h0.pl h0.pc] 44)) V.heap.size (.slice h0.pa h0.pl h0.pc) ((N.l.take 0).map fun x => upZ x t)) := Lib.hid ⟨none, 0, ⟨Nat.le_refl _, by decide⟩, tbel1 V _, blk_new V _ 44, World.ownsRow_nil _ _ _ _⟩
          generalize V.alloc _ = V1 at *
          clear r1 t19 t20 t21
          go_wp2_with fail
          go_loopw [8] (fun i wr => ∃ (m : Nat), m ≤ N.l.length ∧ i = .int .i64 m ∧ Hid (RsI4 V wr V.heap.size (.slice h0.pa h0.pl h0.pc) ((N.l.take m).map fun x => upZ x t))) (fun i _ => N.l.length - (intOf i).toNat)
          case atStart => exact ⟨0, Nat.zero_le _, rfl, HQ⟩
          case round =>
            clear HQ R
            obtain ⟨m, hm, rfl, HJ⟩ := hrel
            obtain ⟨a4, c4, hcc4, hold, hBq, hown4⟩ := HJ.out
            have Rx := HR.out.2.1.old hold
            obtain ⟨t19, t20, t21⟩ := Rx.job.three
            rw [hna] at t20
            have r0 := (Rx.bel.cell (p := ⟨b, off + k * 2, none⟩) hB).trans p0
            have hlow := Rx.low
            have hqlt := hBq.lt
            have hvs := hold.size
            by_cases hlm : m < N.l.length
            · obtain ⟨hin5, b2, o2, hla, hB2, hc2⟩ := HN5.out m hlm
              have r2 := (Rx.bel.cell (p := ⟨b2, o2 + m, none⟩) hB2).trans hc2
              rw [hla] at r0
              have HS4 : Hid ((N.l.take m).map (fun x => upZ x t) ++ [upZ (N.l.getD m 0) t] = (N.l.take (m + 1)).map (fun x => upZ x t)) := Lib.hid (by rw [take_snoc 0 hlm, List.map_append]; rfl)
              have hlen4 : ((N.l.take m).map (fun x => upZ x t)).length ≤ 100 := by simp only [List.length_map, List.length_take]; omega
              have q0 := hBq.cell 0
              simp only [List.getElem?_toArray, List.getElem?_cons_zero] at q0
              have hub := own_ge hown4
              have c1 := fun z => rgup_any (N.l.getD m 0) t z hin5 i5
              clear HJ hla hc2
              generalize (N.l.take m).map (fun x => upZ x t) = L4 at *
              generalize N.l.getD m 0 = x4 at *
              generalize upZ x4 t = y4 at *
              have CE := Lib.hid fun z (hz : Near (fun i => some i = (Value.slice a4 L4.length c4).ownBlock) wr z) =>
                And.intro (near_at hz q0 (fun e => by have := hub _ e; omega)) (And.intro (near_at hz t20 (fun e => by have := hub _ e; omega)) (And.intro (near_at hz r0 (fun e => by have := hub _ e; omega)) (And.intro (near_at hz r2 (fun e => by have := hub _ e; omega)) (And.intro hlt (And.intro (Nat.not_le.2 hlt) (And.intro hlm (Nat.not_le.2 hlm)))))))
              go_upto_region 20 with (fail)
              clear t19 t20 t21 r0 r2 q0
              (refine wp_region_planU 16 [(0, true), (1, true), (2, true), (3, true), (4, true), (5, true), (6, true), (7, true), (8, true), (9, true), (10, true), (11, true), (12, true), (13, false), (14, false), (15, true)] (fun i => some i = (Value.slice a4 L4.length c4).ownBlock) (by kernel_rfl) (by kernel_rfl) ?_; simp only [pick, List.getElem?_cons_succ, List.getElem?_cons_zero, List.drop_succ_cons, List.drop_zero])
              repeat (first | (apply TextU.sees (hw := by kernel_rfl); (focus (intro x hx K hK; have hc := CE.out x hx; go_simp; exact hK)); simp only [Act.put, List.getElem_toArray, List.getElem_cons_succ, List.getElem_cons_zero, List.setIfInBounds_toArray, List.set_cons_zero, List.set_cons_succ]) | (apply TextU.idle; (focus (intro x hx K hK; go_simp; exact hK)); simp only [Act.put, List.getElem_toArray, List.getElem_cons_succ, List.getElem_cons_zero, List.setIfInBounds_toArray, List.set_cons_zero, List.set_cons_succ]))
              (refine TextU.call (fun z _ => c1 z) (by kernel_rfl) (fun _ => by kernel_rfl) ?_; simp only [Act.put, List.getElem_toArray, List.getElem_cons_succ, List.getElem_cons_zero, List.setIfInBounds_toArray, List.set_cons_zero, List.set_cons_succ])
              (refine TextU.loudv (fun i => some i = (Value.slice a4 L4.length c4).ownBlock) (V := fun v z => ∃ x, Old wr x ∧ v = .slice (some ⟨x.heap.size, 0, none⟩) 1 1 ∧ z = x.alloc (.cells (encZ y4).toArray 22)) (fun _ h => h) (fun x hx => ⟨_, _, build_Z _ _ y4 (.tmp 104) rfl rfl x, ⟨x, hx, rfl, rfl⟩, Near.of (tbel1 x _)⟩) (by kernel_rfl) (fun v2 y2 hv2 _ => ?_); simp only [Act.put, List.getElem_toArray, List.getElem_cons_succ, List.getElem_cons_zero, List.setIfInBounds_toArray, List.set_cons_zero, List.set_cons_succ])
              obtain ⟨x1, hx1, rfl, rfl⟩ := hv2
              have hx1s := hx1.size
              (refine TextU.loudv (fun _ => False) (V := fun v w' => ∃ z, Old (x1.alloc (.cells (encZ y4).toArray 22)) z ∧ (w'.ownsRow (V.heap.size + 1) 22 1 v (L4 ++ [y4]).length ((L4 ++ [y4]).map encZ).flatten ∧ Below (V.heap.size + 1) z w' ∧ Chg 22 z w')) (fun _ h => h.elim) (fun z hz => (app_E Tryz.underlying41 hj hj0 hj1 hj2 rfl (by decide) encZ_len encZ_one x1 z _ y4 _ _ (.tmp 93) (.tmp 105) rfl rfl rfl ((own_old hown4 hx1).alloc _) hz (by omega) (by omega) (by omega)).imp fun v' => fun ⟨w', e1, e2, e3⟩ => ⟨w', e1, ⟨z, hz, e2⟩, e3⟩) (by kernel_rfl) (fun v3 w4 hv3 _ => ?_); simp only [Act.put, List.getElem_toArray, List.getElem_cons_succ, List.getElem_cons_zero, List.setIfInBounds_toArray, List.set_cons_zero, List.set_cons_succ])
              obtain ⟨z, hz3, hown', hb3, hc3⟩ := hv3
              repeat (first | (apply TextU.sees (hw := by kernel_rfl); (focus (intro x hx K hK; have hc := (fun _ _ => trivial) x hx; go_simp; exact hK)); simp only [Act.put, List.getElem_toArray, List.getElem_cons_succ, List.getElem_cons_zero, List.setIfInBounds_toArray, List.set_cons_zero, List.set_cons_succ]) | (apply TextU.idle; (focus (intro x hx K hK; go_simp; exact hK)); simp only [Act.put, List.getElem_toArray, List.getElem_cons_succ, List.getElem_cons_zero, List.setIfInBounds_toArray, List.set_cons_zero, List.set_cons_succ]))
              apply TextU.done
              intro z2 hz2
              obtain ⟨a', c', rfl, hc1', hc2'⟩ := own_form hown'
              have hs3 := hz3.size
              have hs4 := hb3.size
              simp only [World.size_alloc] at hs3
              have bz : Below (V.heap.size + 1) wr z2 := ((((hx1.mono (by omega)).alloc (by omega) (.cells (encZ y4).toArray 22)).trans (hz3.mono (by simp; omega))).trans hb3).trans (hz2.mono (by omega))
              have hBq2 : Blk z2 V.heap.size #[.slice a4 L4.length c4, .slice h0.pa h0.pl h0.pc] 44 := (bz.block _ (by omega)).trans hBq
              have fq := hBq2.free 0
              have q0 := hBq2.cell 0
              simp only [List.getElem?_toArray, List.getElem?_cons_zero] at q0
              have HN : Hid (RsI4 V (z2.setCell ⟨V.heap.size, 0, none⟩ (.slice a' (L4 ++ [y4]).length c')) V.heap.size (.slice h0.pa h0.pl h0.pc) (L4 ++ [y4])) := Lib.hid ⟨a', c', ⟨hc1', hc2'⟩, (Below.trans hold (bz.mono (show V.heap.size ≤ V.heap.size + 1 by omega))).setCell (p := ⟨V.heap.size, 0, none⟩) (Nat.le_refl _) _, hBq2.set 0 _, ownsRow_setCell_below (own_old hown' hz2) (by simp) _⟩
              clear CE hown4 hown' hz2 hb3 hc3 hz3 hx1 bz hBq2 hBq hub Rx
              go_wp2
              go_roundw
              case rel =>
                refine ⟨m + 1, by omega, by go_num, ?_⟩
                rw [show L4.length + 1 = (L4 ++ [y4]).length by simp, ← HS4.out]
                exact HN
              case measure => simp [intOf]; omega
            · obtain rfl : m = N.l.length := by omega
              rw [List.take_length] at hown4 hBq hcc4 HJ
              obtain ⟨LN, hLN⟩ : ∃ LN, LN = N.l.map fun x => upZ x t := ⟨_, rfl⟩
              rw [← hLN] at hown4 hBq hcc4 HJ
              have HLN : Hid ((snapN t N).l = LN) := Lib.hid hLN.symm
              have q0 := hBq.cell 0
              have q1 := hBq.cell 1
              simp only [List.getElem?_toArray, List.getElem?_cons_zero, List.getElem?_cons_succ] at q0 q1
              obtain ⟨_, o20, _⟩ := Rx.out.three
              dsimp only at o20
              obtain ⟨hcc, _, hI, hhd, hown, hNR⟩ := HR.out
              have HX := Lib.hid (And.intro hcc (And.intro hI (And.intro hhd (And.intro hNR (And.intro hold (And.intro hown4 hcc4))))))
              have HOW := Lib.hid (own_old hown hold)
              have CE := Lib.hid fun z (hz : Old wr z) => And.intro ((Blk.cell (Rx.out.old hz) 20).trans ((Blk.cell Rx.out 20).symm.trans o20)) (And.intro (((hBq.old hz).cell 0).trans ((hBq.cell 0).symm.trans q0)) (((hBq.old hz).cell 1).trans ((hBq.cell 1).symm.trans q1)))
              clear HJ hcc hI hNR hown4 hLN hown hcc4
              go_upto_region 21 with (fail)
              clear t19 t20 t21 r0 q0 q1 o20
              (refine wp_region_plain (Old wr) 3 (Below.refl _ wr) ?_; simp only [List.take_succ_cons, List.take_zero, List.drop_succ_cons, List.drop_zero])
              repeat (first | (apply Text.sees (hw := by kernel_rfl); (focus (intro x hx K hK; have hc := CE.out x hx; go_simp; exact hK)); simp only [Act.put, List.getElem_toArray, List.getElem_cons_succ, List.getElem_cons_zero, List.setIfInBounds_toArray, List.set_cons_zero, List.set_cons_succ]) | (apply Text.idle; (focus (intro x hx K hK; go_simp; exact hK)); simp only [Act.put, List.getElem_toArray, List.getElem_cons_succ, List.getElem_cons_zero, List.setIfInBounds_toArray, List.set_cons_zero, List.set_cons_succ]))
              intro x hx
              have hxs := hx.size
              refine wpl_val rfl (build_H _ _ ⟨a4, LN.length, c4, h0.pa, h0.pl, h0.pc⟩ (.tmp 110) rfl rfl x) ?_
              simp only [Act.put, List.getElem_toArray, List.getElem_cons_succ, List.getElem_cons_zero, List.setIfInBounds_toArray, List.set_cons_zero, List.set_cons_succ]
              have ho := World.ownsRow.alloc (own_old HOW.out hx) (.cells (encH ⟨a4, LN.length, c4, h0.pa, h0.pl, h0.pc⟩).toArray 44)
              have be : Below (O + 1) V (x.alloc (.cells (encH ⟨a4, LN.length, c4, h0.pa, h0.pl, h0.pc⟩).toArray 44)) := ((tstep hold hx hvs).mono hlt1).alloc (by omega) _
              have ee := els_new (w := x) (e := 44) encH_len ⟨a4, LN.length, c4, h0.pa, h0.pl, h0.pc⟩ zeroH
              have hxl : [(⟨a4, LN.length, c4, h0.pa, h0.pl, h0.pc⟩ : H2)].length = 1 := rfl
              refine wpList_app5 (l := hd) (m := [⟨a4, LN.length, c4, h0.pa, h0.pl, h0.pc⟩]) (d := zeroH) (w0 := V) rfl (.tmp 109) (.tmp 111) rfl Tryz.underlying26 hki hk0 hk1 hk2 rfl (by decide) encH_len encH_one rfl ho rfl ee (by omega) (by omega) be (by simp; omega) ?_
              intro v' w5 hown5 hb5 hc5
              obtain ⟨a5, c5, rfl, hc51, hc52⟩ := own_form hown5
              have R5 := HR.out.2.1.step hb5
              have f20 := Blk.free R5.out 20
              obtain ⟨_, o20, _⟩ := R5.out.three
              dsimp only at o20
              have hln5 : (hd ++ [(⟨a4, LN.length, c4, h0.pa, h0.pl, h0.pc⟩ : H2)]).length = (L ++ [snapN t N]).length := by simp [HX.out.2.2.1]
              have hchg : Chg 44 V w5 := ((Chg.of_old hold).trans (Chg.of_old (tstep hx (tbel1 x _) hxs))).trans hc5
              have HN : Hid (RsI2 w (w5.setCell ⟨O, 20, none⟩ (.slice a5 (L ++ [snapN t N]).length c5)) O j s t IT hs0 (L ++ [snapN t N])) := Lib.hid (by
                obtain ⟨hcc, hI, hhd, hNR, hold, hown4, hcc4⟩ := HX.out
                refine ⟨ia, ic, a5, c5, hd ++ [⟨a4, LN.length, c4, h0.pa, h0.pl, h0.pc⟩], ⟨hcc.1, by rw [← hln5]; exact hc51, hc52⟩, R5.set 20 _ (R5.out.newN (L ++ [snapN t N]) a5 c5), (hI.chg hchg (by decide)).other (by omega) _ _, hln5, ?_, fun i hi => ?_⟩
                · rw [hln5] at hown5
                  have := ownsRow_setCell_below hown5 (a := ⟨O, 20, none⟩) (by simp) (.slice a5 (L ++ [snapN t N]).length c5)
                  rw [← hln5] at this ⊢
                  exact this
                · rcases Nat.lt_or_ge i L.length with h | h
                  · rw [getD_app_lt (by omega), getD_app_lt h]
                    exact ((hNR i h).chg hchg (by decide)).other (by omega) _ _
                  · have hi' : i = L.length := by simp at hi; omega
                    rw [getD_app_eq (by omega), getD_app_eq hi', hi', hLk.out, HH0.out.symm]
                    obtain ⟨a', c', e, _, _, hO⟩ := own_of (d := 0) hown4 encZ_len
                    cases e
                    have hc6 : Chg 44 wr w5 := (Chg.of_old (tstep hx (tbel1 x _) hxs)).trans hc5
                    refine ⟨by rw [HLN.out], hcc4, ?_, rfl, rfl, rfl⟩
                    rw [HLN.out]
                    exact (((hO.mono (by omega)).chg hc6 (by decide))).other (by omega) _ _)
              clear hown5 hb5 hc5 R5 hchg be ho ee CE
              go_wp2
              go_roundw
              case rel =>
                refine ⟨k + 1, by omega, by go_num, ?_⟩
                rw [← HS.out, show L.length + 1 = (L ++ [snapN t N]).length by simp]
                exact HN
              case measure => simp [intOf]; omega
        · obtain rfl : k = j.notes.length := by omega
          rw [List.take_length] at HI
          obtain ⟨NT, hNT⟩ : ∃ NT, NT = j.notes.map (snapN t) := ⟨_, rfl⟩
          rw [← hNT] at HI
          have HNT := Lib.hid hNT
          have HlN : Hid (NT.length = j.notes.length) := Lib.hid (by rw [hNT]; simp)
          clear hk hlt hNT
          have HO3 : Hid (RsI3 w wr O j s t IT NT hs0 ((j.floats.take 0).map (snapF t))) := Lib.hid (by
            obtain ⟨ia, ic, a, c, hd, hcc, R, hI, hhd, hown, hNR⟩ := HI.out
            rw [← hhd] at hown
            obtain ⟨a', c', e, _, _, hO⟩ := own_of (d := zeroH) hown encH_len
            cases e
            refine ⟨ia, ic, a, c, none, 0, fun k => hd.getD k zeroH, ⟨hcc.1, hcc.2, Nat.le_refl _, by decide⟩, R, hI, by rw [← hhd]; exact hO, hNR, World.ownsRow_nil _ _ _ _⟩)
          go_wp2_with fail
          clear t19 t20 t21 HI
          go_loopw [9] (fun i wr => ∃ (k : Nat), k ≤ j.floats.length ∧ i = .int .i64 k ∧ Hid (RsI3 w wr O j s t IT NT hs0 ((j.floats.take k).map (snapF t)))) (fun i _ => j.floats.length - (intOf i).toNat)
          case atStart => exact ⟨0, Nat.zero_le _, rfl, HO3⟩
          case round =>
            clear HO3
            obtain ⟨k, hk, rfl, HI⟩ := hrel
            have R : JobAt wr w.heap.size j s := by
              obtain ⟨_, _, _, _, _, _, _, _, R, _⟩ := HI.out
              exact R.job
            obtain ⟨t19, t20, t21⟩ := R.three
            clear R
            by_cases hlt : k < j.floats.length
            · obtain ⟨ia, ic, na, nc, a, c, hs, hcc, R, hI, hH, hNR, hown⟩ := HI.out
              obtain ⟨b, off, hfa, hB, p0, p1, p2⟩ := els3 HL.out.floats hlt
              have hx5 := (hin.out.2.2 k).2.1
              rw [hfa] at t21
              have hlt1 := R.lt
              have hlow := R.low
              have hlen : ((j.floats.take k).map (snapF t)).length ≤ 100 := by simp only [List.length_map, List.length_take]; omega
              have HS : Hid ((j.floats.take k).map (snapF t) ++ [snapF t (j.floats.getD k zeroF)] = (j.floats.take (k + 1)).map (snapF t)) := Lib.hid (by rw [take_snoc zeroF hlt, List.map_append]; rfl)
              replace p0 := (R.bel.cell (p := ⟨b, off + k * 3, none⟩) hB).trans p0
              replace p1 := (R.bel.cell (p := ⟨b, off + k * 3 + 1, none⟩) hB).trans p1
              replace p2 := (R.bel.cell (p := ⟨b, off + k * 3 + 2, none⟩) hB).trans p2
              have HX := Lib.hid (And.intro hcc (And.intro R (And.intro hI (And.intro hH (And.intro hNR hown)))))
              have hout := R.out
              clear HI hI hH hNR hcc hfa R
              generalize (j.floats.take k).map (snapF t) = L at *
              generalize j.floats.getD k zeroF = x at *
              obtain ⟨xc, xh, xp⟩ := x
              dsimp only at *
              have c1 := fun z => rgup_any xh t z hx5 i5
              have BF := blk_new wr #[.int .i64 xc, .int .i64 xh, .int .i64 xp] 48
              have bF := tbel1 wr (.cells #[.int .i64 xc, .int .i64 xh, .int .i64 xp] 48)
              obtain ⟨y5, hy5⟩ : ∃ y5, y5 = upZ xh t := ⟨_, rfl⟩
              have HY : Hid (snapF t ⟨xc, xh, xp⟩ = ⟨xc, y5, xp⟩) := Lib.hid (by rw [hy5]; rfl)
              rw [← hy5] at c1
              clear hy5 hx5
              go_wp2_with fail
              refine (c1 _).mono ?_
              rintro e w1 ⟨rfl, b1⟩
              have B1 := BF.old b1
              have o1 : Old wr w1 := tstep bF b1 bF.size
              clear c1 BF bF b1 p0 p1 p2 t19 t20 t21
              have cf := B1.cell 1
              have ff := B1.free 1
              simp only [List.getElem?_toArray, List.getElem?_cons_zero, List.getElem?_cons_succ] at cf
              go_upto_region 27 with (fail)
              have B2 : Blk (w1.setCell ⟨wr.heap.size, 1, none⟩ (.int .i64 y5)) wr.heap.size #[.int .i64 xc, .int .i64 y5, .int .i64 xp] 48 := B1.set 1 _
              have o2 : Old wr (w1.setCell ⟨wr.heap.size, 1, none⟩ (.int .i64 y5)) := Below.setCell (p := ⟨wr.heap.size, 1, none⟩) o1 (Nat.le_refl _) _
              clear B1 o1 cf ff
              generalize w1.setCell _ _ = W at *
              have g0 := B2.cell 0
              have g1 := B2.cell 1
              have g2 := B2.cell 2
              simp only [List.getElem?_toArray, List.getElem?_cons_zero, List.getElem?_cons_succ] at g0 g1 g2
              obtain ⟨_, _, o21⟩ := (hout.old o2).three
              dsimp only at o21
              have hoW := hout.old o2
              have CE := Lib.hid fun z (hz : Old W z) => And.intro ((Blk.cell (hoW.old hz) 21).trans ((Blk.cell hoW 21).symm.trans o21)) (And.intro (((B2.old hz).cell 0).trans ((B2.cell 0).symm.trans g0)) (And.intro (((B2.old hz).cell 1).trans ((B2.cell 1).symm.trans g1)) (((B2.old hz).cell 2).trans ((B2.cell 2).symm.trans g2))))
              clear g0 g1 g2 o21 hoW
              (refine wp_region_plain (Old W) 3 (Below.refl _ W) ?_; simp only [List.take_succ_cons, List.take_zero, List.drop_succ_cons, List.drop_zero])
              repeat (first | (apply Text.sees (hw := by kernel_rfl); (focus (intro x hx K hK; have hc := CE.out x hx; go_simp; exact hK)); simp only [Act.put, List.getElem_toArray, List.getElem_cons_succ, List.getElem_cons_zero, List.setIfInBounds_toArray, List.set_cons_zero, List.set_cons_succ]) | (apply Text.idle; (focus (intro x hx K hK; go_simp; exact hK)); simp only [Act.put, List.getElem_toArray, List.getElem_cons_succ, List.getElem_cons_zero, List.setIfInBounds_toArray, List.set_cons_zero, List.set_cons_succ]))
              intro z hz
              have oz : Old wr z := o2.old hz
              have hzs := oz.size
              refine wpl_val rfl (build_F _ _ ⟨xc, y5, xp⟩ (.tmp 133) rfl rfl z) ?_
              simp only [Act.put, List.getElem_toArray, List.getElem_cons_succ, List.getElem_cons_zero, List.setIfInBounds_toArray, List.set_cons_zero, List.set_cons_succ]
              have ho := World.ownsRow.alloc (own_old HX.out.2.2.2.2.2 oz) (.cells (encF ⟨xc, y5, xp⟩).toArray 48)
              have be : Below (O + 1) wr (z.alloc (.cells (encF ⟨xc, y5, xp⟩).toArray 48)) := (oz.mono hlt1).alloc (by omega) _
              have ee := els_new (w := z) (e := 48) encF_len ⟨xc, y5, xp⟩ zeroF
              have hxl : [(⟨xc, y5, xp⟩ : F3)].length = 1 := rfl
              refine wpList_app5 (l := L) (m := [⟨xc, y5, xp⟩]) (d := zeroF) (w0 := wr) rfl (.tmp 132) (.tmp 134) rfl Tryz.underlying27 hfi hf0 hf1 hf2 rfl (by decide) encF_len encF_one rfl ho rfl ee (by omega) (by omega) be (by simp; omega) ?_
              intro v' w5 hown5 hb5 hc5
              obtain ⟨a5, c5, rfl, hc51, hc52⟩ := own_form hown5
              have R5 := HX.out.2.1.step hb5
              have f21 := Blk.free R5.out 21
              obtain ⟨_, _, o21⟩ := R5.out.three
              dsimp only at o21
              have hchg : Chg 48 wr w5 := (Chg.of_old (tstep oz (tbel1 z _) hzs)).trans hc5
              have HN : Hid (RsI3 w (w5.setCell ⟨O, 21, none⟩ (.slice a5 (L ++ [(⟨xc, y5, xp⟩ : F3)]).length c5)) O j s t IT NT hs0 (L ++ [⟨xc, y5, xp⟩])) := Lib.hid (RsI3_step HX.out.1.1 HX.out.1.2.1 ⟨hc51, hc52⟩ R5 HX.out.2.2.1 HX.out.2.2.2.1 HX.out.2.2.2.2.1 hchg hown5)
              clear hown5 hb5 hc5 R5 hchg be ho ee CE B2 hout
              go_wp2
              go_roundw
              case rel =>
                refine ⟨k + 1, by omega, by go_num, ?_⟩
                rw [← HS.out, HY.out, show L.length + 1 = (L ++ [(⟨xc, y5, xp⟩ : F3)]).length by simp]
                exact HN
              case measure => simp [intOf]; omega
            · obtain rfl : k = j.floats.length := by omega
              rw [List.take_length] at HI
              obtain ⟨ia, ic, na, nc, a, c, hs, hcc, R, hI, hH, hNR, hown⟩ := HI.out
              have HX := Lib.hid (And.intro hcc (And.intro hI (And.intro hH (And.intro hNR hown))))
              clear HI hcc hI hH hNR hown
              go_upto_region 28 with (fail)
              (refine wp_region_plain (Old wr) 1 (Below.refl _ wr) ?_; simp only [List.take_succ_cons, List.take_zero, List.drop_succ_cons, List.drop_zero])
              (refine Text.val (fun x hx => load_job (.tmp 4) rfl rfl (R.out.old hx)) (by kernel_rfl) ?_; simp only [Act.put, List.getElem_toArray, List.getElem_cons_succ, List.getElem_cons_zero, List.setIfInBounds_toArray, List.set_cons_zero, List.set_cons_succ])
              intro x hx
              have Rx := R.old hx
              refine store_job (j := ⟨snapG j.g t, IT, NT, j.floats.map (snapF t)⟩) (s := ⟨ia, ic, na, nc, a, c⟩) rfl (.tmp 2) (.tmp 137) rfl rfl (by kernel_rfl) Rx.room ?_
              go_wp2
              refine bodyPost_ret (v := .agg (jobC ⟨snapG j.g t, IT, NT, j.floats.map (snapF t)⟩ ⟨ia, ic, na, nc, a, c⟩)) ?_ rfl ?_
              · exact results_cell_row Tryz.results16 _ _ _ 29 _ _ _ rfl (Rx.room.row ⟨snapG j.g t, IT, NT, j.floats.map (snapF t)⟩ ⟨ia, ic, na, nc, a, c⟩) Tryz.underlying29 rfl info29
              · obtain ⟨hcc, hI, hH, hNR, hown⟩ := HX.out
                have hlow := Rx.low
                have hz : w.heap.size + 1 < O + 1 := by omega
                have hbX := below_row Rx.bel (show w.heap.size ≤ w.heap.size + 1 by omega) (jobC ⟨snapG j.g t, IT, NT, j.floats.map (snapF t)⟩ ⟨ia, ic, na, nc, a, c⟩)
                have hii := inJ_snap hin.out
                rw [eJ.out, ← HIT.out, ← HNT.out] at hii ⊢
                refine ⟨⟨ia, ic, na, nc, a, c⟩, rfl, ⟨hii, ((hI.old hx).row hz _).els, ⟨hs, ((hH.old hx).row hz _).els, fun k hk => ?_⟩, ?_, hcc.1, hcc.2.1, hcc.2.2⟩, hbX⟩
                · obtain ⟨q1, q2, q3, q4, q5, q6⟩ := hNR k hk
                  have hk' : k < j.notes.length := by rw [← HlN.out]; exact hk
                  obtain ⟨n1, n2, n3, n4, n5, n6⟩ := hN0 k hk'
                  have en : NT.getD k zeroN = snapN t (j.notes.getD k zeroN) := by rw [HNT.out, map_getD _ _ zeroN _ hk']
                  refine ⟨q1, by rw [q5, n2, en]; rfl, q2, by rw [q5, q6]; exact n4, ((q3.old hx).row hz _).els.irow fun m => ?_, ?_⟩
                  · rw [en]
                    rcases Nat.lt_or_ge m (j.notes.getD k zeroN).l.length with h | h
                    · simp only [snapN]; rw [map_getD _ _ 0 _ h]; exact upZ_in (n5.ins m)
                    · rw [getD_none (by simpa [snapN] using h)]; decide
                  · rw [q4, en]
                    exact (n6.carry hbX (Nat.le_refl _)).mono hbX.size
                · obtain ⟨a', c', e, _, _, hO⟩ := own_of (d := zeroF) hown encF_len
                  cases e
                  exact ((hO.old hx).row hz _).els
end Go.Proofs.YthcgncgnbjhniaaGreat
