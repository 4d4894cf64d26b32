/- Fair of the document, and Large of the law. Fair of the document. The document's Snap: what it needs. The document's Snap. -/
import Derived.Test.YtjfjekncmejfpaaJSm
import Derived.Test.YtjfjekncmejfpaaJSnp
import Derived.Test.YtjfjekncmejfpaaDetY
namespace Go.Proofs.Ytjfjekncmejfpaa
open Go.RowKit
set_option maxRecDepth 20000
set_option linter.unusedVariables false
set_option linter.unusedSimpArgs false

theorem all_no {α : Type} {p : α → Bool} {l : List α} {d : α} {k : Nat} (hk : k < l.length) (h : p (l.getD k d) = false) : l.all p = false := by
  rw [List.all_eq_false]
  exact ⟨_, mem_getD hk, by rw [h]; simp⟩
theorem all_yes {α : Type} {p : α → Bool} {l : List α} {d : α} (h : ∀ k, k < l.length → p (l.getD k d) = true) : l.all p = true := by
  rw [List.all_eq_true]
  intro x hx
  obtain ⟨k, hk, rfl⟩ := List.getElem_of_mem hx
  have := h k hk
  rwa [List.getD_eq_getElem?_getD, List.getElem?_eq_getElem hk] at this
/-- What Large tells. -/
def LargeOut (j : J4) (e : Ending) : Prop := (e = .returned (.bool true) ∧ ¬ Few j) ∨ (e = .returned (.bool false) ∧ Few j)
set_option maxHeartbeats 4000000 in
theorem large_any (j : J4) (s : S3) (w : World) (hL : Lists w j s) :
    Calls Try.prog 12 #[.agg (jobC j s)] w fun e w' => LargeOut j e ∧ Below w.heap.size w w' := by
  have D := job_new w j s
  have b0 := tbel1 w (.cells (jobC j s) 31)
  obtain ⟨hs, hH, hN⟩ := hL.notes
  have HH := Lib.hid hH
  have HN := Lib.hid hN
  have m1 := Nat.le_trans hL.ic.1 hL.ic.2
  have m2 := Nat.le_trans hL.nc.1 hL.nc.2
  have m3 := Nat.le_trans hL.fc.1 hL.fc.2
  simp only [maxLen] at m1 m2 m3
  obtain ⟨t19, t20, t21⟩ := D.three
  clear hL hH hN
  go_enter Try.func12, Try.ntmps12
  go_upto_region 1 with (fail)
  generalize w.alloc _ = U at *
  go_wp2_with fail
  go_loopw [3] (fun i wr => ∃ k : Nat, k ≤ j.notes.length ∧ k ≤ 100 ∧ i = .int .i64 k ∧ Below U.heap.size U wr ∧ Hid (∀ m, m < k → (j.notes.getD m zeroN).l.length ≤ 100 ∧ (j.notes.getD m zeroN).p.length ≤ 100)) (fun i _ => j.notes.length - (intOf i).toNat)
  case atStart => exact ⟨0, Nat.zero_le _, Nat.zero_le _, rfl, Below.refl _ _, Lib.hid fun m hm => by omega⟩
  case round =>
    obtain ⟨k, hk, hk2, rfl, hbl, HP⟩ := hrel
    have bw := tstep b0 hbl b0.size
    have D' := D.old hbl
    clear t19 t20 t21
    obtain ⟨t19, t20, t21⟩ := D'.three
    by_cases hlt : k < j.notes.length
    · by_cases hlt2 : k < 100
      · obtain ⟨b, off, hna, hB, p0, p1⟩ := els2 (HH.out.carry bw) hlt
        obtain ⟨n1, n2, n3, n4, _, _⟩ := HN.out k hlt
        rw [hna] at t20
        have HS : Hid ((j.notes.getD k zeroN).l.length ≤ 100 → (j.notes.getD k zeroN).p.length ≤ 100 → ∀ m, m < k + 1 → (j.notes.getD m zeroN).l.length ≤ 100 ∧ (j.notes.getD m zeroN).p.length ≤ 100) := Lib.hid fun h h' m hm => by
          rcases Nat.lt_or_ge m k with h1 | h1
          · exact HP.out m h1
          · obtain rfl : m = k := by omega
            exact ⟨h, h'⟩
        have HF1 : Hid (100 < (j.notes.getD k zeroN).l.length → ¬ Few j) := Lib.hid fun h hf => by have := (hf.2.2.2 k).1; omega
        have HF2 : Hid (100 < (j.notes.getD k zeroN).p.length → ¬ Few j) := Lib.hid fun h hf => by have := (hf.2.2.2 k).2; omega
        rw [n1] at p0 n3
        rw [n2] at p1 n4
        clear HP hna D' n1 n2
        generalize (j.notes.getD k zeroN).l.length = x at *
        generalize (j.notes.getD k zeroN).p.length = y at *
        have n3' := Nat.le_trans n3.1 n3.2
        have n4' := Nat.le_trans n4.1 n4.2
        simp only [maxLen] at n3' n4'
        clear n3 n4
        by_cases g1 : 100 < x
        · clear HS
          go_wp2
          go_ret
          exact ⟨.inl ⟨rfl, HF1.out g1⟩, bw⟩
        by_cases g2 : 100 < y
        · clear HS
          go_wp2
          go_ret
          exact ⟨.inl ⟨rfl, HF2.out g2⟩, bw⟩
        · replace HS := Lib.hid (HS.out (by omega) (by omega))
          go_wp2
          go_roundw
          case rel => exact ⟨k + 1, by omega, by omega, by go_num, hbl, HS⟩
          case measure => simp [intOf]; omega
      · have hn : 100 ≤ j.notes.length := by omega
        obtain rfl : k = 100 := by omega
        clear D'
        by_cases g1 : 100 < j.items.length
        · go_wp2
          go_ret
          exact ⟨.inl ⟨rfl, fun hf => by have := hf.1; omega⟩, bw⟩
        · go_wp2
          go_ret
          exact ⟨.inl ⟨rfl, fun hf => by have := hf.2.1; omega⟩, bw⟩
    · obtain rfl : k = j.notes.length := by omega
      clear D'
      by_cases g1 : 100 < j.items.length
      · go_wp2
        go_ret
        exact ⟨.inl ⟨rfl, fun hf => by have := hf.1; omega⟩, bw⟩
      by_cases g3 : 100 < j.floats.length
      · go_wp2
        go_ret
        exact ⟨.inl ⟨(congrArg (fun b => Ending.returned (Value.bool b)) (show (decide (100 < (j.items.length : Int)) || decide (100 < (j.notes.length : Int)) || decide (100 < (j.floats.length : Int))) = true from by simp; omega)), fun hf => by have := hf.2.2.1; omega⟩, bw⟩
      · have HF : Hid (Few j) := Lib.hid ⟨by omega, by omega, by omega, fun m => by
          rcases Nat.lt_or_ge m j.notes.length with h | h
          · exact HP.out m h
          · rw [getD_none h]; simp [zeroN]⟩
        clear HP
        go_wp2
        go_ret
        exact ⟨.inr ⟨(congrArg (fun b => Ending.returned (Value.bool b)) (show (decide (100 < (j.items.length : Int)) || decide (100 < (j.notes.length : Int)) || decide (100 < (j.floats.length : Int))) = false from by simp; omega)), HF.out⟩, bw⟩
theorem large_is (j : J4) (s : S3) (w : World) (hL : Lists w j s) :
    Calls Try.prog 12 #[.agg (jobC j s)] w fun e w' => e = .returned (.bool (isB (¬ Few j))) ∧ Below w.heap.size w w' := (large_any j s w hL).mono fun e w' h => by
  obtain ⟨h1, h2⟩ := h
  rcases h1 with ⟨h1, h3⟩ | ⟨h1, h3⟩
  · rw [isB_yes h3]; exact ⟨h1, h2⟩
  · rw [isB_no (fun h => h h3)]; exact ⟨h1, h2⟩
end Go.Proofs.Ytjfjekncmejfpaa
namespace Go.Proofs.Ytjfjekncmejfpaa
open Go.RowKit
set_option maxRecDepth 20000
set_option linter.unusedVariables false
set_option linter.unusedSimpArgs false

/-- append of a slice that is nil, whatever its capacity. -/
theorem run_append_nil {P : Program} {w : World} {B : Nat} {t ty e : TypeId} {i : TypeInfo} {sz c : Nat} (ht : P.underlying t = some (.slice e)) (hi : P.info? e = some i) {v : Value} {n : Nat} {xs : List Value} (hown : w.ownsRow B e sz v n xs) :
    (Builtin.append_ #[t, t] ty #[v, .slice none 0 c]).run P w = .ok v w := by
  rcases hown.2 with ⟨rfl, rfl⟩ | ⟨g, cap, cur, rfl, _, _, hnc, _⟩
  · simp [Builtin.append_, run_underlying ht, sizeOf, typeInfo, hi, Builtin.lenOf, Builtin.firstCells]
  · simp [Builtin.append_, run_underlying ht, sizeOf, typeInfo, hi, Builtin.lenOf, Builtin.firstCells, hnc, storeCells]
section
variable {α : Type} {sz : Nat} {enc : α → List Value} {w w' : World} {a : Option Addr} {n : Nat} {e : TypeId} {B : Nat}
/-- A slice that is grown by elements that lie where another says, nil or not. -/
theorem run_app4 {P : Program} {t ty : TypeId} {i : TypeInfo} {z : Value} {bytes : Nat} {v : Value} {l m : List α} {d : α} {c : Nat} (ht : P.underlying t = some (.slice e)) (hi : P.info? e = some i) (hz : i.zero = some z) (hs : i.size = sz) (hy : i.bytes = bytes) (hzs : z.cells.size = sz) (hsz : 0 < sz)
    (hlen : ∀ x, (enc x).length = sz) (hone : ∀ x, ∀ u ∈ enc x, u.oneCell' = true) (hown : w.ownsRow B e sz v l.length (l.map enc).flatten) (hr : Els sz enc w a m.length fun k => m.getD k d) (hn : l.length + m.length ≤ maxLen) (hb : (l.length + m.length) * bytes ≤ 140737488355328) (hB : B ≤ w.heap.size) :
    ∃ v' w', (Builtin.append_ #[t, t] ty #[v, .slice a m.length c]).run P w = .ok v' w' ∧ w'.ownsRow B e sz v' (l ++ m).length ((l ++ m).map enc).flatten ∧ w.grownBy w' v.ownBlock := by
  cases a with
  | none =>
    obtain rfl : m = [] := List.eq_nil_of_length_eq_zero (none_nil hr hsz)
    exact ⟨v, w, run_append_nil ht hi hown, by simpa using hown, World.grownBy.refl _ _⟩
  | some ad => exact run_els ht hi hz hs hy hzs hsz hlen hone hown hr hn hb hB (fun h => by cases h)
theorem wpList_app4 {P : Program} {ops : Array Oper} {rest : List Oper} {o : Oper} {act : Act} {Q : Exit → Act → World → Prop} {w0 : World} (hgd : o.guard = none) (s x : Operand) {t : TypeId} (ho : o.op = .call { callee := .builtin .append, args := #[s, x], argTypes := #[t, t] })
    {i : TypeInfo} {z : Value} {bytes : Nat} {v : Value} {l m : List α} {d : α} {c : Nat} (ht : P.underlying t = some (.slice e)) (hi : P.info? e = some i) (hz : i.zero = some z) (hs : i.size = sz) (hy : i.bytes = bytes) (hzs : z.cells.size = sz) (hsz : 0 < sz)
    (hlen : ∀ x, (enc x).length = sz) (hone : ∀ x, ∀ u ∈ enc x, u.oneCell' = true) (hev : act.eval s = v) (hown : w.ownsRow B e sz v l.length (l.map enc).flatten) (hex : act.eval x = .slice a m.length c) (hr : Els sz enc w a m.length fun k => m.getD k d) (hn : l.length + m.length ≤ maxLen) (hby : (l.length + m.length) * bytes ≤ 140737488355328) (hb : Below B w0 w) (hB : B ≤ w.heap.size)
    (h : ∀ v' w', w'.ownsRow B e sz v' (l ++ m).length ((l ++ m).map enc).flatten → Below B w0 w' → wpList P ops Q rest (act.put o.dst v') w') : wpList P ops Q (o :: rest) act w := by
  obtain ⟨v', w', hrun, h2, h3⟩ := run_app4 (c := c) (ty := o.type) ht hi hz hs hy hzs hsz hlen hone hown hr hn hby hB
  refine wpList_plain hgd fun _ hK => ?_
  unfold Oper.wp execOp
  simp only [ho, resolve, invoke, builtin, Sem.run_bind, Sem.run_pure, Result.andThen_ok, List.map_toArray, List.map_cons, List.map_nil, hev, hex, hrun]
  exact hK _ _ (h v' w' h2 (grown_below hown hb h3 hB))
theorem els_new {w : World} {e : TypeId} {enc : α → List Value} (hlen : ∀ x, (enc x).length = sz) (x : α) (d : α) : Els sz enc (w.alloc (.cells (enc x).toArray e)) (some ⟨w.heap.size, 0, none⟩) [x].length fun k => [x].getD k d := fun k j hk hj => by
  obtain rfl : k = 0 := by simp at hk; omega
  have B := blk_new w (enc x).toArray e
  refine ⟨w.heap.size, 0, rfl, B.lt, ?_⟩
  rw [B.cell, Nat.zero_add, Nat.zero_mul, Nat.zero_add, List.getElem?_toArray]
  rfl
theorem take_snoc {l : List α} {k : Nat} (d : α) (hk : k < l.length) : l.take (k + 1) = l.take k ++ [l.getD k d] := by
  rw [List.take_succ_eq_append_getElem hk, List.getD_eq_getElem?_getD, List.getElem?_eq_getElem hk]
  rfl
end
theorem own_five (w : World) (a b c d e : Int) : (w.alloc (.cells #[.int .i64 a, .int .i64 b, .int .i64 c, .int .i64 d, .int .i64 e] 24)).ownsRow w.heap.size 24 1 (.slice (some ⟨w.heap.size, 0, none⟩) 5 5) [a, b, c, d, e].length (([a, b, c, d, e].map encZ).flatten) :=
  ⟨rfl, .inr ⟨w.heap.size, 5, _, rfl, Nat.le_refl _, blk_new w _ 24, by simp, by decide, rfl, rfl⟩⟩
theorem flat_few {l : List N2} (h : ∀ k, (l.getD k zeroN).l.length ≤ 100) : ∀ k, k ≤ l.length → ((l.take k).map (·.l)).flatten.length ≤ 100 * k
  | 0, _ => by simp
  | k + 1, hk => by
    have := flat_few h k (by omega)
    rw [take_snoc zeroN (by omega), List.map_append, List.flatten_append, List.length_append]
    have h2 := h k
    simp only [List.map_cons, List.map_nil, List.flatten_cons, List.flatten_nil, List.append_nil]
    omega
/-- The numbers so far. -/
def NumsOwn (B : Nat) (wr : World) (v : Value) (L : List Int) : Prop := wr.ownsRow B 24 1 v L.length (L.map encZ).flatten
/-- What stands while Fair goes on. -/
def FairI (U wr : World) (L : List Int) (v : Value) : Prop := Old U wr ∧ NumsOwn U.heap.size wr v L
end Go.Proofs.Ytjfjekncmejfpaa
namespace Go.Proofs.Ytjfjekncmejfpaa
open Go.RowKit
set_option maxRecDepth 20000
set_option linter.unusedVariables false
set_option linter.unusedSimpArgs false

theorem grown_old {A B : World} (h : Below A.heap.size A B) : A.grownBy B none := ⟨h.os, h.tape, h.output, h.size, fun k hk _ => h.block k hk⟩
theorem own_old {w w' : World} {e : TypeId} {sz base : Nat} {v : Value} {k : Nat} {xs : List Value} (h : w.ownsRow base e sz v k xs) (hb : Old w w') : w'.ownsRow base e sz v k xs :=
  h.kept (row := none) (grown_old hb) (by
    rcases h.2 with ⟨rfl, _⟩ | ⟨g, cap, cur, rfl, _⟩
    · exact .inl rfl
    · exact .inr (by simp [Value.ownBlock]))
theorem own_ge {w : World} {B : Nat} {e : TypeId} {sz : Nat} {v : Value} {k : Nat} {xs : List Value} (h : w.ownsRow B e sz v k xs) : ∀ i, some i = v.ownBlock → B ≤ i := by
  intro i e
  rcases h.2 with ⟨rfl, _⟩ | ⟨g, cap, cur, rfl, hb, _⟩
  · simp [Value.ownBlock] at e
  · simp [Value.ownBlock] at e; omega
theorem near_at {M : Nat → Prop} {w x : World} {b i : Nat} {v : Value} (hx : Near M w x) (h : w.cell? ⟨b, i, none⟩ = some v) (hb : ¬ M b) : x.cell? ⟨b, i, none⟩ = some v :=
  (World.cell?_of_block (a := ⟨b, i, none⟩) (hx.block b (World.block_lt_of_cell? _ _ h) hb)).trans h
/-- All blocks of other types stand. -/
structure Chg (T : TypeId) (w w' : World) : Prop where
  size : w.heap.size ≤ w'.heap.size
  block : ∀ k cs T', Blk w k cs T' → T' ≠ T → Blk w' k cs T'
theorem Chg.of_old {T : TypeId} {w w' : World} (h : Old w w') : Chg T w w' := ⟨h.size, fun k cs T' hk _ => hk.old h⟩
theorem Chg.trans {T : TypeId} {a b c : World} (h : Chg T a b) (k : Chg T b c) : Chg T a c := ⟨Nat.le_trans h.size k.size, fun i cs T' hi ht => k.block i cs T' (h.block i cs T' hi ht) ht⟩
theorem Chg.set {w : World} {b : Nat} {cs : Array Value} {T : TypeId} (h : Blk w b cs T) (i : Nat) (v : Value) : Chg T w (w.setCell ⟨b, i, none⟩ v) :=
  ⟨by simp, fun k cs' T' hk ht => hk.other (by
    rintro rfl
    unfold Blk at h hk
    rw [h] at hk
    simp only [Option.some.injEq, Obj.cells.injEq] at hk
    exact ht hk.2.1.symm) i v⟩
theorem Chg.grown {w w' : World} {B : Nat} {T : TypeId} {sz : Nat} {v : Value} {k : Nat} {xs : List Value} (hown : w.ownsRow B T sz v k xs) (hg : w.grownBy w' v.ownBlock) : Chg T w w' := by
  refine ⟨hg.size, fun i cs T' hi ht => (hg.block i hi.lt fun e => ?_).trans hi⟩
  rcases hown.2 with ⟨rfl, _⟩ | ⟨g, cap, cur, rfl, _, h, _⟩
  · simp [Value.ownBlock] at e
  · obtain rfl : g = i := by simpa [Value.ownBlock, eq_comm] using e
    unfold Blk at hi
    rw [h] at hi
    simp only [Option.some.injEq, Obj.cells.injEq] at hi
    exact ht hi.2.1.symm
theorem OwnE.chg {α : Type} {e : TypeId} {sz : Nat} {enc : α → List Value} {B : Nat} {w x : World} {a : Option Addr} {n : Nat} {F : Nat → α} (h : OwnE e sz enc B w a n F) {T : TypeId} (hc : Chg T w x) (hT : e ≠ T) : OwnE e sz enc B x a n F := by
  rcases h with h | ⟨g, cur, h1, h2, h3, h4⟩
  · exact .inl h
  · exact .inr ⟨g, cur, h1, h2, hc.block g cur e h3 hT, h4⟩
section
variable {α : Type} {sz : Nat} {enc : α → List Value} {e : TypeId} {B : Nat}
/-- One element more. -/
theorem app_E {t : TypeId} {i : TypeInfo} {z0 : Value} {bytes : Nat} (ht : Try.prog.underlying t = some (.slice e)) (hi : Try.prog.info? e = some i) (hz0 : i.zero = some z0) (hs0 : i.size = sz) (hy : i.bytes = bytes) (hzs : z0.cells.size = sz) (hsz : 0 < sz) (hlen : ∀ x, (enc x).length = sz) (hone : ∀ x, ∀ u ∈ enc x, u.oneCell' = true)
    (x z : World) (u : Value) (y : α) {l : List α} (o : Oper) (a : Act) (s r : Operand) (ho : o.op = .call { callee := .builtin .append, args := #[s, r], argTypes := #[t, t] }) (hs : a.eval s = u) (hr : a.eval r = .slice (some ⟨x.heap.size, 0, none⟩) 1 1)
    (hown : (x.alloc (.cells (enc y).toArray e)).ownsRow B e sz u l.length (l.map enc).flatten) (hz : Old (x.alloc (.cells (enc y).toArray e)) z) (hn : l.length + 1 ≤ maxLen) (hby : (l.length + 1) * bytes ≤ 140737488355328) (hB : B ≤ x.heap.size) :
    ∃ v' w', (execOp a.eval o).run Try.prog z = .ok (.value v') w' ∧ (w'.ownsRow B e sz v' (l ++ [y]).length ((l ++ [y]).map enc).flatten ∧ Below B z w' ∧ Chg e z w') ∧ Near (fun i => some i = u.ownBlock) z w' := by
  have hzs' := hz.size
  have hown2 := own_old hown hz
  obtain ⟨v', w', h1, h2, h3⟩ := run_app4 (c := 1) (ty := o.type) (m := [y]) ht hi hz0 hs0 hy hzs hsz hlen hone hown2 ((els_new (w := x) (e := e) hlen y y).carry hz) hn hby (by simp at hzs'; omega)
  exact ⟨v', w', exec_append s r ho hs hr h1, ⟨h2, grown_below hown2 (Below.refl _ _) h3 (by simp at hzs'; omega), Chg.grown hown2 h3⟩, ⟨h3.os, h3.tape, h3.output, h3.size, fun i hi hn => h3.block i hi hn⟩⟩
end
theorem run_buildI (x0 x1 x2 x3 x4 x5 x6 : Int) (x : World) : (Instr.buildSlice 27 1 #[(0, .agg #[.int .i64 x0, .int .i64 x1, .int .i64 x2, .int .i64 x3, .int .i64 x4, .int .i64 x5, .int .i64 x6])]).run Try.prog x = .ok (.slice (some ⟨x.heap.size, 0, none⟩) 1 1) (x.alloc (.cells #[.int .i64 x0, .int .i64 x1, .int .i64 x2, .int .i64 x3, .int .i64 x4, .int .i64 x5, .int .i64 x6] 49)) := by
  simp [go_sem]
theorem build_I (o : Oper) (a : Act) (y : I7) (s : Operand) (ho : o.op = .buildSlice 27 1 #[(0, s)]) (hs : a.eval s = itm y) (x : World) :
    (execOp a.eval o).run Try.prog x = .ok (.value (.slice (some ⟨x.heap.size, 0, none⟩) 1 1)) (x.alloc (.cells (encI y).toArray 49)) := by
  unfold execOp
  unfold itm at hs
  simp only [ho, List.map_toArray, List.map_cons, List.map_nil, hs, Sem.run_bind, run_buildI, Result.andThen_ok, Sem.run_pure]
  rfl
theorem run_buildZ (Z : Int) (x : World) : (Instr.buildSlice 73 1 #[(0, .int .i64 Z)]).run Try.prog x = .ok (.slice (some ⟨x.heap.size, 0, none⟩) 1 1) (x.alloc (.cells #[.int .i64 Z] 24)) := by
  simp [go_sem]
theorem build_Z (o : Oper) (a : Act) (Z : Int) (s : Operand) (ho : o.op = .buildSlice 73 1 #[(0, s)]) (hs : a.eval s = .int .i64 Z) (x : World) :
    (execOp a.eval o).run Try.prog x = .ok (.value (.slice (some ⟨x.heap.size, 0, none⟩) 1 1)) (x.alloc (.cells (encZ Z).toArray 24)) := by
  unfold execOp
  simp only [ho, List.map_toArray, List.map_cons, List.map_nil, hs, Sem.run_bind, run_buildZ, Result.andThen_ok, Sem.run_pure]
  rfl
/-- What stands while the document's Snap goes on. -/
structure RsS (w V : World) (O : Nat) (j : J4) (s : S3) (jo : J4) (so : S3) : Prop where
  job : JobAt V w.heap.size j s
  room : JobAt V (w.heap.size + 1) zeroJ zeroS4
  out : JobAt V O jo so
  low : w.heap.size + 2 ≤ O
  lt : O < V.heap.size
  bel : Below w.heap.size w V
theorem RsS.step {w V x : World} {O : Nat} {j jo : J4} {s so : S3} (h : RsS w V O j s jo so) (hx : Below (O + 1) V x) : RsS w x O j s jo so := by
  have k : ∀ {b : Nat} {J : J4} {S : S3}, b < O + 1 → JobAt V b J S → JobAt x b J S := fun hb hj => (hx.block _ hb).trans hj
  have := h.low
  exact ⟨k (by omega) h.job, k (by omega) h.room, k (by omega) h.out, h.low, Nat.lt_of_lt_of_le h.lt hx.size, h.bel.trans (hx.mono (by omega))⟩
theorem RsS.old {w V x : World} {O : Nat} {j jo : J4} {s so : S3} (h : RsS w V O j s jo so) (hx : Old V x) : RsS w x O j s jo so := h.step (hx.mono h.lt)
theorem RsS.set {w V : World} {O : Nat} {j jo jo' : J4} {s so so' : S3} (h : RsS w V O j s jo so) (i : Nat) (v : Value) (hj : JobAt (V.setCell ⟨O, i, none⟩ v) O jo' so') : RsS w (V.setCell ⟨O, i, none⟩ v) O j s jo' so' := by
  have := h.low
  exact ⟨h.job.other (by omega) _ _, h.room.other (by omega) _ _, hj, h.low, by simpa using h.lt, h.bel.setCell (p := ⟨O, i, none⟩) (by simp; omega) _⟩
end Go.Proofs.Ytjfjekncmejfpaa
namespace Go.Proofs.Ytjfjekncmejfpaa
open Go.RowKit
set_option maxRecDepth 20000
set_option linter.unusedVariables false
set_option linter.unusedSimpArgs false

theorem own_form {w : World} {B : Nat} {e : TypeId} {sz : Nat} {v : Value} {n : Nat} {xs : List Value} (h : w.ownsRow B e sz v n xs) : ∃ a c, v = .slice a n c ∧ n ≤ c ∧ c ≤ maxLen := by
  rcases h.2 with ⟨rfl, h0⟩ | ⟨g, cap, cur, rfl, _, _, h1, h2, _⟩
  · exact ⟨none, 0, by rw [h0], by omega, by decide⟩
  · exact ⟨_, _, rfl, h1, h2⟩
theorem JobAt.newI {w : World} {b : Nat} {j : J4} {s : S3} (h : JobAt w b j s) (l : List I7) (a : Option Addr) (c : Nat) : JobAt (w.setCell ⟨b, 19, none⟩ (.slice a l.length c)) b { j with items := l } { s with ia := a, ic := c } := Blk.set h 19 _
theorem JobAt.newN {w : World} {b : Nat} {j : J4} {s : S3} (h : JobAt w b j s) (l : List N2) (a : Option Addr) (c : Nat) : JobAt (w.setCell ⟨b, 20, none⟩ (.slice a l.length c)) b { j with notes := l } { s with na := a, nc := c } := Blk.set h 20 _
theorem JobAt.newF {w : World} {b : Nat} {j : J4} {s : S3} (h : JobAt w b j s) (l : List F3) (a : Option Addr) (c : Nat) : JobAt (w.setCell ⟨b, 21, none⟩ (.slice a l.length c)) b { j with floats := l } { s with fa := a, fc := c } := Blk.set h 21 _
/-- In the loop over the items. -/
def RsI1 (w wr : World) (O : Nat) (j : J4) (s : S3) (t : Int) (L : List I7) : Prop :=
  ∃ a c, (L.length ≤ c ∧ c ≤ maxLen) ∧ RsS w wr O j s ⟨snapG j.g t, L, [], []⟩ ⟨a, c, none, 0, none, 0⟩ ∧ wr.ownsRow (O + 1) 49 7 (.slice a L.length c) L.length (L.map encI).flatten
theorem wpList_app5 {α : Type} {sz : Nat} {enc : α → List Value} {w : World} {ad : Option Addr} {e : TypeId} {B : Nat} {ops : Array Oper} {rest : List Oper} {o : Oper} {act : Act} {Q : Exit → Act → World → Prop} {w0 : World} (hgd : o.guard = none) (s x : Operand) {t : TypeId} (ho : o.op = .call { callee := .builtin .append, args := #[s, x], argTypes := #[t, t] })
    {i : TypeInfo} {z : Value} {bytes : Nat} {v : Value} {l m : List α} {d : α} {c : Nat} (ht : Try.prog.underlying t = some (.slice e)) (hi : Try.prog.info? e = some i) (hz : i.zero = some z) (hs : i.size = sz) (hy : i.bytes = bytes) (hzs : z.cells.size = sz) (hsz : 0 < sz)
    (hlen : ∀ x, (enc x).length = sz) (hone : ∀ x, ∀ u ∈ enc x, u.oneCell' = true) (hev : act.eval s = v) (hown : w.ownsRow B e sz v l.length (l.map enc).flatten) (hex : act.eval x = .slice ad m.length c) (hr : Els sz enc w ad m.length fun k => m.getD k d) (hn : l.length + m.length ≤ maxLen) (hby : (l.length + m.length) * bytes ≤ 140737488355328) (hb : Below B w0 w) (hB : B ≤ w.heap.size)
    (h : ∀ v' w', w'.ownsRow B e sz v' (l ++ m).length ((l ++ m).map enc).flatten → Below B w0 w' → Chg e w w' → wpList Try.prog ops Q rest (act.put o.dst v') w') : wpList Try.prog ops Q (o :: rest) act w := by
  obtain ⟨v', w', hrun, h2, h3⟩ := run_app4 (c := c) (ty := o.type) ht hi hz hs hy hzs hsz hlen hone hown hr hn hby hB
  refine wpList_plain hgd fun _ hK => ?_
  unfold Oper.wp execOp
  simp only [ho, resolve, invoke, builtin, Sem.run_bind, Sem.run_pure, Result.andThen_ok, List.map_toArray, List.map_cons, List.map_nil, hev, hex, hrun]
  exact hK _ _ (h v' w' h2 (grown_below hown hb h3 hB) (Chg.grown hown h3))
/-- A note that the document's Snap made: lines of its own, the penalties that were. -/
def NoteR (B : Nat) (wr : World) (h h0 : H2) (n : N2) : Prop := h.ll = n.l.length ∧ (h.ll ≤ h.lc ∧ h.lc ≤ maxLen) ∧ (OwnE 24 1 encZ B wr h.la n.l.length fun k => n.l.getD k 0) ∧ h.pa = h0.pa ∧ h.pl = h0.pl ∧ h.pc = h0.pc
theorem NoteR.chg {B : Nat} {w x : World} {h h0 : H2} {n : N2} (H : NoteR B w h h0 n) {T : TypeId} (hc : Chg T w x) (hT : (24 : TypeId) ≠ T) : NoteR B x h h0 n := ⟨H.1, H.2.1, H.2.2.1.chg hc hT, H.2.2.2⟩
theorem NoteR.old {B : Nat} {w x : World} {h h0 : H2} {n : N2} (H : NoteR B w h h0 n) (hx : Old w x) : NoteR B x h h0 n := ⟨H.1, H.2.1, H.2.2.1.old hx, H.2.2.2⟩
/-- In the loop over the notes: IT the items, hd the headers so far. -/
def RsI2 (w wr : World) (O : Nat) (j : J4) (s : S3) (t : Int) (IT : List I7) (hs0 : Nat → H2) (L : List N2) : Prop :=
  ∃ (ia : Option Addr) (ic : Nat) (a : Option Addr) (c : Nat) (hd : List H2), ((IT.length ≤ ic ∧ ic ≤ maxLen) ∧ L.length ≤ c ∧ c ≤ maxLen) ∧ RsS w wr O j s ⟨snapG j.g t, IT, L, []⟩ ⟨ia, ic, a, c, none, 0⟩ ∧ (OwnE 49 7 encI (O + 1) wr ia IT.length fun k => IT.getD k zeroI) ∧ hd.length = L.length ∧ wr.ownsRow (O + 1) 76 2 (.slice a L.length c) hd.length (hd.map encH).flatten ∧ ∀ i, i < L.length → NoteR (O + 1) wr (hd.getD i zeroH) (hs0 i) (L.getD i zeroN)
/-- In the loop over the lines of a note: the note lies in block q. -/
def RsI4 (V wx : World) (q : Nat) (pv : Value) (L : List Int) : Prop :=
  ∃ (a : Option Addr) (c : Nat), (L.length ≤ c ∧ c ≤ maxLen) ∧ Old V wx ∧ Blk wx q #[.slice a L.length c, pv] 76 ∧ wx.ownsRow (q + 1) 24 1 (.slice a L.length c) L.length (L.map encZ).flatten
theorem wpl_val {P : Program} {ops : Array Oper} {rest : List Oper} {o : Oper} {a : Act} {w w' : World} {Q : Exit → Act → World → Prop} {v : Value} (hgd : o.guard = none) (he : (execOp a.eval o).run P w = .ok (.value v) w') (hk : wpList P ops Q rest (a.put o.dst v) w') : wpList P ops Q (o :: rest) a w :=
  wpList_plain hgd fun K hK => by
    unfold Oper.wp
    rw [he]
    exact hK _ _ hk
theorem run_buildH (a : Option Addr) (n c : Nat) (a' : Option Addr) (n' c' : Nat) (x : World) : (Instr.buildSlice 28 1 #[(0, .agg #[.slice a n c, .slice a' n' c'])]).run Try.prog x = .ok (.slice (some ⟨x.heap.size, 0, none⟩) 1 1) (x.alloc (.cells #[.slice a n c, .slice a' n' c'] 76)) := by
  simp [go_sem]
theorem build_H (o : Oper) (act : Act) (h : H2) (s : Operand) (ho : o.op = .buildSlice 28 1 #[(0, s)]) (hs : act.eval s = .agg #[.slice h.la h.ll h.lc, .slice h.pa h.pl h.pc]) (x : World) :
    (execOp act.eval o).run Try.prog x = .ok (.value (.slice (some ⟨x.heap.size, 0, none⟩) 1 1)) (x.alloc (.cells (encH h).toArray 76)) := by
  unfold execOp
  simp only [ho, List.map_toArray, List.map_cons, List.map_nil, hs, Sem.run_bind, run_buildH, Result.andThen_ok, Sem.run_pure]
  rfl
theorem run_buildF (c h p : Int) (x : World) : (Instr.buildSlice 29 1 #[(0, .agg #[.int .i64 c, .int .i64 h, .int .i64 p])]).run Try.prog x = .ok (.slice (some ⟨x.heap.size, 0, none⟩) 1 1) (x.alloc (.cells #[.int .i64 c, .int .i64 h, .int .i64 p] 90)) := by
  simp [go_sem]
theorem build_F (o : Oper) (act : Act) (f : F3) (s : Operand) (ho : o.op = .buildSlice 29 1 #[(0, s)]) (hs : act.eval s = .agg #[.int .i64 f.c, .int .i64 f.h, .int .i64 f.p]) (x : World) :
    (execOp act.eval o).run Try.prog x = .ok (.value (.slice (some ⟨x.heap.size, 0, none⟩) 1 1)) (x.alloc (.cells (encF f).toArray 90)) := by
  unfold execOp
  simp only [ho, List.map_toArray, List.map_cons, List.map_nil, hs, Sem.run_bind, run_buildF, Result.andThen_ok, Sem.run_pure]
  rfl
theorem getD_app_lt {α : Type} {l : List α} {x d : α} {i : Nat} (h : i < l.length) : (l ++ [x]).getD i d = l.getD i d := by
  rw [List.getD_eq_getElem?_getD, List.getD_eq_getElem?_getD, List.getElem?_append_left h]
theorem getD_app_eq {α : Type} {l : List α} {x d : α} {i : Nat} (h : i = l.length) : (l ++ [x]).getD i d = x := by
  subst h
  rw [List.getD_eq_getElem?_getD, List.getElem?_append_right (Nat.le_refl _), Nat.sub_self]
  rfl
theorem NoteR.other {B : Nat} {w : World} {h h0 : H2} {n : N2} (H : NoteR B w h h0 n) {b : Nat} (hb : b < B) (i : Nat) (v : Value) : NoteR B (w.setCell ⟨b, i, none⟩ v) h h0 n := ⟨H.1, H.2.1, H.2.2.1.other hb i v, H.2.2.2⟩
/-- In the loop over the floats: IT the items, NT the notes. -/
def RsI3 (w wr : World) (O : Nat) (j : J4) (s : S3) (t : Int) (IT : List I7) (NT : List N2) (hs0 : Nat → H2) (L : List F3) : Prop :=
  ∃ (ia : Option Addr) (ic : Nat) (na : Option Addr) (nc : Nat) (a : Option Addr) (c : Nat) (hs : Nat → H2), ((IT.length ≤ ic ∧ ic ≤ maxLen) ∧ (NT.length ≤ nc ∧ nc ≤ maxLen) ∧ L.length ≤ c ∧ c ≤ maxLen) ∧ RsS w wr O j s ⟨snapG j.g t, IT, NT, L⟩ ⟨ia, ic, na, nc, a, c⟩ ∧ (OwnE 49 7 encI (O + 1) wr ia IT.length fun k => IT.getD k zeroI) ∧ OwnE 76 2 encH (O + 1) wr na NT.length hs ∧ (∀ i, i < NT.length → NoteR (O + 1) wr (hs i) (hs0 i) (NT.getD i zeroN)) ∧ wr.ownsRow (O + 1) 90 3 (.slice a L.length c) L.length (L.map encF).flatten
theorem RsI3_step {w wr w5 : World} {O : Nat} {j : J4} {s : S3} {t : Int} {IT : List I7} {NT : List N2} {hs0 hs : Nat → H2} {L : List F3} {y : F3} {ia na a a5 : Option Addr} {ic nc c c5 : Nat} (c1 : IT.length ≤ ic ∧ ic ≤ maxLen) (c2 : NT.length ≤ nc ∧ nc ≤ maxLen) (c3 : (L ++ [y]).length ≤ c5 ∧ c5 ≤ maxLen)
    (R5 : RsS w w5 O j s ⟨snapG j.g t, IT, NT, L⟩ ⟨ia, ic, na, nc, a, c⟩) (hI : OwnE 49 7 encI (O + 1) wr ia IT.length fun k => IT.getD k zeroI) (hH : OwnE 76 2 encH (O + 1) wr na NT.length hs) (hN : ∀ i, i < NT.length → NoteR (O + 1) wr (hs i) (hs0 i) (NT.getD i zeroN)) (hc : Chg 90 wr w5)
    (hown : w5.ownsRow (O + 1) 90 3 (.slice a5 (L ++ [y]).length c5) (L ++ [y]).length ((L ++ [y]).map encF).flatten) : RsI3 w (w5.setCell ⟨O, 21, none⟩ (.slice a5 (L ++ [y]).length c5)) O j s t IT NT hs0 (L ++ [y]) := by
  have hO : O < O + 1 := Nat.lt_succ_self O
  have h1 := (hI.chg hc (by decide)).other hO 21 (.slice a5 (L ++ [y]).length c5)
  have h2 := (hH.chg hc (by decide)).other hO 21 (.slice a5 (L ++ [y]).length c5)
  have h3 := fun i hi => ((hN i hi).chg hc (by decide)).other hO 21 (.slice a5 (L ++ [y]).length c5)
  have h4 := R5.out.newF (L ++ [y]) a5 c5
  have h5 := R5.set 21 _ h4
  have h6 := ownsRow_setCell_below hown (a := ⟨O, 21, none⟩) hO (.slice a5 (L ++ [y]).length c5)
  exact ⟨ia, ic, na, nc, a5, c5, hs, ⟨c1, c2, c3⟩, h5, h1, h2, h3, h6⟩
end Go.Proofs.Ytjfjekncmejfpaa
