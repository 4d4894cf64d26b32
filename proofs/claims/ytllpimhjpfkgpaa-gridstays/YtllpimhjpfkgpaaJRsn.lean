/- The document's Snap: what it needs. -/
import Derived.Test.YtllpimhjpfkgpaaJFr2
import Derived.Test.YtllpimhjpfkgpaaDetX
namespace Go.Proofs.Ytllpimhjpfkgpaa
open Go.RowKit
set_option maxRecDepth 20000
set_option linter.unusedVariables false
set_option linter.unusedSimpArgs false

theorem grown_old {A B : World} (h : Below A.heap.size A B) : A.grownBy B none := ⟨h.os, h.tape, h.output, h.size, fun k hk _ => h.block k hk⟩
theorem own_old {w w' : World} {e : TypeId} {sz base : Nat} {v : Value} {k : Nat} {xs : List Value} (h : w.ownsRow base e sz v k xs) (hb : Old w w') : w'.ownsRow base e sz v k xs :=
  h.kept (row := none) (grown_old hb) (by
    rcases h.2 with ⟨rfl, _⟩ | ⟨g, cap, cur, rfl, _⟩
    · exact .inl rfl
    · exact .inr (by simp [Value.ownBlock]))
theorem own_ge {w : World} {B : Nat} {e : TypeId} {sz : Nat} {v : Value} {k : Nat} {xs : List Value} (h : w.ownsRow B e sz v k xs) : ∀ i, some i = v.ownBlock → B ≤ i := by
  intro i e
  rcases h.2 with ⟨rfl, _⟩ | ⟨g, cap, cur, rfl, hb, _⟩
  · simp [Value.ownBlock] at e
  · simp [Value.ownBlock] at e; omega
theorem near_at {M : Nat → Prop} {w x : World} {b i : Nat} {v : Value} (hx : Near M w x) (h : w.cell? ⟨b, i, none⟩ = some v) (hb : ¬ M b) : x.cell? ⟨b, i, none⟩ = some v :=
  (World.cell?_of_block (a := ⟨b, i, none⟩) (hx.block b (World.block_lt_of_cell? _ _ h) hb)).trans h
/-- All blocks of other types stand. -/
structure Chg (T : TypeId) (w w' : World) : Prop where
  size : w.heap.size ≤ w'.heap.size
  block : ∀ k cs T', Blk w k cs T' → T' ≠ T → Blk w' k cs T'
theorem Chg.of_old {T : TypeId} {w w' : World} (h : Old w w') : Chg T w w' := ⟨h.size, fun k cs T' hk _ => hk.old h⟩
theorem Chg.trans {T : TypeId} {a b c : World} (h : Chg T a b) (k : Chg T b c) : Chg T a c := ⟨Nat.le_trans h.size k.size, fun i cs T' hi ht => k.block i cs T' (h.block i cs T' hi ht) ht⟩
theorem Chg.set {w : World} {b : Nat} {cs : Array Value} {T : TypeId} (h : Blk w b cs T) (i : Nat) (v : Value) : Chg T w (w.setCell ⟨b, i, none⟩ v) :=
  ⟨by simp, fun k cs' T' hk ht => hk.other (by
    rintro rfl
    unfold Blk at h hk
    rw [h] at hk
    simp only [Option.some.injEq, Obj.cells.injEq] at hk
    exact ht hk.2.1.symm) i v⟩
theorem Chg.grown {w w' : World} {B : Nat} {T : TypeId} {sz : Nat} {v : Value} {k : Nat} {xs : List Value} (hown : w.ownsRow B T sz v k xs) (hg : w.grownBy w' v.ownBlock) : Chg T w w' := by
  refine ⟨hg.size, fun i cs T' hi ht => (hg.block i hi.lt fun e => ?_).trans hi⟩
  rcases hown.2 with ⟨rfl, _⟩ | ⟨g, cap, cur, rfl, _, h, _⟩
  · simp [Value.ownBlock] at e
  · obtain rfl : g = i := by simpa [Value.ownBlock, eq_comm] using e
    unfold Blk at hi
    rw [h] at hi
    simp only [Option.some.injEq, Obj.cells.injEq] at hi
    exact ht hi.2.1.symm
theorem OwnE.chg {α : Type} {e : TypeId} {sz : Nat} {enc : α → List Value} {B : Nat} {w x : World} {a : Option Addr} {n : Nat} {F : Nat → α} (h : OwnE e sz enc B w a n F) {T : TypeId} (hc : Chg T w x) (hT : e ≠ T) : OwnE e sz enc B x a n F := by
  rcases h with h | ⟨g, cur, h1, h2, h3, h4⟩
  · exact .inl h
  · exact .inr ⟨g, cur, h1, h2, hc.block g cur e h3 hT, h4⟩
section
variable {α : Type} {sz : Nat} {enc : α → List Value} {e : TypeId} {B : Nat}
/-- One element more. -/
theorem app_E {t : TypeId} {i : TypeInfo} {z0 : Value} {bytes : Nat} (ht : Try.prog.underlying t = some (.slice e)) (hi : Try.prog.info? e = some i) (hz0 : i.zero = some z0) (hs0 : i.size = sz) (hy : i.bytes = bytes) (hzs : z0.cells.size = sz) (hsz : 0 < sz) (hlen : ∀ x, (enc x).length = sz) (hone : ∀ x, ∀ u ∈ enc x, u.oneCell' = true)
    (x z : World) (u : Value) (y : α) {l : List α} (o : Oper) (a : Act) (s r : Operand) (ho : o.op = .call { callee := .builtin .append, args := #[s, r], argTypes := #[t, t] }) (hs : a.eval s = u) (hr : a.eval r = .slice (some ⟨x.heap.size, 0, none⟩) 1 1)
    (hown : (x.alloc (.cells (enc y).toArray e)).ownsRow B e sz u l.length (l.map enc).flatten) (hz : Old (x.alloc (.cells (enc y).toArray e)) z) (hn : l.length + 1 ≤ maxLen) (hby : (l.length + 1) * bytes ≤ 140737488355328) (hB : B ≤ x.heap.size) :
    ∃ v' w', (execOp a.eval o).run Try.prog z = .ok (.value v') w' ∧ (w'.ownsRow B e sz v' (l ++ [y]).length ((l ++ [y]).map enc).flatten ∧ Below B z w' ∧ Chg e z w') ∧ Near (fun i => some i = u.ownBlock) z w' := by
  have hzs' := hz.size
  have hown2 := own_old hown hz
  obtain ⟨v', w', h1, h2, h3⟩ := run_app4 (c := 1) (ty := o.type) (m := [y]) ht hi hz0 hs0 hy hzs hsz hlen hone hown2 ((els_new (w := x) (e := e) hlen y y).carry hz) hn hby (by simp at hzs'; omega)
  exact ⟨v', w', exec_append s r ho hs hr h1, ⟨h2, grown_below hown2 (Below.refl _ _) h3 (by simp at hzs'; omega), Chg.grown hown2 h3⟩, ⟨h3.os, h3.tape, h3.output, h3.size, fun i hi hn => h3.block i hi hn⟩⟩
end
theorem run_buildI (x0 x1 x2 x3 x4 x5 x6 : Int) (x : World) : (Instr.buildSlice 25 1 #[(0, .agg #[.int .i64 x0, .int .i64 x1, .int .i64 x2, .int .i64 x3, .int .i64 x4, .int .i64 x5, .int .i64 x6])]).run Try.prog x = .ok (.slice (some ⟨x.heap.size, 0, none⟩) 1 1) (x.alloc (.cells #[.int .i64 x0, .int .i64 x1, .int .i64 x2, .int .i64 x3, .int .i64 x4, .int .i64 x5, .int .i64 x6] 39)) := by
  simp [go_sem]
theorem build_I (o : Oper) (a : Act) (y : I7) (s : Operand) (ho : o.op = .buildSlice 25 1 #[(0, s)]) (hs : a.eval s = itm y) (x : World) :
    (execOp a.eval o).run Try.prog x = .ok (.value (.slice (some ⟨x.heap.size, 0, none⟩) 1 1)) (x.alloc (.cells (encI y).toArray 39)) := by
  unfold execOp
  unfold itm at hs
  simp only [ho, List.map_toArray, List.map_cons, List.map_nil, hs, Sem.run_bind, run_buildI, Result.andThen_ok, Sem.run_pure]
  rfl
theorem run_buildZ (Z : Int) (x : World) : (Instr.buildSlice 34 1 #[(0, .int .i64 Z)]).run Try.prog x = .ok (.slice (some ⟨x.heap.size, 0, none⟩) 1 1) (x.alloc (.cells #[.int .i64 Z] 22)) := by
  simp [go_sem]
theorem build_Z (o : Oper) (a : Act) (Z : Int) (s : Operand) (ho : o.op = .buildSlice 34 1 #[(0, s)]) (hs : a.eval s = .int .i64 Z) (x : World) :
    (execOp a.eval o).run Try.prog x = .ok (.value (.slice (some ⟨x.heap.size, 0, none⟩) 1 1)) (x.alloc (.cells (encZ Z).toArray 22)) := by
  unfold execOp
  simp only [ho, List.map_toArray, List.map_cons, List.map_nil, hs, Sem.run_bind, run_buildZ, Result.andThen_ok, Sem.run_pure]
  rfl
/-- What stands while the document's Snap goes on. -/
structure RsS (w V : World) (O : Nat) (j : J4) (s : S3) (jo : J4) (so : S3) : Prop where
  job : JobAt V w.heap.size j s
  room : JobAt V (w.heap.size + 1) zeroJ zeroS
  out : JobAt V O jo so
  low : w.heap.size + 2 ≤ O
  lt : O < V.heap.size
  bel : Below w.heap.size w V
theorem RsS.step {w V x : World} {O : Nat} {j jo : J4} {s so : S3} (h : RsS w V O j s jo so) (hx : Below (O + 1) V x) : RsS w x O j s jo so := by
  have k : ∀ {b : Nat} {J : J4} {S : S3}, b < O + 1 → JobAt V b J S → JobAt x b J S := fun hb hj => (hx.block _ hb).trans hj
  have := h.low
  exact ⟨k (by omega) h.job, k (by omega) h.room, k (by omega) h.out, h.low, Nat.lt_of_lt_of_le h.lt hx.size, h.bel.trans (hx.mono (by omega))⟩
theorem RsS.old {w V x : World} {O : Nat} {j jo : J4} {s so : S3} (h : RsS w V O j s jo so) (hx : Old V x) : RsS w x O j s jo so := h.step (hx.mono h.lt)
theorem RsS.set {w V : World} {O : Nat} {j jo jo' : J4} {s so so' : S3} (h : RsS w V O j s jo so) (i : Nat) (v : Value) (hj : JobAt (V.setCell ⟨O, i, none⟩ v) O jo' so') : RsS w (V.setCell ⟨O, i, none⟩ v) O j s jo' so' := by
  have := h.low
  exact ⟨h.job.other (by omega) _ _, h.room.other (by omega) _ _, hj, h.low, by simpa using h.lt, h.bel.setCell (p := ⟨O, i, none⟩) (by simp; omega) _⟩
end Go.Proofs.Ytllpimhjpfkgpaa
