/- The document's Near; items, lines and geometries brought to a grid, in place and by value. Items, lines and geometries brought to a grid in place. -/
import Derived.Test.YtjfjekncmejfpaaJNum
import Derived.Test.YtjfjekncmejfpaaNSame
import Derived.Test.YtjfjekncmejfpaaEAw
import Derived.Deep.MidRow
namespace Go.Proofs.Ytjfjekncmejfpaa
open Go.RowKit
set_option maxRecDepth 20000
set_option linter.unusedVariables false
set_option linter.unusedSimpArgs false

/-! ### Items -/
def encI (x : I7) : List Value := [.int .i64 x.k, .int .i64 x.h, .int .i64 x.f, .int .i64 x.s, .int .i64 x.o, .int .i64 x.r, .int .i64 x.n]
def encF (x : F3) : List Value := [.int .i64 x.c, .int .i64 x.h, .int .i64 x.p]
def encZ (x : Int) : List Value := [.int .i64 x]
theorem encI_len (x : I7) : (encI x).length = 7 := rfl
theorem encF_len (x : F3) : (encF x).length = 3 := rfl
theorem encZ_len (x : Int) : (encZ x).length = 1 := rfl
theorem encI_one : ∀ x, ∀ u ∈ encI x, u.oneCell' = true := fun x u hu => by
  simp only [encI, List.mem_cons, List.not_mem_nil, or_false] at hu
  rcases hu with rfl | rfl | rfl | rfl | rfl | rfl | rfl <;> rfl
theorem encF_one : ∀ x, ∀ u ∈ encF x, u.oneCell' = true := fun x u hu => by
  simp only [encF, List.mem_cons, List.not_mem_nil, or_false] at hu
  rcases hu with rfl | rfl | rfl <;> rfl
theorem encZ_one : ∀ x, ∀ u ∈ encZ x, u.oneCell' = true := fun x u hu => by
  simp only [encZ, List.mem_cons, List.not_mem_nil, or_false] at hu
  subst hu; rfl
theorem Blk.set7j {w : World} {g : Nat} {T : TypeId} {u0 u1 u2 u3 u4 u5 u6 : Value} (h : Blk w g #[u0, u1, u2, u3, u4, u5, u6] T) (v0 v1 v2 v3 v4 v5 v6 : Value) : Blk (((((((w.setCell ⟨g, 0, none⟩ v0).setCell ⟨g, 1, none⟩ v1).setCell ⟨g, 2, none⟩ v2).setCell ⟨g, 3, none⟩ v3).setCell ⟨g, 4, none⟩ v4).setCell ⟨g, 5, none⟩ v5).setCell ⟨g, 6, none⟩ v6) g #[v0, v1, v2, v3, v4, v5, v6] T := by
  simpa using ((((((h.set 0 v0).set 1 v1).set 2 v2).set 3 v3).set 4 v4).set 5 v5).set 6 v6
theorem info39 : (Try.prog.info? 49).map (·.size) = some 7 := by kernel_rfl
end Go.Proofs.Ytjfjekncmejfpaa
namespace Go.Proofs.Ytjfjekncmejfpaa
open Go.RowKit
set_option maxRecDepth 20000
set_option linter.unusedVariables false
set_option linter.unusedSimpArgs false

/-- Nothing is turned but block g. -/
structure Sole (g : Nat) (w w' : World) : Prop where
  os : w'.os = w.os
  tape : w'.tape = w.tape
  output : w'.output = w.output
  size : w'.heap.size = w.heap.size
  block : ∀ k, k ≠ g → w'.heap[k]? = w.heap[k]?
theorem Sole.refl (g : Nat) (w : World) : Sole g w w := ⟨rfl, rfl, rfl, rfl, fun _ _ => rfl⟩
theorem Sole.trans {g : Nat} {w x y : World} (h : Sole g w x) (k : Sole g x y) : Sole g w y :=
  ⟨k.os.trans h.os, k.tape.trans h.tape, k.output.trans h.output, k.size.trans h.size, fun i hi => (k.block i hi).trans (h.block i hi)⟩
theorem Sole.set {g : Nat} (w : World) (i : Nat) (v : Value) : Sole g w (w.setCell ⟨g, i, none⟩ v) :=
  ⟨rfl, rfl, rfl, by simp, fun k hk => Below.heap_setCell _ _ _ _ hk⟩
theorem Sole.below {g B : Nat} {w x y : World} (h : Below B w x) (k : Sole g x y) (hB : B ≤ g) : Below B w y :=
  h.trans ⟨k.os, k.tape, k.output, by rw [k.size]; exact Nat.le_refl _, fun i hi => k.block i (by omega)⟩
theorem Blk.sole {g b : Nat} {w x : World} {cs : Array Value} {T : TypeId} (h : Blk w b cs T) (k : Sole g w x) (hb : b ≠ g) : Blk x b cs T := (k.block b hb).trans h
/-- An array whose element k has been turned. -/
theorem turned {α : Type} {sz : Nat} {enc : α → List Value} {cur cur' : Array Value} {n i : Nat} {F : Nat → α} {y : α} (hi : i < n) (hlen : ∀ x, (enc x).length = sz)
    (hc : ∀ k j, k < n → j < sz → cur[k * sz + j]? = (enc (F k))[j]?) (hout : ∀ m, (m < i * sz ∨ i * sz + sz ≤ m) → cur'[m]? = cur[m]?) (hin : ∀ j, j < sz → cur'[i * sz + j]? = (enc y)[j]?) :
    ∀ k j, k < n → j < sz → cur'[k * sz + j]? = (enc (if k = i then y else F k))[j]? := fun k j hk hj => by
  by_cases e : k = i
  · subst e
    rw [if_pos rfl]
    exact hin j hj
  · rw [if_neg e, hout _ ?_, hc k j hk hj]
    rcases Nat.lt_or_gt_of_ne e with h | h
    · have := Nat.mul_le_mul_right sz (show k + 1 ≤ i by omega)
      rw [Nat.add_mul] at this
      omega
    · have := Nat.mul_le_mul_right sz (show i + 1 ≤ k by omega)
      rw [Nat.add_mul] at this
      omega
theorem set_in {cur : Array Value} {i : Nat} {u v : Value} (h : cur[i]? = some u) : (cur.setIfInBounds i v)[i]? = some v := by
  have hi : i < cur.size := (Array.getElem?_eq_some_iff.1 h).1
  rw [Array.getElem?_setIfInBounds_self_of_lt hi]
theorem set_out {cur : Array Value} {i m : Nat} {v : Value} (h : i ≠ m) : (cur.setIfInBounds i v)[m]? = cur[m]? := Array.getElem?_setIfInBounds_ne h
/-! ### Jobs -/
/-- Where the lists of a job lie. -/
structure S3 where
  ia : Option Addr
  ic : Nat
  na : Option Addr
  nc : Nat
  fa : Option Addr
  fc : Nat
/-- The cells of a job. -/
def jobC (j : J4) (s : S3) : Array Value := geoC j.g ++ #[.slice s.ia j.items.length s.ic, .slice s.na j.notes.length s.nc, .slice s.fa j.floats.length s.fc]
/-- What the cells of a job's block hold, whatever lies behind the geometry. -/
theorem geo_cells {w : World} {b : Nat} {g : G19} {T : TypeId} {cs : Array Value} (h : Blk w b (geoC g ++ cs) T) : w.cell? ⟨b, 0, none⟩ = some (.int .i64 g.cols) ∧ w.cell? ⟨b, 1, none⟩ = some (.int .i64 g.wide) ∧ w.cell? ⟨b, 2, none⟩ = some (.int .i64 g.gap) ∧ w.cell? ⟨b, 3, none⟩ = some (.int .i64 g.high) ∧ w.cell? ⟨b, 4, none⟩ = some (.int .i64 g.first) ∧ w.cell? ⟨b, 5, none⟩ = some (.int .i64 g.grid) ∧ w.cell? ⟨b, 6, none⟩ = some (.int .i64 g.rule) ∧ w.cell? ⟨b, 7, none⟩ = some (.int .i64 g.sep) ∧ w.cell? ⟨b, 8, none⟩ = some (.int .i64 g.nmost) ∧ w.cell? ⟨b, 9, none⟩ = some (.int .i64 g.tmost) ∧ w.cell? ⟨b, 10, none⟩ = some (.int .i64 g.bmost) ∧ w.cell? ⟨b, 11, none⟩ = some (.int .i64 g.tmany) ∧ w.cell? ⟨b, 12, none⟩ = some (.int .i64 g.bmany) ∧ w.cell? ⟨b, 13, none⟩ = some (.int .i64 g.club) ∧ w.cell? ⟨b, 14, none⟩ = some (.int .i64 g.widow) ∧ w.cell? ⟨b, 15, none⟩ = some (.int .i64 g.split) ∧ w.cell? ⟨b, 16, none⟩ = some (.int .i64 g.later) ∧ w.cell? ⟨b, 17, none⟩ = some (.int .i64 g.spare) ∧ w.cell? ⟨b, 18, none⟩ = some (.bool g.bal) := by
  have e : ∀ i, i < 19 → w.cell? ⟨b, i, none⟩ = (geoC g)[i]? := fun i hi => by
    rw [h.cell, Array.getElem?_append_left (by exact hi)]
  refine ⟨?_, ?_, ?_, ?_, ?_, ?_, ?_, ?_, ?_, ?_, ?_, ?_, ?_, ?_, ?_, ?_, ?_, ?_, ?_⟩ <;> (rw [e _ (by omega)]; rfl)
/-- A job lies in block b. -/
def JobAt (w : World) (b : Nat) (j : J4) (s : S3) : Prop := Blk w b (jobC j s) 31
theorem JobAt.old {w x : World} {b : Nat} {j : J4} {s : S3} (h : JobAt w b j s) (hx : Old w x) : JobAt x b j s := Blk.old h hx
theorem JobAt.three {w : World} {b : Nat} {j : J4} {s : S3} (h : JobAt w b j s) : w.cell? ⟨b, 19, none⟩ = some (.slice s.ia j.items.length s.ic) ∧ w.cell? ⟨b, 20, none⟩ = some (.slice s.na j.notes.length s.nc) ∧ w.cell? ⟨b, 21, none⟩ = some (.slice s.fa j.floats.length s.fc) := by
  have e : ∀ i, w.cell? ⟨b, 19 + i, none⟩ = #[Value.slice s.ia j.items.length s.ic, .slice s.na j.notes.length s.nc, .slice s.fa j.floats.length s.fc][i]? := fun i => by
    unfold JobAt at h
    rw [h.cell, jobC, Array.getElem?_append_right (show (geoC j.g).size ≤ 19 + i from Nat.le_add_right 19 i)]
    congr 1
    exact Nat.add_sub_cancel_left 19 i
  exact ⟨e 0, e 1, e 2⟩
theorem JobAt.geo {w : World} {b : Nat} {j : J4} {s : S3} (h : JobAt w b j s) : w.cell? ⟨b, 0, none⟩ = some (.int .i64 j.g.cols) ∧ w.cell? ⟨b, 1, none⟩ = some (.int .i64 j.g.wide) ∧ w.cell? ⟨b, 2, none⟩ = some (.int .i64 j.g.gap) ∧ w.cell? ⟨b, 3, none⟩ = some (.int .i64 j.g.high) ∧ w.cell? ⟨b, 4, none⟩ = some (.int .i64 j.g.first) ∧ w.cell? ⟨b, 5, none⟩ = some (.int .i64 j.g.grid) ∧ w.cell? ⟨b, 6, none⟩ = some (.int .i64 j.g.rule) ∧ w.cell? ⟨b, 7, none⟩ = some (.int .i64 j.g.sep) ∧ w.cell? ⟨b, 8, none⟩ = some (.int .i64 j.g.nmost) ∧ w.cell? ⟨b, 9, none⟩ = some (.int .i64 j.g.tmost) ∧ w.cell? ⟨b, 10, none⟩ = some (.int .i64 j.g.bmost) ∧ w.cell? ⟨b, 11, none⟩ = some (.int .i64 j.g.tmany) ∧ w.cell? ⟨b, 12, none⟩ = some (.int .i64 j.g.bmany) ∧ w.cell? ⟨b, 13, none⟩ = some (.int .i64 j.g.club) ∧ w.cell? ⟨b, 14, none⟩ = some (.int .i64 j.g.widow) ∧ w.cell? ⟨b, 15, none⟩ = some (.int .i64 j.g.split) ∧ w.cell? ⟨b, 16, none⟩ = some (.int .i64 j.g.later) ∧ w.cell? ⟨b, 17, none⟩ = some (.int .i64 j.g.spare) ∧ w.cell? ⟨b, 18, none⟩ = some (.bool j.g.bal) := geo_cells (cs := #[.slice s.ia j.items.length s.ic, .slice s.na j.notes.length s.nc, .slice s.fa j.floats.length s.fc]) h
theorem info29 : (Try.prog.info? 31).map (·.size) = some 22 := by kernel_rfl
theorem jobC_size (j : J4) (s : S3) : (jobC j s).size = 22 := rfl
theorem job_new (w : World) (j : J4) (s : S3) : JobAt (w.alloc (.cells (jobC j s) 31)) w.heap.size j s := blk_new w (jobC j s) 31
/-- A job is loaded whole. -/
theorem load_job {o : Oper} {a : Act} {w : World} {j : J4} {s : S3} {b : Nat} (x : Operand) (ho : o.op = .load 31 x) (hx : a.eval x = .pointer (some ⟨b, 0, none⟩)) (h : JobAt w b j s) :
    (execOp a.eval o).run Try.prog w = .ok (.value (.agg (jobC j s))) w := by
  unfold execOp
  simp only [ho, hx, Instr.loadAt, Instr.sureAddr, Sem.run_bind, Sem.run_pure, Result.andThen_ok, run_loadVar_row w b 31 31 (jobC j s) (0, 0) _ h Try.underlying31 rfl info29]
/-- The geometry of a job is loaded whole. -/
theorem load_jgeo {o : Oper} {a : Act} {w : World} {j : J4} {s : S3} {b : Nat} (x : Operand) (ho : o.op = .load 26 x) (hx : a.eval x = .pointer (some ⟨b, 0, none⟩)) (h : JobAt w b j s) :
    (execOp a.eval o).run Try.prog w = .ok (.value (.agg (geoC j.g))) w := by
  have hc : w.rangeAt b 0 (geoC j.g).toList := fun i v hv => by
    have hi : i < 19 := (List.getElem?_eq_some_iff.1 hv).1
    rw [Nat.zero_add, h.cell, jobC, Array.getElem?_append_left hi, ← Array.getElem?_toList]
    exact hv
  unfold execOp
  simp only [ho, hx, Sem.run_bind, Sem.run_pure, Result.andThen_ok, run_loadAt_mid w b 0 26 (geoC j.g).toList _ hc Try.underlying26 rfl info24]
theorem job_one (j : J4) (s : S3) : (jobC j s).all (·.oneCell') = true := by
  unfold jobC
  rw [Array.all_append, geo_one]
  simp [Value.oneCell']
theorem store_job {ops : Array Oper} {rest : List Oper} {o : Oper} {a : Act} {w : World} {Q : Exit → Act → World → Prop} {b : Nat} {j j' : J4} {s s' : S3} (hgd : o.guard = none) (x y : Operand) (ho : o.op = .store 31 x y)
    (hx : a.eval x = .pointer (some ⟨b, 0, none⟩)) (hy : a.eval y = .agg (jobC j s)) (hb : JobAt w b j' s') (hk : wpList Try.prog ops Q rest (a.put o.dst undef) (w.setRow b (jobC j s))) : wpList Try.prog ops Q (o :: rest) a w :=
  wpList_store_row hgd 31 x y ho b (jobC j s) hx hy 31 (jobC j' s') hb info29 rfl (job_one j s) hk
theorem JobAt.row {w : World} {b : Nat} {j' : J4} {s' : S3} (H : JobAt w b j' s') (j : J4) (s : S3) : JobAt (w.setRow b (jobC j s)) b j s := Blk.row H (jobC j s)
theorem JobAt.row_other {w : World} {b c : Nat} {j : J4} {s : S3} (H : JobAt w b j s) (hb : b ≠ c) (ds : Array Value) : JobAt (w.setRow c ds) b j s := Blk.row_other H hb ds
def zeroG4 : G19 := ⟨0, 0, 0, 0, 0, 0, 0, 0, 0, 0, 0, 0, 0, 0, 0, 0, 0, 0, false⟩
def zeroJ : J4 := ⟨zeroG4, [], [], []⟩
def zeroS4 : S3 := ⟨none, 0, none, 0, none, 0⟩
theorem alloc_job {ops : Array Oper} {rest : List Oper} {o : Oper} {a : Act} {w : World} {Q : Exit → Act → World → Prop} (hgd : o.guard = none) (ho : o.op = .alloc 31)
    (hk : wpList Try.prog ops Q rest (a.put o.dst (.pointer (some ⟨w.heap.size, 0, none⟩))) (w.alloc (.cells (jobC zeroJ zeroS4) 31))) : wpList Try.prog ops Q (o :: rest) a w :=
  wpList_plain hgd fun K hK => by
    have e : (execOp a.eval o).run Try.prog w = .ok (.value (.pointer (some ⟨w.heap.size, 0, none⟩))) (w.alloc (.cells (jobC zeroJ zeroS4) 31)) := by
      unfold execOp
      simp only [ho]
      simp [go_sem, newVar, jobC, geoC, zeroJ, zeroG4, zeroS4]
    unfold Oper.wp
    rw [e]
    exact hK _ _ hk
/-- A new variable that holds a job. -/
theorem make_job {ops : Array Oper} {rest : List Oper} {o p : Oper} {a : Act} {w : World} {Q : Exit → Act → World → Prop} {j : J4} {s : S3} (hgd : o.guard = none) (ho : o.op = .alloc 31) (hgp : p.guard = none) (x y : Operand) (hp : p.op = .store 31 x y)
    (hx : (a.put o.dst (.pointer (some ⟨w.heap.size, 0, none⟩))).eval x = .pointer (some ⟨w.heap.size, 0, none⟩)) (hy : (a.put o.dst (.pointer (some ⟨w.heap.size, 0, none⟩))).eval y = .agg (jobC j s))
    (hk : wpList Try.prog ops Q rest ((a.put o.dst (.pointer (some ⟨w.heap.size, 0, none⟩))).put p.dst undef) (w.alloc (.cells (jobC j s) 31))) : wpList Try.prog ops Q (o :: p :: rest) a w := by
  refine alloc_job hgd ho ?_
  refine store_job hgp x y hp hx hy (job_new w zeroJ zeroS4) ?_
  rw [World.setRow_alloc_new]
  exact hk
/-- Where the numbers of a note lie. -/
structure H2 where
  la : Option Addr
  ll : Nat
  lc : Nat
  pa : Option Addr
  pl : Nat
  pc : Nat
def encH (h : H2) : List Value := [.slice h.la h.ll h.lc, .slice h.pa h.pl h.pc]
theorem encH_len (x : H2) : (encH x).length = 2 := rfl
theorem encH_one : ∀ x, ∀ u ∈ encH x, u.oneCell' = true := fun x u hu => by
  simp only [encH, List.mem_cons, List.not_mem_nil, or_false] at hu
  rcases hu with rfl | rfl <;> rfl
/-- A note's numbers lie where it says. -/
def NoteOk (w : World) (h : H2) (n : N2) : Prop := h.ll = n.l.length ∧ h.pl = n.p.length ∧ (h.ll ≤ h.lc ∧ h.lc ≤ maxLen) ∧ (h.pl ≤ h.pc ∧ h.pc ≤ maxLen) ∧ IRow w.heap.size w h.la n.l ∧ IRow w.heap.size w h.pa n.p
theorem NoteOk.carry {w w' : World} {h : H2} {n : N2} (H : NoteOk w h n) (hb : Below w.heap.size w w') : NoteOk w' h n := by
  obtain ⟨h1, h2, h3, h4, h5, h6⟩ := H
  exact ⟨h1, h2, h3, h4, (h5.carry hb (Nat.le_refl _)).mono hb.size, (h6.carry hb (Nat.le_refl _)).mono hb.size⟩
def NotesAt (w : World) (a : Option Addr) (l : List N2) : Prop := ∃ hs : Nat → H2, Els 2 encH w a l.length hs ∧ ∀ k, k < l.length → NoteOk w (hs k) (l.getD k zeroN)
theorem NotesAt.carry {w w' : World} {a : Option Addr} {l : List N2} (h : NotesAt w a l) (hb : Below w.heap.size w w') : NotesAt w' a l := by
  obtain ⟨hs, h1, h2⟩ := h
  exact ⟨hs, h1.carry hb, fun k hk => (h2 k hk).carry hb⟩
/-- The numbers of a job are of 64 bits each. -/
def inJ (j : J4) : Prop := inE j.g ∧ (∀ k, inI (j.items.getD k zeroI)) ∧ ∀ k, inF (j.floats.getD k zeroF)
/-- A job's lists lie where it says. -/
structure Lists (w : World) (j : J4) (s : S3) : Prop where
  ins : inJ j
  items : Els 7 encI w s.ia j.items.length fun k => j.items.getD k zeroI
  notes : NotesAt w s.na j.notes
  floats : Els 3 encF w s.fa j.floats.length fun k => j.floats.getD k zeroF
  ic : j.items.length ≤ s.ic ∧ s.ic ≤ maxLen
  nc : j.notes.length ≤ s.nc ∧ s.nc ≤ maxLen
  fc : j.floats.length ≤ s.fc ∧ s.fc ≤ maxLen
theorem Lists.carry {w w' : World} {j : J4} {s : S3} (h : Lists w j s) (hb : Below w.heap.size w w') : Lists w' j s :=
  ⟨h.ins, h.items.carry hb, h.notes.carry hb, h.floats.carry hb, h.ic, h.nc, h.fc⟩
/-- A job of at most 100 of each. -/
def Few (j : J4) : Prop := j.items.length ≤ 100 ∧ j.notes.length ≤ 100 ∧ j.floats.length ≤ 100 ∧ ∀ k, (j.notes.getD k zeroN).l.length ≤ 100 ∧ (j.notes.getD k zeroN).p.length ≤ 100
end Go.Proofs.Ytjfjekncmejfpaa
