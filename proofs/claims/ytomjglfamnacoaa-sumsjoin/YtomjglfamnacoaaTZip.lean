/- zip, pair. -/
import Derived.Test.YtomjglfamnacoaaTRow
import Derived.Test.YtomjglfamnacoaaBlk
namespace Go.Proofs.Ytomjglfamnacoaa
open Go.RowKit
set_option maxRecDepth 20000
set_option linter.unusedVariables false

/-- What the closure of pair reads: the function and whether all fit so far. -/
theorem clos_any (k p q T : Nat) (x y z : Int) (f o : Bool) (w : World) (hp : Blk w p #[.func (.func k) #[] #[]] 74) (hq : Blk w q #[.bool f] T) (hk : ∀ w, Sem.run Try.prog (callFunc k #[.int .i64 x, .int .i64 y]) w = .ok (.enter k #[.int .i64 x, .int .i64 y]) w)
    (c : ∀ w, Calls Try.prog k #[.int .i64 x, .int .i64 y] w fun e w' => e = .returned (.tuple #[.int .i64 z, .bool o]) ∧ w = w') :
    Calls Try.prog 40 #[.int .i64 x, .int .i64 y, .pointer (some ⟨p, 0, none⟩), .pointer (some ⟨q, 0, none⟩)] w fun e w' => e = .returned (.int .i64 z) ∧ Blk w' q #[.bool (f && o)] T ∧ Near (fun i => i = q) w w' := by
  have p0 := hp.cell 0
  have q0 := hq.cell 0
  have qf := hq.free 0
  have hs := hq.set 0 (.bool (f && o))
  have hn := near_set (b := q) w 0 (.bool (f && o))
  simp at p0 q0 hs
  cases f
  all_goals
    go_enter Try.func40, Try.ntmps40
    go_wp2_with fail
    refine (c _).mono ?_
    rintro e w1 ⟨rfl, rfl⟩
    go_wp2
    go_ret
    exact ⟨rfl, hs, hn⟩
theorem at6 (a b c d e f : Value) : (∀ w, Sem.run Try.prog (Instr.index 75 (.agg #[a, b, c, d, e, f]) (.int .i64 0)) w = .ok a w) ∧ (∀ w, Sem.run Try.prog (Instr.index 75 (.agg #[a, b, c, d, e, f]) (.int .i64 1)) w = .ok b w) ∧
    (∀ w, Sem.run Try.prog (Instr.index 75 (.agg #[a, b, c, d, e, f]) (.int .i64 2)) w = .ok c w) ∧ (∀ w, Sem.run Try.prog (Instr.index 75 (.agg #[a, b, c, d, e, f]) (.int .i64 3)) w = .ok d w) ∧
    (∀ w, Sem.run Try.prog (Instr.index 75 (.agg #[a, b, c, d, e, f]) (.int .i64 4)) w = .ok e w) ∧ (∀ w, Sem.run Try.prog (Instr.index 75 (.agg #[a, b, c, d, e, f]) (.int .i64 5)) w = .ok f w) :=
  ⟨fun _ => by kernel_rfl, fun _ => by kernel_rfl, fun _ => by kernel_rfl, fun _ => by kernel_rfl, fun _ => by kernel_rfl, fun _ => by kernel_rfl⟩
/-- How zip stands between two rounds: it began at w; its b lies at w.heap.size + 1, its r at w.heap.size + 3. -/
structure ZS (w x : World) (p q k T : Nat) (f : Bool) (bs rs : Array Value) : Prop where
  near : Near (fun i => i = q) w x
  size : w.heap.size + 4 ≤ x.heap.size
  b : Blk x (w.heap.size + 1) bs 75
  o : Blk x (w.heap.size + 2) #[.int .i64 0, .int .i64 0, .int .i64 0, .int .i64 0, .int .i64 0, .int .i64 0] 75
  r : Blk x (w.heap.size + 3) rs 75
  fp : Blk x p #[.func (.func k) #[] #[]] 74
  fq : Blk x q #[.bool f] T
  lt : p < w.heap.size ∧ q < w.heap.size ∧ p ≠ q
theorem ZS.start (w : World) (p q k T : Nat) (f : Bool) (us bs : Array Value) (hp : Blk w p #[.func (.func k) #[] #[]] 74) (hq : Blk w q #[.bool f] T) (h : p ≠ q) :
    ZS w ((((w.alloc (.cells us 75)).alloc (.cells bs 75)).alloc (.cells #[.int .i64 0, .int .i64 0, .int .i64 0, .int .i64 0, .int .i64 0, .int .i64 0] 75)).alloc (.cells #[.int .i64 0, .int .i64 0, .int .i64 0, .int .i64 0, .int .i64 0, .int .i64 0] 75)) p q k T f bs #[.int .i64 0, .int .i64 0, .int .i64 0, .int .i64 0, .int .i64 0, .int .i64 0] := by
  refine ⟨Near.of ((tbel3 w _ _ _).alloc (by simp; omega) _), by simp, ?_, ?_, ?_, (((hp.alloc _).alloc _).alloc _).alloc _, (((hq.alloc _).alloc _).alloc _).alloc _, hp.lt, hq.lt, h⟩
  · have := ((blk_new (w.alloc (.cells us 75)) bs 75).alloc (.cells #[.int .i64 0, .int .i64 0, .int .i64 0, .int .i64 0, .int .i64 0, .int .i64 0] 75)).alloc (.cells #[.int .i64 0, .int .i64 0, .int .i64 0, .int .i64 0, .int .i64 0, .int .i64 0] 75)
    rwa [World.size_alloc] at this
  · have := (blk_new ((w.alloc (.cells us 75)).alloc (.cells bs 75)) #[.int .i64 0, .int .i64 0, .int .i64 0, .int .i64 0, .int .i64 0, .int .i64 0] 75).alloc (.cells #[.int .i64 0, .int .i64 0, .int .i64 0, .int .i64 0, .int .i64 0, .int .i64 0] 75)
    rwa [World.size_alloc, World.size_alloc] at this
  · have := blk_new (((w.alloc (.cells us 75)).alloc (.cells bs 75)).alloc (.cells #[.int .i64 0, .int .i64 0, .int .i64 0, .int .i64 0, .int .i64 0, .int .i64 0] 75)) #[.int .i64 0, .int .i64 0, .int .i64 0, .int .i64 0, .int .i64 0, .int .i64 0] 75
    rwa [World.size_alloc, World.size_alloc, World.size_alloc] at this
theorem ZS.call {w x y : World} {p q k T : Nat} {f g : Bool} {bs rs : Array Value} (h : ZS w x p q k T f bs rs) (hn : Near (fun i => i = q) x y) (hq : Blk y q #[.bool g] T) : ZS w y p q k T g bs rs :=
  have l := h.lt
  ⟨h.near.trans hn fun _ h => h, Nat.le_trans h.size hn.size, h.b.near hn (by omega), h.o.near hn (by omega), h.r.near hn (by omega), h.fp.near hn (by omega), hq, l⟩
theorem ZS.set {w x : World} {p q k T : Nat} {f : Bool} {bs rs : Array Value} (h : ZS w x p q k T f bs rs) (i : Nat) (v : Value) : ZS w (x.setCell ⟨w.heap.size + 1 + 1 + 1, i, none⟩ v) p q k T f bs (rs.setIfInBounds i v) :=
  have l := h.lt
  ⟨⟨h.near.os, h.near.tape, h.near.output, by simpa using h.near.size, fun j hj hn => (Below.heap_setCell _ _ _ _ (by simp; omega)).trans (h.near.block j hj hn)⟩, by simpa using h.size, h.b.other (by omega) _ _, h.o.other (by omega) _ _, h.r.set _ _, h.fp.other (by omega) _ _, h.fq.other (by omega) _ _, l⟩
set_option maxHeartbeats 2000000 in
theorem zip_walk (a0 a1 a2 a3 a4 a5 b0 b1 b2 b3 b4 b5 z0 z1 z2 z3 z4 z5 : Int) (o0 o1 o2 o3 o4 o5 : Bool) (k p q T : Nat) (w : World) (hp : Blk w p #[.func (.func k) #[] #[]] 74) (hq : Blk w q #[.bool true] T) (hpq : p ≠ q)
    (c0 : ∀ f w, Blk w p #[.func (.func k) #[] #[]] 74 → Blk w q #[.bool f] T → Calls Try.prog 40 #[.int .i64 a0, .int .i64 b0, .pointer (some ⟨p, 0, none⟩), .pointer (some ⟨q, 0, none⟩)] w fun e w' => e = .returned (.int .i64 z0) ∧ Blk w' q #[.bool (f && o0)] T ∧ Near (fun i => i = q) w w')
    (c1 : ∀ f w, Blk w p #[.func (.func k) #[] #[]] 74 → Blk w q #[.bool f] T → Calls Try.prog 40 #[.int .i64 a1, .int .i64 b1, .pointer (some ⟨p, 0, none⟩), .pointer (some ⟨q, 0, none⟩)] w fun e w' => e = .returned (.int .i64 z1) ∧ Blk w' q #[.bool (f && o1)] T ∧ Near (fun i => i = q) w w')
    (c2 : ∀ f w, Blk w p #[.func (.func k) #[] #[]] 74 → Blk w q #[.bool f] T → Calls Try.prog 40 #[.int .i64 a2, .int .i64 b2, .pointer (some ⟨p, 0, none⟩), .pointer (some ⟨q, 0, none⟩)] w fun e w' => e = .returned (.int .i64 z2) ∧ Blk w' q #[.bool (f && o2)] T ∧ Near (fun i => i = q) w w')
    (c3 : ∀ f w, Blk w p #[.func (.func k) #[] #[]] 74 → Blk w q #[.bool f] T → Calls Try.prog 40 #[.int .i64 a3, .int .i64 b3, .pointer (some ⟨p, 0, none⟩), .pointer (some ⟨q, 0, none⟩)] w fun e w' => e = .returned (.int .i64 z3) ∧ Blk w' q #[.bool (f && o3)] T ∧ Near (fun i => i = q) w w')
    (c4 : ∀ f w, Blk w p #[.func (.func k) #[] #[]] 74 → Blk w q #[.bool f] T → Calls Try.prog 40 #[.int .i64 a4, .int .i64 b4, .pointer (some ⟨p, 0, none⟩), .pointer (some ⟨q, 0, none⟩)] w fun e w' => e = .returned (.int .i64 z4) ∧ Blk w' q #[.bool (f && o4)] T ∧ Near (fun i => i = q) w w')
    (c5 : ∀ f w, Blk w p #[.func (.func k) #[] #[]] 74 → Blk w q #[.bool f] T → Calls Try.prog 40 #[.int .i64 a5, .int .i64 b5, .pointer (some ⟨p, 0, none⟩), .pointer (some ⟨q, 0, none⟩)] w fun e w' => e = .returned (.int .i64 z5) ∧ Blk w' q #[.bool (f && o5)] T ∧ Near (fun i => i = q) w w') :
    Calls Try.prog 38 #[.agg #[.int .i64 a0, .int .i64 a1, .int .i64 a2, .int .i64 a3, .int .i64 a4, .int .i64 a5], .agg #[.int .i64 b0, .int .i64 b1, .int .i64 b2, .int .i64 b3, .int .i64 b4, .int .i64 b5], .func (.func 40) #[] #[.pointer (some ⟨p, 0, none⟩), .pointer (some ⟨q, 0, none⟩)]] w fun e w' => e = .returned (.agg #[.int .i64 z0, .int .i64 z1, .int .i64 z2, .int .i64 z3, .int .i64 z4, .int .i64 z5]) ∧ Blk w' q #[.bool (true && o0 && o1 && o2 && o3 && o4 && o5)] T ∧ Near (fun i => i = q) w w' := by
  obtain ⟨i0, i1, i2, i3, i4, i5⟩ := at6 (.int .i64 a0) (.int .i64 a1) (.int .i64 a2) (.int .i64 a3) (.int .i64 a4) (.int .i64 a5)
  go_enter Try.func38, Try.ntmps38
  go_wp2
  have S := ZS.start w p q k T true #[.int .i64 a0, .int .i64 a1, .int .i64 a2, .int .i64 a3, .int .i64 a4, .int .i64 a5] #[.int .i64 b0, .int .i64 b1, .int .i64 b2, .int .i64 b3, .int .i64 b4, .int .i64 b5] hp hq hpq
  generalize (((w.alloc _).alloc _).alloc _).alloc _ = X at S ⊢
  refine wp_loop_rounds 7 ?_
  rw [rounds_succ]
  have hb := S.b.cell 0
  simp at hb
  go_wp2_with fail
  refine (c0 _ _ S.fp S.fq).mono ?_
  rintro e y ⟨rfl, hy, hn⟩
  replace S := S.call hn hy
  have hr := S.r.cell 0
  have hz := S.r.free 0
  simp at hr hz
  clear hn hy hb
  go_wp2_with fail
  replace S := S.set 0 (.int .i64 z0)
  simp at S
  clear hr hz
  generalize y.setCell _ _ = X0 at S ⊢
  rw [rounds_succ]
  have hb := S.b.cell 1
  simp at hb
  go_wp2_with fail
  refine (c1 _ _ S.fp S.fq).mono ?_
  rintro e y ⟨rfl, hy, hn⟩
  replace S := S.call hn hy
  have hr := S.r.cell 1
  have hz := S.r.free 1
  simp at hr hz
  clear hn hy hb
  go_wp2_with fail
  replace S := S.set 1 (.int .i64 z1)
  simp at S
  clear hr hz
  generalize y.setCell _ _ = X1 at S ⊢
  rw [rounds_succ]
  have hb := S.b.cell 2
  simp at hb
  go_wp2_with fail
  refine (c2 _ _ S.fp S.fq).mono ?_
  rintro e y ⟨rfl, hy, hn⟩
  replace S := S.call hn hy
  have hr := S.r.cell 2
  have hz := S.r.free 2
  simp at hr hz
  clear hn hy hb
  go_wp2_with fail
  replace S := S.set 2 (.int .i64 z2)
  simp at S
  clear hr hz
  generalize y.setCell _ _ = X2 at S ⊢
  rw [rounds_succ]
  have hb := S.b.cell 3
  simp at hb
  go_wp2_with fail
  refine (c3 _ _ S.fp S.fq).mono ?_
  rintro e y ⟨rfl, hy, hn⟩
  replace S := S.call hn hy
  have hr := S.r.cell 3
  have hz := S.r.free 3
  simp at hr hz
  clear hn hy hb
  go_wp2_with fail
  replace S := S.set 3 (.int .i64 z3)
  simp at S
  clear hr hz
  generalize y.setCell _ _ = X3 at S ⊢
  rw [rounds_succ]
  have hb := S.b.cell 4
  simp at hb
  go_wp2_with fail
  refine (c4 _ _ S.fp S.fq).mono ?_
  rintro e y ⟨rfl, hy, hn⟩
  replace S := S.call hn hy
  have hr := S.r.cell 4
  have hz := S.r.free 4
  simp at hr hz
  clear hn hy hb
  go_wp2_with fail
  replace S := S.set 4 (.int .i64 z4)
  simp at S
  clear hr hz
  generalize y.setCell _ _ = X4 at S ⊢
  rw [rounds_succ]
  have hb := S.b.cell 5
  simp at hb
  go_wp2_with fail
  refine (c5 _ _ S.fp S.fq).mono ?_
  rintro e y ⟨rfl, hy, hn⟩
  replace S := S.call hn hy
  have hr := S.r.cell 5
  have hz := S.r.free 5
  simp at hr hz
  clear hn hy hb
  go_wp2_with fail
  replace S := S.set 5 (.int .i64 z5)
  simp at S
  clear hr hz
  generalize y.setCell _ _ = X5 at S ⊢
  rw [rounds_succ]
  have rs := S.r.six
  have os := S.o.six
  have of := S.o.six_free
  go_wp2
  have l := S.lt
  refine bodyPost_ret (v := .agg #[.int .i64 z0, .int .i64 z1, .int .i64 z2, .int .i64 z3, .int .i64 z4, .int .i64 z5]) (by simp [results, Try.results38, go_sem, *]) rfl ⟨rfl, S.fq.other6 (by omega) _ _ _ _ _ _, S.near.new6 (by omega) _ _ _ _ _ _⟩
end Go.Proofs.Ytomjglfamnacoaa
