/- pair, Add, Sub of package total. -/
import Derived.Test.YtomjglfamnacoaaTZip
import Derived.Test.YtomjglfamnacoaaDetX
import Derived.Lib.Hide
import Derived.Deep.Cut
namespace Go.Proofs.Ytomjglfamnacoaa
open Go.RowKit
set_option maxRecDepth 20000
set_option linter.unusedVariables false
set_option linter.unusedSimpArgs false

theorem mk_row {ops : Array Oper} (i d : Nat) (o : Oper) (ho : ops[i]? = some o) (hop : o.op = .alloc 75) (hd : o.dst = some d) (hg : o.guard = none) : Makes Try.prog ops i (.cells #[.int .i64 0, .int .i64 0, .int .i64 0, .int .i64 0, .int .i64 0, .int .i64 0] 75) :=
  ⟨o, d, ho, hd, fun y => by simp [Region.wanted, hg], fun a w => by
    unfold execOp
    simp only [hop]
    simp [go_sem, newVar]⟩
/-- How pair stands ahead of its second statement. -/
structure PS (w x : World) (k : Nat) (us vs : Array Value) (f : Bool) : Prop where
  near : Near (fun _ => False) w x
  size : w.heap.size + 5 ≤ x.heap.size
  a : Blk x w.heap.size us 31
  b : Blk x (w.heap.size + 1) vs 31
  by_ : Blk x (w.heap.size + 1 + 1) #[.func (.func k) #[] #[]] 74
  o : Blk x (w.heap.size + 1 + 1 + 1) #[.int .i64 0, .int .i64 0, .int .i64 0, .int .i64 0, .int .i64 0, .int .i64 0] 31
  q : Blk x (w.heap.size + 1 + 1 + 1 + 1) #[.bool f] 4
theorem PS.start (w : World) (k : Nat) (us vs : Array Value) :
    PS w (((((w.alloc (.cells us 31)).alloc (.cells vs 31)).alloc (.cells #[.func (.func k) #[] #[]] 74)).alloc (.cells #[.int .i64 0, .int .i64 0, .int .i64 0, .int .i64 0, .int .i64 0, .int .i64 0] 31)).alloc (.cells #[.bool true] 4)) k us vs true := by
  refine ⟨Near.of (((tbel3 w _ _ _).alloc (by simp; omega) _).alloc (by simp; omega) _), by simp, ?_, ?_, ?_, ?_, ?_⟩
  · exact ((((blk_new w us 31).alloc _).alloc _).alloc _).alloc _
  · have := (((blk_new (w.alloc (.cells us 31)) vs 31).alloc (.cells #[.func (.func k) #[] #[]] 74)).alloc (.cells #[.int .i64 0, .int .i64 0, .int .i64 0, .int .i64 0, .int .i64 0, .int .i64 0] 31)).alloc (.cells #[.bool true] 4)
    rwa [World.size_alloc] at this
  · have := ((blk_new ((w.alloc (.cells us 31)).alloc (.cells vs 31)) #[.func (.func k) #[] #[]] 74).alloc (.cells #[.int .i64 0, .int .i64 0, .int .i64 0, .int .i64 0, .int .i64 0, .int .i64 0] 31)).alloc (.cells #[.bool true] 4)
    rwa [World.size_alloc, World.size_alloc] at this
  · have := (blk_new (((w.alloc (.cells us 31)).alloc (.cells vs 31)).alloc (.cells #[.func (.func k) #[] #[]] 74)) #[.int .i64 0, .int .i64 0, .int .i64 0, .int .i64 0, .int .i64 0, .int .i64 0] 31).alloc (.cells #[.bool true] 4)
    rwa [World.size_alloc, World.size_alloc, World.size_alloc] at this
  · have := blk_new ((((w.alloc (.cells us 31)).alloc (.cells vs 31)).alloc (.cells #[.func (.func k) #[] #[]] 74)).alloc (.cells #[.int .i64 0, .int .i64 0, .int .i64 0, .int .i64 0, .int .i64 0, .int .i64 0] 31)) #[.bool true] 4
    rwa [World.size_alloc, World.size_alloc, World.size_alloc, World.size_alloc] at this
set_option maxHeartbeats 2000000 in
theorem pair_walk (a0 a1 a2 a3 a4 a5 b0 b1 b2 b3 b4 b5 z0 z1 z2 z3 z4 z5 : Int) (fits : Bool) (k : Nat) (w : World)
    (cz : ∀ p q T w, Blk w p #[.func (.func k) #[] #[]] 74 → Blk w q #[.bool true] T → p ≠ q →
      Calls Try.prog 38 #[.agg #[.int .i64 a1, .int .i64 a2, .int .i64 a3, .int .i64 a4, .int .i64 a0, .int .i64 a5], .agg #[.int .i64 b1, .int .i64 b2, .int .i64 b3, .int .i64 b4, .int .i64 b0, .int .i64 b5], .func (.func 40) #[] #[.pointer (some ⟨p, 0, none⟩), .pointer (some ⟨q, 0, none⟩)]] w
        fun e w' => e = .returned (.agg #[.int .i64 z1, .int .i64 z2, .int .i64 z3, .int .i64 z4, .int .i64 z0, .int .i64 z5]) ∧ Blk w' q #[.bool fits] T ∧ Near (fun i => i = q) w w') :
    Calls Try.prog 35 #[.agg #[.int .i64 a0, .int .i64 a1, .int .i64 a2, .int .i64 a3, .int .i64 a4, .int .i64 a5], .agg #[.int .i64 b0, .int .i64 b1, .int .i64 b2, .int .i64 b3, .int .i64 b4, .int .i64 b5], .func (.func k) #[] #[]] w fun e w' =>
      e = .returned (bif fits then .tuple #[.agg #[.int .i64 z0, .int .i64 z1, .int .i64 z2, .int .i64 z3, .int .i64 z4, .int .i64 z5], .bool true] else .tuple #[.agg #[.int .i64 0, .int .i64 0, .int .i64 0, .int .i64 0, .int .i64 0, .int .i64 0], .bool false]) ∧ Below w.heap.size w w' := by
  go_enter Try.func35, Try.ntmps35
  go_wp2_with fail
  have S := PS.start w k #[.int .i64 a0, .int .i64 a1, .int .i64 a2, .int .i64 a3, .int .i64 a4, .int .i64 a5] #[.int .i64 b0, .int .i64 b1, .int .i64 b2, .int .i64 b3, .int .i64 b4, .int .i64 b5]
  generalize ((((w.alloc _).alloc _).alloc _).alloc _).alloc _ = W at S ⊢
  have hq : w.heap.size + 1 + 1 + 1 + 1 < W.heap.size := by have := S.size; omega
  have cells : ∀ x, Near (fun i => i = w.heap.size + 1 + 1 + 1 + 1) W x → (x.cell? ⟨w.heap.size, 0, none⟩ = some (.int .i64 a0) ∧ x.cell? ⟨w.heap.size, 1, none⟩ = some (.int .i64 a1) ∧ x.cell? ⟨w.heap.size, 2, none⟩ = some (.int .i64 a2) ∧ x.cell? ⟨w.heap.size, 3, none⟩ = some (.int .i64 a3) ∧ x.cell? ⟨w.heap.size, 4, none⟩ = some (.int .i64 a4) ∧ x.cell? ⟨w.heap.size, 5, none⟩ = some (.int .i64 a5)) ∧
      x.cell? ⟨w.heap.size + 1, 0, none⟩ = some (.int .i64 b0) ∧ x.cell? ⟨w.heap.size + 1, 1, none⟩ = some (.int .i64 b1) ∧ x.cell? ⟨w.heap.size + 1, 2, none⟩ = some (.int .i64 b2) ∧ x.cell? ⟨w.heap.size + 1, 3, none⟩ = some (.int .i64 b3) ∧ x.cell? ⟨w.heap.size + 1, 4, none⟩ = some (.int .i64 b4) ∧ x.cell? ⟨w.heap.size + 1, 5, none⟩ = some (.int .i64 b5) :=
    fun x hx => ⟨(S.a.near hx (by omega)).six, (S.b.near hx (by omega)).six⟩
  have CE := Lib.hid cells
  have SE := Lib.hid S
  have CZ := Lib.hid cz
  clear cells S cz
  (refine wp_region_planX 7 [6] [(0, true), (1, true), (2, true), (3, true), (4, true), (5, false)] (fun i => i = w.heap.size + 1 + 1 + 1 + 1) (fun _ => .cells #[.int .i64 0, .int .i64 0, .int .i64 0, .int .i64 0, .int .i64 0, .int .i64 0] 75) (by kernel_rfl) (by kernel_rfl) (by kernel_rfl) (fun j hj => by omega) (fun i hi => by obtain rfl : i = 6 := (by simpa using hi); exact mk_row 6 9 _ rfl rfl rfl rfl) ?_; simp only [pick, pickM, List.getElem?_cons_succ, List.getElem?_cons_zero, List.drop_succ_cons, List.drop_zero])
  repeat (first | (apply TextU.sees (hw := by kernel_rfl); (focus (intro x hx K hK; have hc := CE.out x hx; go_simp; exact hK)); simp only [Act.put, List.getElem_toArray, List.getElem_cons_succ, List.getElem_cons_zero, List.setIfInBounds_toArray, List.set_cons_zero, List.set_cons_succ]) | (apply TextU.idle; (focus (intro x hx K hK; go_simp; exact hK)); simp only [Act.put, List.getElem_toArray, List.getElem_cons_succ, List.getElem_cons_zero, List.setIfInBounds_toArray, List.set_cons_zero, List.set_cons_succ]))
  (refine TextU.call (fun x _ => rowOf_any a0 a1 a2 a3 a4 a5 x) (by kernel_rfl) (fun _ => by kernel_rfl) ?_; simp only [Act.put, List.getElem_toArray, List.getElem_cons_succ, List.getElem_cons_zero, List.setIfInBounds_toArray, List.set_cons_zero, List.set_cons_succ])
  repeat (first | (apply TextU.sees (hw := by kernel_rfl); (focus (intro x hx K hK; have hc := CE.out x hx; go_simp; exact hK)); simp only [Act.put, List.getElem_toArray, List.getElem_cons_succ, List.getElem_cons_zero, List.setIfInBounds_toArray, List.set_cons_zero, List.set_cons_succ]) | (apply TextU.idle; (focus (intro x hx K hK; go_simp; exact hK)); simp only [Act.put, List.getElem_toArray, List.getElem_cons_succ, List.getElem_cons_zero, List.setIfInBounds_toArray, List.set_cons_zero, List.set_cons_succ]))
  (refine TextU.call (fun x _ => rowOf_any b0 b1 b2 b3 b4 b5 x) (by kernel_rfl) (fun _ => by kernel_rfl) ?_; simp only [Act.put, List.getElem_toArray, List.getElem_cons_succ, List.getElem_cons_zero, List.setIfInBounds_toArray, List.set_cons_zero, List.set_cons_succ])
  repeat (first | (apply TextU.sees (hw := by kernel_rfl); (focus (intro x hx K hK; have hc := CE.out x hx; go_simp; exact hK)); simp only [Act.put, List.getElem_toArray, List.getElem_cons_succ, List.getElem_cons_zero, List.setIfInBounds_toArray, List.set_cons_zero, List.set_cons_succ]) | (apply TextU.idle; (focus (intro x hx K hK; go_simp; exact hK)); simp only [Act.put, List.getElem_toArray, List.getElem_cons_succ, List.getElem_cons_zero, List.setIfInBounds_toArray, List.set_cons_zero, List.set_cons_succ]))
  (refine TextU.loud (fun _ => False) (V := fun v y => v = .agg #[.int .i64 z1, .int .i64 z2, .int .i64 z3, .int .i64 z4, .int .i64 z0, .int .i64 z5] ∧ Blk y (w.heap.size + 1 + 1 + 1 + 1) #[.bool fits] 4) (fun i h => h.elim) (fun x hx => (CZ.out _ _ 4 x (SE.out.by_.old hx) (SE.out.q.old hx) (by omega)).mono fun e y ⟨he, hb, hn⟩ => ⟨_, he, ⟨rfl, hb⟩, hn⟩) (by kernel_rfl) (fun _ => by kernel_rfl) (fun v y hv hn => ?_); simp only [Act.put, List.getElem_toArray, List.getElem_cons_succ, List.getElem_cons_zero, List.setIfInBounds_toArray, List.set_cons_zero, List.set_cons_succ])
  obtain ⟨rfl, hb⟩ := hv
  apply TextU.done
  intro x hx
  (refine TextM.make fun g9 => ?_; simp only [Act.put, List.getElem_toArray, List.getElem_cons_succ, List.getElem_cons_zero, List.setIfInBounds_toArray, List.set_cons_zero, List.set_cons_succ])
  apply TextM.done
  intro z hz listed hl hM
  have M9 := hM.one (i := 6) (g := g9) (by decide) (hl 6 (by decide)) rfl rfl rfl
  clear hM hl
  obtain ⟨L9, H9⟩ := M9
  have K9 : Blk z g9 #[.int .i64 0, .int .i64 0, .int .i64 0, .int .i64 0, .int .i64 0, .int .i64 0] 75 := H9
  have hyz : Old y z := hx.old hz
  have Bq := (hb.old hyz).other6 (b := g9) (by omega) (.int .i64 z1) (.int .i64 z2) (.int .i64 z3) (.int .i64 z4) (.int .i64 z0) (.int .i64 z5)
  have Bo := ((SE.out.o.near hn (by omega)).old hyz).other6 (b := g9) (by omega) (.int .i64 z1) (.int .i64 z2) (.int .i64 z3) (.int .i64 z4) (.int .i64 z0) (.int .i64 z5)
  have Br := K9.set6 (.int .i64 z1) (.int .i64 z2) (.int .i64 z3) (.int .i64 z4) (.int .i64 z0) (.int .i64 z5)
  have Bn : Below w.heap.size w z := (((SE.out.near.wide fun _ h => h.elim).trans hn fun _ h => h).trans (Near.of (M := fun _ => False) hyz) fun _ h => h.elim).below (fun i hi => by omega) (Nat.le_refl _)
  have Bz := Below.new6 (b := g9) Bn (by omega) (.int .i64 z1) (.int .i64 z2) (.int .i64 z3) (.int .i64 z4) (.int .i64 z0) (.int .i64 z5)
  have k9 := K9.six
  have f9 := K9.six_free
  clear H9 K9 hb hn hx hz hyz Bn
  go_upto_region 3 with (fail)
  clear k9 f9
  generalize (((((z.setCell _ _).setCell _ _).setCell _ _).setCell _ _).setCell _ _).setCell _ _ = V at Bq Bo Br Bz ⊢
  clear CE SE CZ
  have q0 := Bq.cell 0
  have r6 := Br.six
  have o6 := Bo.six
  have p6 := Bo.six_free
  simp at q0
  cases fits
  · go_wp2
    exact bodyPost_ret (v := .tuple #[.agg #[.int .i64 0, .int .i64 0, .int .i64 0, .int .i64 0, .int .i64 0, .int .i64 0], .bool false]) (by simp [results, Try.results35, go_sem, *]) rfl ⟨rfl, Below.new6 Bz (by omega) _ _ _ _ _ _⟩
  · go_wp2_with fail
    refine (total_any z0 z1 z2 z3 z4 z5 _).mono ?_
    rintro e y2 ⟨rfl, d2⟩
    have Bo2 := Bo.old d2
    have o7 := Bo2.six
    have p7 := Bo2.six_free
    go_wp2
    exact bodyPost_ret (v := .tuple #[.agg #[.int .i64 z0, .int .i64 z1, .int .i64 z2, .int .i64 z3, .int .i64 z4, .int .i64 z5], .bool true]) (by simp [results, Try.results35, go_sem, *]) rfl ⟨rfl, Below.new6 (tstep Bz d2 Bz.size) (by omega) _ _ _ _ _ _⟩
theorem pair_any (f : Int → Int → Int × Bool) (k : Nat) (a b : T6) (w : World) (ha : inT a) (hb : inT b) (hk : ∀ x y w, Sem.run Try.prog (callFunc k #[.int .i64 x, .int .i64 y]) w = .ok (.enter k #[.int .i64 x, .int .i64 y]) w)
    (c : ∀ x y w, inR x → inR y → Calls Try.prog k #[.int .i64 x, .int .i64 y] w fun e w' => e = .returned (two (f x y)) ∧ w = w') :
    Calls Try.prog 35 #[tot a, tot b, .func (.func k) #[] #[]] w fun e w' => e = .returned (twoT (pairT f a b)) ∧ Below w.heap.size w w' := by
  obtain ⟨h0, h1, h2, h3, h4, h5⟩ := ha
  obtain ⟨g0, g1, g2, g3, g4, g5⟩ := hb
  have cl : ∀ p q T x y, inR x → inR y → ∀ f' w, Blk w p #[.func (.func k) #[] #[]] 74 → Blk w q #[.bool f'] T → Calls Try.prog 40 #[.int .i64 x, .int .i64 y, .pointer (some ⟨p, 0, none⟩), .pointer (some ⟨q, 0, none⟩)] w fun e w' => e = .returned (.int .i64 (f x y).1) ∧ Blk w' q #[.bool (f' && (f x y).2)] T ∧ Near (fun i => i = q) w w' :=
    fun p q T x y hx hy f' w hp hq => clos_any k p q T x y _ f' _ w hp hq (hk x y) (fun w => c x y w hx hy)
  refine (pair_walk a.n a.s0 a.s1 a.s2 a.s3 a.h b.n b.s0 b.s1 b.s2 b.s3 b.h (f a.n b.n).1 (f a.s0 b.s0).1 (f a.s1 b.s1).1 (f a.s2 b.s2).1 (f a.s3 b.s3).1 (f a.h b.h).1 _ k w fun p q T w hp hq hpq =>
    zip_walk _ _ _ _ _ _ _ _ _ _ _ _ _ _ _ _ _ _ _ _ _ _ _ _ k p q T w hp hq hpq (cl p q T _ _ h1 g1) (cl p q T _ _ h2 g2) (cl p q T _ _ h3 g3) (cl p q T _ _ h4 g4) (cl p q T _ _ h0 g0) (cl p q T _ _ h5 g5)).mono ?_
  rintro e w' ⟨rfl, hw⟩
  refine ⟨?_, hw⟩
  unfold pairT allT
  generalize (f a.n b.n).2 = o0, (f a.s0 b.s0).2 = o1, (f a.s1 b.s1).2 = o2, (f a.s2 b.s2).2 = o3, (f a.s3 b.s3).2 = o4, (f a.h b.h).2 = o5
  cases o0 <;> cases o1 <;> cases o2 <;> cases o3 <;> cases o4 <;> cases o5 <;> rfl
theorem TAdd_walk (a b r : T6) (f : Bool) (w : World) (c : ∀ w, Calls Try.prog 35 #[tot a, tot b, .func (.func 37) #[] #[]] w fun e w' => e = .returned (twoT (r, f)) ∧ Below w.heap.size w w') :
    Calls Try.prog 32 #[tot a, tot b] w fun e w' => e = .returned (twoT (r, f)) ∧ Below w.heap.size w w' := by
  unfold twoT tot at *
  go_enter Try.func32, Try.ntmps32
  go_wp2_with fail
  have B := blk_three w (.cells #[.int .i64 a.n, .int .i64 a.s0, .int .i64 a.s1, .int .i64 a.s2, .int .i64 a.s3, .int .i64 a.h] 31) (.cells #[.int .i64 b.n, .int .i64 b.s0, .int .i64 b.s1, .int .i64 b.s2, .int .i64 b.s3, .int .i64 b.h] 31) #[.int .i64 0, .int .i64 0, .int .i64 0, .int .i64 0, .int .i64 0, .int .i64 0] 31
  have hw := tbel3 w (.cells #[.int .i64 a.n, .int .i64 a.s0, .int .i64 a.s1, .int .i64 a.s2, .int .i64 a.s3, .int .i64 a.h] 31) (.cells #[.int .i64 b.n, .int .i64 b.s0, .int .i64 b.s1, .int .i64 b.s2, .int .i64 b.s3, .int .i64 b.h] 31) (.cells #[.int .i64 0, .int .i64 0, .int .i64 0, .int .i64 0, .int .i64 0, .int .i64 0] 31)
  generalize ((w.alloc _).alloc _).alloc _ = W at B hw ⊢
  refine (c _).mono ?_
  rintro e w1 ⟨rfl, b1⟩
  replace B := B.old b1
  replace hw := tstep hw b1 hw.size
  have o6 := B.six
  have p6 := B.six_free
  clear b1 c
  go_wp2
  exact bodyPost_ret (v := .tuple #[.agg #[.int .i64 r.n, .int .i64 r.s0, .int .i64 r.s1, .int .i64 r.s2, .int .i64 r.s3, .int .i64 r.h], .bool f]) (by simp [results, Try.results32, go_sem, *]) rfl ⟨rfl, Below.new6 hw (by omega) _ _ _ _ _ _⟩
theorem TAdd_any (a b : T6) (w : World) (ha : inT a) (hb : inT b) : Calls Try.prog 32 #[tot a, tot b] w fun e w' => e = .returned (twoT (addT a b)) ∧ Below w.heap.size w w' :=
  TAdd_walk a b _ _ w fun w => pair_any addR 37 a b w ha hb (fun _ _ _ => by kernel_rfl) (fun x y w hx hy => add_any x y w hx hy)
theorem TSub_walk (a b r : T6) (f : Bool) (w : World) (c : ∀ w, Calls Try.prog 35 #[tot a, tot b, .func (.func 36) #[] #[]] w fun e w' => e = .returned (twoT (r, f)) ∧ Below w.heap.size w w') :
    Calls Try.prog 24 #[tot a, tot b] w fun e w' => e = .returned (twoT (r, f)) ∧ Below w.heap.size w w' := by
  unfold twoT tot at *
  go_enter Try.func24, Try.ntmps24
  go_wp2_with fail
  have B := blk_three w (.cells #[.int .i64 a.n, .int .i64 a.s0, .int .i64 a.s1, .int .i64 a.s2, .int .i64 a.s3, .int .i64 a.h] 31) (.cells #[.int .i64 b.n, .int .i64 b.s0, .int .i64 b.s1, .int .i64 b.s2, .int .i64 b.s3, .int .i64 b.h] 31) #[.int .i64 0, .int .i64 0, .int .i64 0, .int .i64 0, .int .i64 0, .int .i64 0] 31
  have hw := tbel3 w (.cells #[.int .i64 a.n, .int .i64 a.s0, .int .i64 a.s1, .int .i64 a.s2, .int .i64 a.s3, .int .i64 a.h] 31) (.cells #[.int .i64 b.n, .int .i64 b.s0, .int .i64 b.s1, .int .i64 b.s2, .int .i64 b.s3, .int .i64 b.h] 31) (.cells #[.int .i64 0, .int .i64 0, .int .i64 0, .int .i64 0, .int .i64 0, .int .i64 0] 31)
  generalize ((w.alloc _).alloc _).alloc _ = W at B hw ⊢
  refine (c _).mono ?_
  rintro e w1 ⟨rfl, b1⟩
  replace B := B.old b1
  replace hw := tstep hw b1 hw.size
  have o6 := B.six
  have p6 := B.six_free
  clear b1 c
  go_wp2
  exact bodyPost_ret (v := .tuple #[.agg #[.int .i64 r.n, .int .i64 r.s0, .int .i64 r.s1, .int .i64 r.s2, .int .i64 r.s3, .int .i64 r.h], .bool f]) (by simp [results, Try.results24, go_sem, *]) rfl ⟨rfl, Below.new6 hw (by omega) _ _ _ _ _ _⟩
theorem TSub_any (a b : T6) (w : World) (ha : inT a) (hb : inT b) : Calls Try.prog 24 #[tot a, tot b] w fun e w' => e = .returned (twoT (subT a b)) ∧ Below w.heap.size w w' :=
  TSub_walk a b _ _ w fun w => pair_any subR 36 a b w ha hb (fun _ _ _ => by kernel_rfl) (fun x y w hx hy => sub_any x y w hx hy)
end Go.Proofs.Ytomjglfamnacoaa
