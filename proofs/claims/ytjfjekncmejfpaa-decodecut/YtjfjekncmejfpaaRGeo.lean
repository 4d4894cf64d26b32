/- Package decode: a geometry read. -/
import Derived.Test.YtjfjekncmejfpaaREcn
import Derived.Test.YtjfjekncmejfpaaQJob
import Derived.Deep.MidRow
namespace Go.Proofs.Ytjfjekncmejfpaa
open Go.RowKit
set_option maxRecDepth 20000
set_option linter.unusedVariables false
set_option linter.unusedSimpArgs false

theorem sole_cells (b : Nat) : ∀ (vs : List Value) (o : Nat) (w : World), Sole b w (w.setCells b o vs)
  | [], _, w => Sole.refl b w
  | v :: r, o, w => by
    rw [World.setCells]
    exact (Sole.set w o v).trans (sole_cells b r (o + 1) _)
theorem blk_cells (b : Nat) (T : TypeId) : ∀ (vs m l1 l2 : List Value) (w : World), m.length = vs.length → Blk w b (l1 ++ (m ++ l2)).toArray T → Blk (w.setCells b l1.length vs) b (l1 ++ (vs ++ l2)).toArray T
  | [], [], l1, l2, w, _, H => H
  | [], _ :: _, _, _, _, h, _ => by simp at h
  | _ :: _, [], _, _, _, h, _ => by simp at h
  | v :: vs, x :: m, l1, l2, w, h, H => by
    rw [World.setCells]
    have h1 := H.set l1.length v
    have e : (l1 ++ (x :: m ++ l2)).toArray.setIfInBounds l1.length v = ((l1 ++ [v]) ++ (m ++ l2)).toArray := by simp
    rw [e] at h1
    have h2 := blk_cells b T vs m (l1 ++ [v]) l2 _ (by simpa using h) h1
    rw [List.length_append] at h2
    simpa using h2
theorem wpl_step {P : Program} {ops : Array Oper} {rest : List Oper} {o : Oper} {a : Act} {w w' : World} {Q : Exit → Act → World → Prop} {v : Value} (hgd : o.guard = none) (he : (execOp a.eval o).run P w = .ok (.value v) w') (hk : wpList P ops Q rest (a.put o.dst v) w') : wpList P ops Q (o :: rest) a w :=
  wpList_plain hgd fun K hK => by
    unfold Oper.wp
    rw [he]
    exact hK _ _ hk
/-- The cells of a reader of jobs. -/
def rdrL (g : Nat) (j : J4) (s : S3) : List Value := [.pointer (some ⟨g, 0, none⟩), .int .i64 j.g.cols, .int .i64 j.g.wide, .int .i64 j.g.gap, .int .i64 j.g.high, .int .i64 j.g.first, .int .i64 j.g.grid, .int .i64 j.g.rule, .int .i64 j.g.sep, .int .i64 j.g.nmost, .int .i64 j.g.tmost, .int .i64 j.g.bmost, .int .i64 j.g.tmany, .int .i64 j.g.bmany, .int .i64 j.g.club, .int .i64 j.g.widow, .int .i64 j.g.split, .int .i64 j.g.later, .int .i64 j.g.spare, .bool j.g.bal, .slice s.ia j.items.length s.ic, .slice s.na j.notes.length s.nc, .slice s.fa j.floats.length s.fc]
theorem rdrL_len (g : Nat) (j : J4) (s : S3) : (rdrL g j s).length = 23 := rfl
theorem rdrL_job (g : Nat) (j : J4) (s : S3) : rdrL g j s = .pointer (some ⟨g, 0, none⟩) :: (jobC j s).toList := rfl
theorem rdrL_geo (g : Nat) (j : J4) (s : S3) : rdrL g j s = [.pointer (some ⟨g, 0, none⟩)] ++ ((geoC j.g).toList ++ [.slice s.ia j.items.length s.ic, .slice s.na j.notes.length s.nc, .slice s.fa j.floats.length s.fc]) := rfl
/-- A reader of jobs in block h, with what it has read. -/
def RjAt (w : World) (h g : Nat) (j : J4) (s : S3) : Prop := Blk w h (rdrL g j s).toArray 56
section
variable {w w' : World} {h g b : Nat} {j : J4} {s : S3}
theorem RjAt.at (H : RjAt w h g j s) (i : Nat) : w.cell? ⟨h, i, none⟩ = (rdrL g j s)[i]? := (Blk.cell H i).trans (by simp)
theorem RjAt.ptr (H : RjAt w h g j s) : w.cell? ⟨h, 0, none⟩ = some (.pointer (some ⟨g, 0, none⟩)) := H.at 0
theorem RjAt.but (H : RjAt w h g j s) (hb : But b w w') (hn : h ≠ b) : RjAt w' h g j s := Blk.but H hb hn
theorem RjAt.old (H : RjAt w h g j s) (hx : Old w w') : RjAt w' h g j s := Blk.old H hx
theorem RjAt.there (H : RjAt w h g j s) : w.there h 1 19 := fun i hi => by
  refine ⟨?_, Blk.free H _⟩
  rw [H.at, List.getElem?_eq_getElem (by rw [rdrL_len]; omega)]
  rfl
theorem RjAt.geo (H : RjAt w h g j s) (G : G19) : RjAt (w.setCells h 1 (geoC G).toList) h g { j with g := G } s := by
  unfold RjAt at H ⊢
  rw [rdrL_geo] at H
  have := blk_cells h 56 (geoC G).toList (geoC j.g).toList _ _ w rfl H
  rw [rdrL_geo]
  exact this
theorem RjAt.range (H : RjAt w h g j s) : w.rangeAt h 1 (jobC j s).toList := fun i v hv => by
  rw [H.at, rdrL_job, Nat.add_comm 1 i, List.getElem?_cons_succ]
  exact hv
theorem rdrL_byte (g : Nat) (j : J4) (s : S3) : ∀ v ∈ rdrL g j s, ∀ z, v ≠ .int .u8 z := by
  intro v hv z
  simp only [rdrL, List.mem_cons, List.not_mem_nil, or_false] at hv
  rcases hv with rfl | rfl | rfl | rfl | rfl | rfl | rfl | rfl | rfl | rfl | rfl | rfl | rfl | rfl | rfl | rfl | rfl | rfl | rfl | rfl | rfl | rfl | rfl <;> simp
end
theorem RdP.sole {bs : List Int} {w w' : World} {h g : Nat} {a : Option Addr} {c q : Nat} {st : Bool} {j : J4} {s : S3} (H : RdP bs w h g a c q st) (D : RjAt w h g j s) (hs : Sole h w w') (hp : w'.cell? ⟨h, 0, none⟩ = some (.pointer (some ⟨g, 0, none⟩))) : RdP bs w' h g a c q st :=
  ⟨H.le, H.len, H.byt, H.ne, by rw [hs.size]; exact H.lt, hp, (hs.block g H.ne.symm).trans H.cd, ⟨H.row.1, fun k hk => by
    obtain ⟨b, off, rfl, hB, hc⟩ := H.row.2 k hk
    have hne : b ≠ h := by
      rintro rfl
      exact rdrL_byte g j s _ (List.mem_of_getElem? ((D.at (off + k)).symm.trans hc)) _ rfl
    exact ⟨b, off, rfl, by rw [hs.size]; exact hB, (World.cell?_of_block (hs.block b hne)).trans hc⟩⟩⟩
theorem flag_at {bs : List Int} {h g : Nat} {a : Option Addr} {c q : Nat} {st : Bool} {x : Int} {r : Nat} {s : Bool} (e : (x, r, s) = boolR bs q st) (w : World) (H : RdP bs w h g a c q st) :
    Calls Try.prog 71 #[.pointer (some ⟨g, 0, none⟩)] w fun e w' => e = .returned (.bool (x == 1)) ∧ RdP bs w' h g a c r s ∧ But g w w' := by
  have hb := bool_any g a c bs q st H.le H.len H.byt w H.cd H.row
  have hle := (boolR_le bs q st H.le).1
  rw [← e] at hb hle
  refine hb.mono ?_
  rintro e w1 ⟨rfl, R1, B1⟩
  exact ⟨rfl, H.but B1 hle R1, B1⟩
set_option maxHeartbeats 4000000 in
theorem geometry_any (bs : List Int) (h g : Nat) (a : Option Addr) (c q : Nat) (st : Bool) (w : World) (j : J4) (s : S3) (H : RdP bs w h g a c q st) (D : RjAt w h g j s) :
    Calls Try.prog 59 #[.pointer (some ⟨h, 0, none⟩)] w fun e w' => e = .returned (.tuple #[]) ∧ RdP bs w' h g a c (geomR bs q st).2.1 (geomR bs q st).2.2 ∧ RjAt w' h g { j with g := (geomR bs q st).1 } s ∧ Near (fun i => i = g ∨ i = h) w w' := by
  have q0 : (q, st) = (q, st) := rfl
  obtain ⟨⟨x0, q1, t1⟩, e0⟩ : ∃ r, r = intR bs q st := ⟨_, rfl⟩
  obtain ⟨⟨x1, q2, t2⟩, e1⟩ : ∃ r, r = intR bs q1 t1 := ⟨_, rfl⟩
  obtain ⟨⟨x2, q3, t3⟩, e2⟩ : ∃ r, r = intR bs q2 t2 := ⟨_, rfl⟩
  obtain ⟨⟨x3, q4, t4⟩, e3⟩ : ∃ r, r = intR bs q3 t3 := ⟨_, rfl⟩
  obtain ⟨⟨x4, q5, t5⟩, e4⟩ : ∃ r, r = intR bs q4 t4 := ⟨_, rfl⟩
  obtain ⟨⟨x5, q6, t6⟩, e5⟩ : ∃ r, r = intR bs q5 t5 := ⟨_, rfl⟩
  obtain ⟨⟨x6, q7, t7⟩, e6⟩ : ∃ r, r = intR bs q6 t6 := ⟨_, rfl⟩
  obtain ⟨⟨x7, q8, t8⟩, e7⟩ : ∃ r, r = intR bs q7 t7 := ⟨_, rfl⟩
  obtain ⟨⟨x8, q9, t9⟩, e8⟩ : ∃ r, r = intR bs q8 t8 := ⟨_, rfl⟩
  obtain ⟨⟨x9, q10, t10⟩, e9⟩ : ∃ r, r = intR bs q9 t9 := ⟨_, rfl⟩
  obtain ⟨⟨x10, q11, t11⟩, e10⟩ : ∃ r, r = intR bs q10 t10 := ⟨_, rfl⟩
  obtain ⟨⟨x11, q12, t12⟩, e11⟩ : ∃ r, r = intR bs q11 t11 := ⟨_, rfl⟩
  obtain ⟨⟨x12, q13, t13⟩, e12⟩ : ∃ r, r = intR bs q12 t12 := ⟨_, rfl⟩
  obtain ⟨⟨x13, q14, t14⟩, e13⟩ : ∃ r, r = intR bs q13 t13 := ⟨_, rfl⟩
  obtain ⟨⟨x14, q15, t15⟩, e14⟩ : ∃ r, r = intR bs q14 t14 := ⟨_, rfl⟩
  obtain ⟨⟨x15, q16, t16⟩, e15⟩ : ∃ r, r = intR bs q15 t15 := ⟨_, rfl⟩
  obtain ⟨⟨x16, q17, t17⟩, e16⟩ : ∃ r, r = intR bs q16 t16 := ⟨_, rfl⟩
  obtain ⟨⟨x17, q18, t18⟩, e17⟩ : ∃ r, r = intR bs q17 t17 := ⟨_, rfl⟩
  obtain ⟨⟨xb, qb, tb⟩, eb⟩ : ∃ r, r = boolR bs q18 t18 := ⟨_, rfl⟩
  obtain ⟨G, hG⟩ : ∃ G : G19, G = ⟨x0, x1, x2, x3, x4, x5, x6, x7, x8, x9, x10, x11, x12, x13, x14, x15, x16, x17, xb == 1⟩ := ⟨_, rfl⟩
  have hR : geomR bs q st = (G, qb, tb) := by
    have eA : geomR bs q st = (geoOf ((numsR 18 bs q st).1, (boolR bs (numsR 18 bs q st).2.1 (numsR 18 bs q st).2.2).1), (boolR bs (numsR 18 bs q st).2.1 (numsR 18 bs q st).2.2).2) := rfl
    rw [eA]
    have eB : numsR 18 bs q st = ([x0, x1, x2, x3, x4, x5, x6, x7, x8, x9, x10, x11, x12, x13, x14, x15, x16, x17], q18, t18) := by
      simp only [nums_succ, nums_zero, ← e0, ← e1, ← e2, ← e3, ← e4, ← e5, ← e6, ← e7, ← e8, ← e9, ← e10, ← e11, ← e12, ← e13, ← e14, ← e15, ← e16, ← e17]
    rw [eB]
    dsimp only
    rw [← eb, hG]
    rfl
  have HR := Lib.hid hR
  have c0 := Lib.hid fun y (hy : RdP bs y h g a c q st) => number_at e0 y hy
  have c1 := Lib.hid fun y (hy : RdP bs y h g a c q1 t1) => length_at e1 y hy
  have c2 := Lib.hid fun y (hy : RdP bs y h g a c q2 t2) => length_at e2 y hy
  have c3 := Lib.hid fun y (hy : RdP bs y h g a c q3 t3) => length_at e3 y hy
  have c4 := Lib.hid fun y (hy : RdP bs y h g a c q4 t4) => length_at e4 y hy
  have c5 := Lib.hid fun y (hy : RdP bs y h g a c q5 t5) => length_at e5 y hy
  have c6 := Lib.hid fun y (hy : RdP bs y h g a c q6 t6) => length_at e6 y hy
  have c7 := Lib.hid fun y (hy : RdP bs y h g a c q7 t7) => length_at e7 y hy
  have c8 := Lib.hid fun y (hy : RdP bs y h g a c q8 t8) => length_at e8 y hy
  have c9 := Lib.hid fun y (hy : RdP bs y h g a c q9 t9) => length_at e9 y hy
  have c10 := Lib.hid fun y (hy : RdP bs y h g a c q10 t10) => length_at e10 y hy
  have c11 := Lib.hid fun y (hy : RdP bs y h g a c q11 t11) => number_at e11 y hy
  have c12 := Lib.hid fun y (hy : RdP bs y h g a c q12 t12) => number_at e12 y hy
  have c13 := Lib.hid fun y (hy : RdP bs y h g a c q13 t13) => number_at e13 y hy
  have c14 := Lib.hid fun y (hy : RdP bs y h g a c q14 t14) => number_at e14 y hy
  have c15 := Lib.hid fun y (hy : RdP bs y h g a c q15 t15) => number_at e15 y hy
  have c16 := Lib.hid fun y (hy : RdP bs y h g a c q16 t16) => number_at e16 y hy
  have c17 := Lib.hid fun y (hy : RdP bs y h g a c q17 t17) => number_at e17 y hy
  have cb := Lib.hid fun y (hy : RdP bs y h g a c q18 t18) => flag_at eb y hy
  have CE := Lib.hid fun y (hy : Near (fun i => i = g) w y) => (hy.but.cellN H.lt H.ne).trans H.ptr
  have HG := Lib.hid hG
  have hne := H.ne
  clear hR hG eb q0 e0 e1 e2 e3 e4 e5 e6 e7 e8 e9 e10 e11 e12 e13 e14 e15 e16 e17
  go_enter Try.func59, Try.ntmps59
  go_upto_region 0 with (fail)
  (refine wp_region_planU 43 [(0, true), (1, true), (3, true), (5, true), (7, true), (9, true), (11, true), (13, true), (15, true), (17, true), (19, true), (21, true), (23, true), (25, true), (27, true), (29, true), (31, true), (33, true), (35, true), (37, true), (38, true), (39, true), (40, true), (2, false), (4, false), (6, false), (8, false), (10, false), (12, false), (14, false), (16, false), (18, false), (20, false), (22, false), (24, false), (26, false), (28, false), (30, false), (32, false), (34, false), (36, false), (41, false), (42, true)] (fun i => i = g) (by kernel_rfl) (by kernel_rfl) ?_; simp only [pick, List.getElem?_cons_succ, List.getElem?_cons_zero, List.drop_succ_cons, List.drop_zero])
  repeat (first | (apply TextU.sees (hw := by kernel_rfl); (focus (intro x hx K hK; have hc := CE.out x hx; go_simp; exact hK)); simp only [Act.put, List.getElem_toArray, List.getElem_cons_succ, List.getElem_cons_zero, List.setIfInBounds_toArray, List.set_cons_zero, List.set_cons_succ]) | (apply TextU.idle; (focus (intro x hx K hK; go_simp; exact hK)); simp only [Act.put, List.getElem_toArray, List.getElem_cons_succ, List.getElem_cons_zero, List.setIfInBounds_toArray, List.set_cons_zero, List.set_cons_succ]))
  (refine TextU.loud (fun i => i = g) (V := fun v y => v = .int .i64 x0 ∧ RdP bs y h g a c q1 t1) (fun _ h => h) (fun x hx => (c0.out x (H.old hx)).mono fun e y hh => ⟨_, hh.1, ⟨rfl, hh.2.1⟩, hh.2.2.near⟩) (by kernel_rfl) (fun _ => by kernel_rfl) (fun v y0 hv n0 => ?_); simp only [Act.put, List.getElem_toArray, List.getElem_cons_succ, List.getElem_cons_zero, List.setIfInBounds_toArray, List.set_cons_zero, List.set_cons_succ])
  obtain ⟨rfl, H0⟩ := hv
  have D0 : RjAt y0 h g j s := Blk.near D n0 hne
  have m0 := (Near.of (Below.refl _ _) : Near (fun i => i = g) w w).trans n0 (fun _ h => h)
  clear CE  n0 c0 
  (refine TextU.loud (fun i => i = g) (V := fun v y => v = .int .i64 x1 ∧ RdP bs y h g a c q2 t2) (fun _ h => h) (fun x hx => (c1.out x (H0.old hx)).mono fun e y hh => ⟨_, hh.1, ⟨rfl, hh.2.1⟩, hh.2.2.near⟩) (by kernel_rfl) (fun _ => by kernel_rfl) (fun v y1 hv n1 => ?_); simp only [Act.put, List.getElem_toArray, List.getElem_cons_succ, List.getElem_cons_zero, List.setIfInBounds_toArray, List.set_cons_zero, List.set_cons_succ])
  obtain ⟨rfl, H1⟩ := hv
  have D1 : RjAt y1 h g j s := Blk.near D0 n1 hne
  have m1 := m0.trans n1 (fun _ h => h)
  clear H0 D0 n1 c1 m0
  (refine TextU.loud (fun i => i = g) (V := fun v y => v = .int .i64 x2 ∧ RdP bs y h g a c q3 t3) (fun _ h => h) (fun x hx => (c2.out x (H1.old hx)).mono fun e y hh => ⟨_, hh.1, ⟨rfl, hh.2.1⟩, hh.2.2.near⟩) (by kernel_rfl) (fun _ => by kernel_rfl) (fun v y2 hv n2 => ?_); simp only [Act.put, List.getElem_toArray, List.getElem_cons_succ, List.getElem_cons_zero, List.setIfInBounds_toArray, List.set_cons_zero, List.set_cons_succ])
  obtain ⟨rfl, H2⟩ := hv
  have D2 : RjAt y2 h g j s := Blk.near D1 n2 hne
  have m2 := m1.trans n2 (fun _ h => h)
  clear H1 D1 n2 c2 m1
  (refine TextU.loud (fun i => i = g) (V := fun v y => v = .int .i64 x3 ∧ RdP bs y h g a c q4 t4) (fun _ h => h) (fun x hx => (c3.out x (H2.old hx)).mono fun e y hh => ⟨_, hh.1, ⟨rfl, hh.2.1⟩, hh.2.2.near⟩) (by kernel_rfl) (fun _ => by kernel_rfl) (fun v y3 hv n3 => ?_); simp only [Act.put, List.getElem_toArray, List.getElem_cons_succ, List.getElem_cons_zero, List.setIfInBounds_toArray, List.set_cons_zero, List.set_cons_succ])
  obtain ⟨rfl, H3⟩ := hv
  have D3 : RjAt y3 h g j s := Blk.near D2 n3 hne
  have m3 := m2.trans n3 (fun _ h => h)
  clear H2 D2 n3 c3 m2
  (refine TextU.loud (fun i => i = g) (V := fun v y => v = .int .i64 x4 ∧ RdP bs y h g a c q5 t5) (fun _ h => h) (fun x hx => (c4.out x (H3.old hx)).mono fun e y hh => ⟨_, hh.1, ⟨rfl, hh.2.1⟩, hh.2.2.near⟩) (by kernel_rfl) (fun _ => by kernel_rfl) (fun v y4 hv n4 => ?_); simp only [Act.put, List.getElem_toArray, List.getElem_cons_succ, List.getElem_cons_zero, List.setIfInBounds_toArray, List.set_cons_zero, List.set_cons_succ])
  obtain ⟨rfl, H4⟩ := hv
  have D4 : RjAt y4 h g j s := Blk.near D3 n4 hne
  have m4 := m3.trans n4 (fun _ h => h)
  clear H3 D3 n4 c4 m3
  (refine TextU.loud (fun i => i = g) (V := fun v y => v = .int .i64 x5 ∧ RdP bs y h g a c q6 t6) (fun _ h => h) (fun x hx => (c5.out x (H4.old hx)).mono fun e y hh => ⟨_, hh.1, ⟨rfl, hh.2.1⟩, hh.2.2.near⟩) (by kernel_rfl) (fun _ => by kernel_rfl) (fun v y5 hv n5 => ?_); simp only [Act.put, List.getElem_toArray, List.getElem_cons_succ, List.getElem_cons_zero, List.setIfInBounds_toArray, List.set_cons_zero, List.set_cons_succ])
  obtain ⟨rfl, H5⟩ := hv
  have D5 : RjAt y5 h g j s := Blk.near D4 n5 hne
  have m5 := m4.trans n5 (fun _ h => h)
  clear H4 D4 n5 c5 m4
  (refine TextU.loud (fun i => i = g) (V := fun v y => v = .int .i64 x6 ∧ RdP bs y h g a c q7 t7) (fun _ h => h) (fun x hx => (c6.out x (H5.old hx)).mono fun e y hh => ⟨_, hh.1, ⟨rfl, hh.2.1⟩, hh.2.2.near⟩) (by kernel_rfl) (fun _ => by kernel_rfl) (fun v y6 hv n6 => ?_); simp only [Act.put, List.getElem_toArray, List.getElem_cons_succ, List.getElem_cons_zero, List.setIfInBounds_toArray, List.set_cons_zero, List.set_cons_succ])
  obtain ⟨rfl, H6⟩ := hv
  have D6 : RjAt y6 h g j s := Blk.near D5 n6 hne
  have m6 := m5.trans n6 (fun _ h => h)
  clear H5 D5 n6 c6 m5
  (refine TextU.loud (fun i => i = g) (V := fun v y => v = .int .i64 x7 ∧ RdP bs y h g a c q8 t8) (fun _ h => h) (fun x hx => (c7.out x (H6.old hx)).mono fun e y hh => ⟨_, hh.1, ⟨rfl, hh.2.1⟩, hh.2.2.near⟩) (by kernel_rfl) (fun _ => by kernel_rfl) (fun v y7 hv n7 => ?_); simp only [Act.put, List.getElem_toArray, List.getElem_cons_succ, List.getElem_cons_zero, List.setIfInBounds_toArray, List.set_cons_zero, List.set_cons_succ])
  obtain ⟨rfl, H7⟩ := hv
  have D7 : RjAt y7 h g j s := Blk.near D6 n7 hne
  have m7 := m6.trans n7 (fun _ h => h)
  clear H6 D6 n7 c7 m6
  (refine TextU.loud (fun i => i = g) (V := fun v y => v = .int .i64 x8 ∧ RdP bs y h g a c q9 t9) (fun _ h => h) (fun x hx => (c8.out x (H7.old hx)).mono fun e y hh => ⟨_, hh.1, ⟨rfl, hh.2.1⟩, hh.2.2.near⟩) (by kernel_rfl) (fun _ => by kernel_rfl) (fun v y8 hv n8 => ?_); simp only [Act.put, List.getElem_toArray, List.getElem_cons_succ, List.getElem_cons_zero, List.setIfInBounds_toArray, List.set_cons_zero, List.set_cons_succ])
  obtain ⟨rfl, H8⟩ := hv
  have D8 : RjAt y8 h g j s := Blk.near D7 n8 hne
  have m8 := m7.trans n8 (fun _ h => h)
  clear H7 D7 n8 c8 m7
  (refine TextU.loud (fun i => i = g) (V := fun v y => v = .int .i64 x9 ∧ RdP bs y h g a c q10 t10) (fun _ h => h) (fun x hx => (c9.out x (H8.old hx)).mono fun e y hh => ⟨_, hh.1, ⟨rfl, hh.2.1⟩, hh.2.2.near⟩) (by kernel_rfl) (fun _ => by kernel_rfl) (fun v y9 hv n9 => ?_); simp only [Act.put, List.getElem_toArray, List.getElem_cons_succ, List.getElem_cons_zero, List.setIfInBounds_toArray, List.set_cons_zero, List.set_cons_succ])
  obtain ⟨rfl, H9⟩ := hv
  have D9 : RjAt y9 h g j s := Blk.near D8 n9 hne
  have m9 := m8.trans n9 (fun _ h => h)
  clear H8 D8 n9 c9 m8
  (refine TextU.loud (fun i => i = g) (V := fun v y => v = .int .i64 x10 ∧ RdP bs y h g a c q11 t11) (fun _ h => h) (fun x hx => (c10.out x (H9.old hx)).mono fun e y hh => ⟨_, hh.1, ⟨rfl, hh.2.1⟩, hh.2.2.near⟩) (by kernel_rfl) (fun _ => by kernel_rfl) (fun v y10 hv n10 => ?_); simp only [Act.put, List.getElem_toArray, List.getElem_cons_succ, List.getElem_cons_zero, List.setIfInBounds_toArray, List.set_cons_zero, List.set_cons_succ])
  obtain ⟨rfl, H10⟩ := hv
  have D10 : RjAt y10 h g j s := Blk.near D9 n10 hne
  have m10 := m9.trans n10 (fun _ h => h)
  clear H9 D9 n10 c10 m9
  (refine TextU.loud (fun i => i = g) (V := fun v y => v = .int .i64 x11 ∧ RdP bs y h g a c q12 t12) (fun _ h => h) (fun x hx => (c11.out x (H10.old hx)).mono fun e y hh => ⟨_, hh.1, ⟨rfl, hh.2.1⟩, hh.2.2.near⟩) (by kernel_rfl) (fun _ => by kernel_rfl) (fun v y11 hv n11 => ?_); simp only [Act.put, List.getElem_toArray, List.getElem_cons_succ, List.getElem_cons_zero, List.setIfInBounds_toArray, List.set_cons_zero, List.set_cons_succ])
  obtain ⟨rfl, H11⟩ := hv
  have D11 : RjAt y11 h g j s := Blk.near D10 n11 hne
  have m11 := m10.trans n11 (fun _ h => h)
  clear H10 D10 n11 c11 m10
  (refine TextU.loud (fun i => i = g) (V := fun v y => v = .int .i64 x12 ∧ RdP bs y h g a c q13 t13) (fun _ h => h) (fun x hx => (c12.out x (H11.old hx)).mono fun e y hh => ⟨_, hh.1, ⟨rfl, hh.2.1⟩, hh.2.2.near⟩) (by kernel_rfl) (fun _ => by kernel_rfl) (fun v y12 hv n12 => ?_); simp only [Act.put, List.getElem_toArray, List.getElem_cons_succ, List.getElem_cons_zero, List.setIfInBounds_toArray, List.set_cons_zero, List.set_cons_succ])
  obtain ⟨rfl, H12⟩ := hv
  have D12 : RjAt y12 h g j s := Blk.near D11 n12 hne
  have m12 := m11.trans n12 (fun _ h => h)
  clear H11 D11 n12 c12 m11
  (refine TextU.loud (fun i => i = g) (V := fun v y => v = .int .i64 x13 ∧ RdP bs y h g a c q14 t14) (fun _ h => h) (fun x hx => (c13.out x (H12.old hx)).mono fun e y hh => ⟨_, hh.1, ⟨rfl, hh.2.1⟩, hh.2.2.near⟩) (by kernel_rfl) (fun _ => by kernel_rfl) (fun v y13 hv n13 => ?_); simp only [Act.put, List.getElem_toArray, List.getElem_cons_succ, List.getElem_cons_zero, List.setIfInBounds_toArray, List.set_cons_zero, List.set_cons_succ])
  obtain ⟨rfl, H13⟩ := hv
  have D13 : RjAt y13 h g j s := Blk.near D12 n13 hne
  have m13 := m12.trans n13 (fun _ h => h)
  clear H12 D12 n13 c13 m12
  (refine TextU.loud (fun i => i = g) (V := fun v y => v = .int .i64 x14 ∧ RdP bs y h g a c q15 t15) (fun _ h => h) (fun x hx => (c14.out x (H13.old hx)).mono fun e y hh => ⟨_, hh.1, ⟨rfl, hh.2.1⟩, hh.2.2.near⟩) (by kernel_rfl) (fun _ => by kernel_rfl) (fun v y14 hv n14 => ?_); simp only [Act.put, List.getElem_toArray, List.getElem_cons_succ, List.getElem_cons_zero, List.setIfInBounds_toArray, List.set_cons_zero, List.set_cons_succ])
  obtain ⟨rfl, H14⟩ := hv
  have D14 : RjAt y14 h g j s := Blk.near D13 n14 hne
  have m14 := m13.trans n14 (fun _ h => h)
  clear H13 D13 n14 c14 m13
  (refine TextU.loud (fun i => i = g) (V := fun v y => v = .int .i64 x15 ∧ RdP bs y h g a c q16 t16) (fun _ h => h) (fun x hx => (c15.out x (H14.old hx)).mono fun e y hh => ⟨_, hh.1, ⟨rfl, hh.2.1⟩, hh.2.2.near⟩) (by kernel_rfl) (fun _ => by kernel_rfl) (fun v y15 hv n15 => ?_); simp only [Act.put, List.getElem_toArray, List.getElem_cons_succ, List.getElem_cons_zero, List.setIfInBounds_toArray, List.set_cons_zero, List.set_cons_succ])
  obtain ⟨rfl, H15⟩ := hv
  have D15 : RjAt y15 h g j s := Blk.near D14 n15 hne
  have m15 := m14.trans n15 (fun _ h => h)
  clear H14 D14 n15 c15 m14
  (refine TextU.loud (fun i => i = g) (V := fun v y => v = .int .i64 x16 ∧ RdP bs y h g a c q17 t17) (fun _ h => h) (fun x hx => (c16.out x (H15.old hx)).mono fun e y hh => ⟨_, hh.1, ⟨rfl, hh.2.1⟩, hh.2.2.near⟩) (by kernel_rfl) (fun _ => by kernel_rfl) (fun v y16 hv n16 => ?_); simp only [Act.put, List.getElem_toArray, List.getElem_cons_succ, List.getElem_cons_zero, List.setIfInBounds_toArray, List.set_cons_zero, List.set_cons_succ])
  obtain ⟨rfl, H16⟩ := hv
  have D16 : RjAt y16 h g j s := Blk.near D15 n16 hne
  have m16 := m15.trans n16 (fun _ h => h)
  clear H15 D15 n16 c16 m15
  (refine TextU.loud (fun i => i = g) (V := fun v y => v = .int .i64 x17 ∧ RdP bs y h g a c q18 t18) (fun _ h => h) (fun x hx => (c17.out x (H16.old hx)).mono fun e y hh => ⟨_, hh.1, ⟨rfl, hh.2.1⟩, hh.2.2.near⟩) (by kernel_rfl) (fun _ => by kernel_rfl) (fun v y17 hv n17 => ?_); simp only [Act.put, List.getElem_toArray, List.getElem_cons_succ, List.getElem_cons_zero, List.setIfInBounds_toArray, List.set_cons_zero, List.set_cons_succ])
  obtain ⟨rfl, H17⟩ := hv
  have D17 : RjAt y17 h g j s := Blk.near D16 n17 hne
  have m17 := m16.trans n17 (fun _ h => h)
  clear H16 D16 n17 c17 m16
  (refine TextU.loud (fun _ => False) (V := fun v y => v = .bool (xb == 1) ∧ RdP bs y h g a c qb tb) (fun _ h => h.elim) (fun x hx => (cb.out x (H17.old hx)).mono fun e y hh => ⟨_, hh.1, ⟨rfl, hh.2.1⟩, hh.2.2.near⟩) (by kernel_rfl) (fun _ => by kernel_rfl) (fun v yb hv nb => ?_); simp only [Act.put, List.getElem_toArray, List.getElem_cons_succ, List.getElem_cons_zero, List.setIfInBounds_toArray, List.set_cons_zero, List.set_cons_succ])
  obtain ⟨rfl, Hb⟩ := hv
  have Db : RjAt yb h g j s := Blk.near D17 nb hne
  have mb := m17.trans nb (fun _ h => h)
  have CF := Lib.hid fun (y : World) (hy : Near (fun _ => False) yb y) => trivial
  repeat (first | (apply TextU.sees (hw := by kernel_rfl); (focus (intro x hx K hK; have hc := CF.out x hx; go_simp; exact hK)); simp only [Act.put, List.getElem_toArray, List.getElem_cons_succ, List.getElem_cons_zero, List.setIfInBounds_toArray, List.set_cons_zero, List.set_cons_succ]) | (apply TextU.idle; (focus (intro x hx K hK; go_simp; exact hK)); simp only [Act.put, List.getElem_toArray, List.getElem_cons_succ, List.getElem_cons_zero, List.setIfInBounds_toArray, List.set_cons_zero, List.set_cons_succ]))
  apply TextU.done
  intro x hx
  have Hx := Hb.old hx
  have Dx := Db.old hx
  have mx := mb.trans (Near.of (M := fun i => i = g) hx) (fun _ h => h)
  clear H17 D17 m17 nb Hb Db mb CF hx cb
  refine wpl_step (w' := x) (v := .pointer (some ⟨h, 0, none⟩)) rfl (by kernel_rfl) ?_
  refine wpl_step (w' := x) (v := .pointer (some ⟨h, 1, none⟩)) rfl (by kernel_rfl) ?_
  refine wpl_step (w' := x) (v := .pointer (some ⟨h, 1, none⟩)) rfl (by kernel_rfl) ?_
  refine wpList_store_mid rfl 26 (.tmp 47) (.tmp 44) rfl h 1 (geoC G) rfl (by rw [HG.out]; rfl) Dx.there info24 (geo_one G) ?_
  go_wp2
  go_end0
  have S := sole_cells h (geoC G).toList 1 x
  have E := Dx.geo G
  rw [HR.out]
  exact ⟨rfl, Hx.sole Dx S E.ptr, E, (mx.wide fun _ h => .inl h).trans (⟨S.os, S.tape, S.output, Nat.le_of_eq S.size.symm, fun i _ hn => S.block i fun e => hn (.inr e)⟩ : Near (fun i => i = g ∨ i = h) x _) fun _ h => h⟩
end Go.Proofs.Ytjfjekncmejfpaa
