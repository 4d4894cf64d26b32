/- Fair of the document. -/
import Derived.Test.YtllpimhjpfkgpaaJCl2
import Derived.Test.YtllpimhjpfkgpaaJFair
namespace Go.Proofs.Ytllpimhjpfkgpaa
open Go.RowKit
set_option maxRecDepth 20000
set_option linter.unusedVariables false
set_option linter.unusedSimpArgs false

/-- append of a slice that is nil, whatever its capacity. -/
theorem run_append_nil {P : Program} {w : World} {B : Nat} {t ty e : TypeId} {i : TypeInfo} {sz c : Nat} (ht : P.underlying t = some (.slice e)) (hi : P.info? e = some i) {v : Value} {n : Nat} {xs : List Value} (hown : w.ownsRow B e sz v n xs) :
    (Builtin.append_ #[t, t] ty #[v, .slice none 0 c]).run P w = .ok v w := by
  rcases hown.2 with ⟨rfl, rfl⟩ | ⟨g, cap, cur, rfl, _, _, hnc, _⟩
  · simp [Builtin.append_, run_underlying ht, sizeOf, typeInfo, hi, Builtin.lenOf, Builtin.firstCells]
  · simp [Builtin.append_, run_underlying ht, sizeOf, typeInfo, hi, Builtin.lenOf, Builtin.firstCells, hnc, storeCells]
section
variable {α : Type} {sz : Nat} {enc : α → List Value} {w w' : World} {a : Option Addr} {n : Nat} {e : TypeId} {B : Nat}
/-- A slice that is grown by elements that lie where another says, nil or not. -/
theorem run_app4 {P : Program} {t ty : TypeId} {i : TypeInfo} {z : Value} {bytes : Nat} {v : Value} {l m : List α} {d : α} {c : Nat} (ht : P.underlying t = some (.slice e)) (hi : P.info? e = some i) (hz : i.zero = some z) (hs : i.size = sz) (hy : i.bytes = bytes) (hzs : z.cells.size = sz) (hsz : 0 < sz)
    (hlen : ∀ x, (enc x).length = sz) (hone : ∀ x, ∀ u ∈ enc x, u.oneCell' = true) (hown : w.ownsRow B e sz v l.length (l.map enc).flatten) (hr : Els sz enc w a m.length fun k => m.getD k d) (hn : l.length + m.length ≤ maxLen) (hb : (l.length + m.length) * bytes ≤ 140737488355328) (hB : B ≤ w.heap.size) :
    ∃ v' w', (Builtin.append_ #[t, t] ty #[v, .slice a m.length c]).run P w = .ok v' w' ∧ w'.ownsRow B e sz v' (l ++ m).length ((l ++ m).map enc).flatten ∧ w.grownBy w' v.ownBlock := by
  cases a with
  | none =>
    obtain rfl : m = [] := List.eq_nil_of_length_eq_zero (none_nil hr hsz)
    exact ⟨v, w, run_append_nil ht hi hown, by simpa using hown, World.grownBy.refl _ _⟩
  | some ad => exact run_els ht hi hz hs hy hzs hsz hlen hone hown hr hn hb hB (fun h => by cases h)
theorem wpList_app4 {P : Program} {ops : Array Oper} {rest : List Oper} {o : Oper} {act : Act} {Q : Exit → Act → World → Prop} {w0 : World} (hgd : o.guard = none) (s x : Operand) {t : TypeId} (ho : o.op = .call { callee := .builtin .append, args := #[s, x], argTypes := #[t, t] })
    {i : TypeInfo} {z : Value} {bytes : Nat} {v : Value} {l m : List α} {d : α} {c : Nat} (ht : P.underlying t = some (.slice e)) (hi : P.info? e = some i) (hz : i.zero = some z) (hs : i.size = sz) (hy : i.bytes = bytes) (hzs : z.cells.size = sz) (hsz : 0 < sz)
    (hlen : ∀ x, (enc x).length = sz) (hone : ∀ x, ∀ u ∈ enc x, u.oneCell' = true) (hev : act.eval s = v) (hown : w.ownsRow B e sz v l.length (l.map enc).flatten) (hex : act.eval x = .slice a m.length c) (hr : Els sz enc w a m.length fun k => m.getD k d) (hn : l.length + m.length ≤ maxLen) (hby : (l.length + m.length) * bytes ≤ 140737488355328) (hb : Below B w0 w) (hB : B ≤ w.heap.size)
    (h : ∀ v' w', w'.ownsRow B e sz v' (l ++ m).length ((l ++ m).map enc).flatten → Below B w0 w' → wpList P ops Q rest (act.put o.dst v') w') : wpList P ops Q (o :: rest) act w := by
  obtain ⟨v', w', hrun, h2, h3⟩ := run_app4 (c := c) (ty := o.type) ht hi hz hs hy hzs hsz hlen hone hown hr hn hby hB
  refine wpList_plain hgd fun _ hK => ?_
  unfold Oper.wp execOp
  simp only [ho, resolve, invoke, builtin, Sem.run_bind, Sem.run_pure, Result.andThen_ok, List.map_toArray, List.map_cons, List.map_nil, hev, hex, hrun]
  exact hK _ _ (h v' w' h2 (grown_below hown hb h3 hB))
theorem els_new {w : World} {e : TypeId} {enc : α → List Value} (hlen : ∀ x, (enc x).length = sz) (x : α) (d : α) : Els sz enc (w.alloc (.cells (enc x).toArray e)) (some ⟨w.heap.size, 0, none⟩) [x].length fun k => [x].getD k d := fun k j hk hj => by
  obtain rfl : k = 0 := by simp at hk; omega
  have B := blk_new w (enc x).toArray e
  refine ⟨w.heap.size, 0, rfl, B.lt, ?_⟩
  rw [B.cell, Nat.zero_add, Nat.zero_mul, Nat.zero_add, List.getElem?_toArray]
  rfl
theorem take_snoc {l : List α} {k : Nat} (d : α) (hk : k < l.length) : l.take (k + 1) = l.take k ++ [l.getD k d] := by
  rw [List.take_succ_eq_append_getElem hk, List.getD_eq_getElem?_getD, List.getElem?_eq_getElem hk]
  rfl
end
theorem own_five (w : World) (a b c d e : Int) : (w.alloc (.cells #[.int .i64 a, .int .i64 b, .int .i64 c, .int .i64 d, .int .i64 e] 22)).ownsRow w.heap.size 22 1 (.slice (some ⟨w.heap.size, 0, none⟩) 5 5) [a, b, c, d, e].length (([a, b, c, d, e].map encZ).flatten) :=
  ⟨rfl, .inr ⟨w.heap.size, 5, _, rfl, Nat.le_refl _, blk_new w _ 22, by simp, by decide, rfl, rfl⟩⟩
theorem flat_few {l : List N2} (h : ∀ k, (l.getD k zeroN).l.length ≤ 100) : ∀ k, k ≤ l.length → ((l.take k).map (·.l)).flatten.length ≤ 100 * k
  | 0, _ => by simp
  | k + 1, hk => by
    have := flat_few h k (by omega)
    rw [take_snoc zeroN (by omega), List.map_append, List.flatten_append, List.length_append]
    have h2 := h k
    simp only [List.map_cons, List.map_nil, List.flatten_cons, List.flatten_nil, List.append_nil]
    omega
/-- The numbers so far. -/
def NumsOwn (B : Nat) (wr : World) (v : Value) (L : List Int) : Prop := wr.ownsRow B 22 1 v L.length (L.map encZ).flatten
/-- What stands while Fair goes on. -/
def FairI (U wr : World) (L : List Int) (v : Value) : Prop := Old U wr ∧ NumsOwn U.heap.size wr v L
set_option maxHeartbeats 4000000 in
theorem rfair_any (j : J4) (s : S3) (w : World) (hL : Lists w j s) (hf : Few j) :
    Calls Try.prog 13 #[.agg (jobC j s)] w fun e w' => e = .returned (.bool (fairJ j)) ∧ Below w.heap.size w w' := by
  have hmx : 1000002 ≤ maxLen := by decide
  obtain ⟨i0, hi, hz0, hz1, hz2⟩ := info_parts infoZ22
  obtain ⟨f1, f2, f3, f4⟩ := hf
  have D := job_new w j s
  have b0 := tbel1 w (.cells (jobC j s) 29)
  obtain ⟨_, _, _, q3, q4, q5, q6, q7, _⟩ := D.geo
  have HL := Lib.hid hL
  clear hL
  obtain ⟨L0, hL0⟩ : ∃ L0, L0 = [j.g.grid, j.g.high, j.g.first, j.g.rule, j.g.sep] := ⟨_, rfl⟩
  have l0 : L0.length = 5 := by rw [hL0]; rfl
  have HLn : Hid (fairJ j = (L0 ++ j.items.map (·.h) ++ (j.notes.map (·.l)).flatten ++ j.floats.map (·.h)).all fairZ) := Lib.hid (by rw [hL0]; rfl)
  have hfl := flat_few fun k => (f4 k).1
  go_enter Try.func13, Try.ntmps13
  go_upto_region 1 with (fail)
  generalize w.alloc _ = U at *
  go_upto_region 2 with (fail)
  have HO1 : Hid (FairI U (U.alloc (.cells #[.int .i64 j.g.grid, .int .i64 j.g.high, .int .i64 j.g.first, .int .i64 j.g.rule, .int .i64 j.g.sep] 22)) L0 (.slice (some ⟨U.heap.size, 0, none⟩) 5 5)) := Lib.hid ⟨tbel1 U _, by rw [hL0]; exact own_five U _ _ _ _ _⟩
  clear q3 q4 q5 q6 q7 hL0
  generalize U.alloc _ = V at *
  have HD := Lib.hid D
  clear D
  go_wp2_with fail
  go_loopw [3, 4] (fun v i wr => ∃ (u : Value) (k : Nat), u = v ∧ k ≤ j.items.length ∧ i = .int .i64 k ∧ Hid (FairI U wr (L0 ++ (j.items.take k).map (·.h)) u)) (fun _ i _ => j.items.length - (intOf i).toNat)
  case atStart => exact ⟨_, 0, rfl, Nat.zero_le _, rfl, by rw [List.take_zero, List.map_nil, List.append_nil]; exact HO1⟩
  case round =>
    clear HO1
    obtain ⟨u, k, rfl, hk, rfl, HI⟩ := hrel
    obtain ⟨bw, hown⟩ := HI.out
    have hws := bw.size
    obtain ⟨t19, t20, t21⟩ := (HD.out.old bw).three
    by_cases hlt : k < j.items.length
    · obtain ⟨b, off, hia, hB, p0, p1, p2, p3, p4, p5, p6⟩ := els7 (HL.out.items.carry (tstep b0 bw b0.size)) hlt
      rw [hia] at t19
      have HS : Hid (L0 ++ (j.items.take k).map (·.h) ++ [(j.items.getD k zeroI).h] = L0 ++ (j.items.take (k + 1)).map (·.h)) := Lib.hid (by rw [take_snoc zeroI hlt, List.map_append, List.append_assoc]; rfl)
      have hlen : (L0 ++ (j.items.take k).map (·.h)).length ≤ 105 := by simp only [List.length_append, List.length_map, List.length_take]; omega
      generalize L0 ++ (j.items.take k).map (·.h) = L at *
      generalize (j.items.getD k zeroI).h = x at *
      clear p0 p2 p3 p4 p5 p6 hia HI
      unfold NumsOwn at hown
      have ho := World.ownsRow.alloc hown (.cells #[.int .i64 x] 22)
      have be := tstep bw (tbel1 wr (.cells #[.int .i64 x] 22)) hws
      have ee := els_new (w := wr) (e := 22) encZ_len x 0
      go_wp2_with (at_builtin; refine wpList_app4 (l := L) (m := [x]) (d := 0) (w0 := U) rfl _ _ rfl Try.underlying34 hi hz0 hz1 hz2 rfl (by decide) encZ_len encZ_one rfl ho rfl ee (by simp; omega) (by simp; omega) be (by simp; omega) ?_; intro v' w4 hown' hb4)
      have HN : Hid (FairI U w4 (L0 ++ (j.items.take (k + 1)).map (·.h)) v') := Lib.hid ⟨hb4, by rw [← HS.out]; exact hown'⟩
      clear HS hown' hb4 ho be ee hown
      go_wp2
      go_roundw
      case rel => exact ⟨_, k + 1, rfl, by omega, by go_num, HN⟩
      case measure => simp [intOf]; omega
    · obtain rfl : k = j.items.length := by omega
      rw [List.take_length] at HI
      have l1 : (L0 ++ j.items.map (·.h)).length ≤ 105 := by simp only [List.length_append, List.length_map]; omega
      clear hk hlt hown
      obtain ⟨L1, hL1⟩ : ∃ L1, L1 = L0 ++ j.items.map (·.h) := ⟨_, rfl⟩
      rw [← hL1] at l1 HI
      have E1 := Lib.hid hL1
      clear hL1 l0
      go_wp2_with fail
      go_loopw [3, 5] (fun v i wr => ∃ (u : Value) (k : Nat), u = v ∧ k ≤ j.notes.length ∧ i = .int .i64 k ∧ Hid (FairI U wr (L1 ++ ((j.notes.take k).map (·.l)).flatten) u)) (fun _ i _ => j.notes.length - (intOf i).toNat)
      case atStart => exact ⟨_, 0, rfl, Nat.zero_le _, rfl, by rw [List.take_zero, List.map_nil, List.flatten_nil, List.append_nil]; exact HI⟩
      case round =>
        clear HI bw hws t19 t20 t21
        obtain ⟨u, k, rfl, hk, rfl, HI⟩ := hrel
        obtain ⟨bw, hown⟩ := HI.out
        have hws := bw.size
        obtain ⟨t19, t20, t21⟩ := (HD.out.old bw).three
        by_cases hlt : k < j.notes.length
        · obtain ⟨hs, hH, hN⟩ := HL.out.notes.carry (tstep b0 bw b0.size)
          obtain ⟨b, off, hna, hB, p0, p1⟩ := els2 hH hlt
          obtain ⟨n1, n2, n3, n4, n5, n6⟩ := hN k hlt
          rw [hna] at t20
          rw [n1] at p0
          have HS : Hid (L1 ++ ((j.notes.take k).map (·.l)).flatten ++ (j.notes.getD k zeroN).l = L1 ++ ((j.notes.take (k + 1)).map (·.l)).flatten) := Lib.hid (by rw [take_snoc zeroN hlt, List.map_append, List.flatten_append, List.append_assoc]; simp)
          have hlen : (L1 ++ ((j.notes.take k).map (·.l)).flatten).length ≤ 20000 := by have := hfl k hk; simp only [List.length_append]; omega
          have hx := (f4 k).1
          have ee := n5.els (Nat.le_refl _)
          clear hna HI hH hN n1 n2 n3 n4 n5 n6 p1
          generalize L1 ++ ((j.notes.take k).map (·.l)).flatten = L at *
          generalize (j.notes.getD k zeroN).l = X at *
          generalize hs k = h at *
          unfold NumsOwn at hown
          go_wp2_with (at_builtin; refine wpList_app4 (l := L) (m := X) (d := 0) (w0 := U) rfl _ _ rfl Try.underlying34 hi hz0 hz1 hz2 rfl (by decide) encZ_len encZ_one rfl hown rfl ee (by omega) (by omega) bw (by omega) ?_; intro v' w4 hown' hb4)
          have HN : Hid (FairI U w4 (L1 ++ ((j.notes.take (k + 1)).map (·.l)).flatten) v') := Lib.hid ⟨hb4, by rw [← HS.out]; exact hown'⟩
          clear HS hown' hb4 ee hown
          go_wp2
          go_roundw
          case rel => exact ⟨_, k + 1, rfl, by omega, by go_num, HN⟩
          case measure => simp [intOf]; omega
        · obtain rfl : k = j.notes.length := by omega
          have l2 : (L1 ++ (j.notes.map (·.l)).flatten).length ≤ 20000 := by
            have := hfl j.notes.length (Nat.le_refl _)
            rw [List.take_length] at this
            simp only [List.length_append]
            omega
          rw [List.take_length] at HI
          clear hk hlt hown
          obtain ⟨L2, hL2⟩ : ∃ L2, L2 = L1 ++ (j.notes.map (·.l)).flatten := ⟨_, rfl⟩
          rw [← hL2] at l2 HI
          have E2 := Lib.hid hL2
          clear hL2 l1
          go_wp2_with fail
          go_loopw [3, 6] (fun v i wr => ∃ (u : Value) (k : Nat), u = v ∧ k ≤ j.floats.length ∧ i = .int .i64 k ∧ Hid (FairI U wr (L2 ++ (j.floats.take k).map (·.h)) u)) (fun _ i _ => j.floats.length - (intOf i).toNat)
          case atStart => exact ⟨_, 0, rfl, Nat.zero_le _, rfl, by rw [List.take_zero, List.map_nil, List.append_nil]; exact HI⟩
          case round =>
            clear HI bw hws t19 t20 t21
            obtain ⟨u, k, rfl, hk, rfl, HI⟩ := hrel
            obtain ⟨bw, hown⟩ := HI.out
            have hws := bw.size
            obtain ⟨t19, t20, t21⟩ := (HD.out.old bw).three
            by_cases hlt : k < j.floats.length
            · obtain ⟨b, off, hfa, hB, p0, p1, p2⟩ := els3 (HL.out.floats.carry (tstep b0 bw b0.size)) hlt
              rw [hfa] at t21
              have HS : Hid (L2 ++ (j.floats.take k).map (·.h) ++ [(j.floats.getD k zeroF).h] = L2 ++ (j.floats.take (k + 1)).map (·.h)) := Lib.hid (by rw [take_snoc zeroF hlt, List.map_append, List.append_assoc]; rfl)
              have hlen : (L2 ++ (j.floats.take k).map (·.h)).length ≤ 20200 := by simp only [List.length_append, List.length_map, List.length_take]; omega
              generalize L2 ++ (j.floats.take k).map (·.h) = L at *
              generalize (j.floats.getD k zeroF).h = x at *
              clear p0 p2 hfa HI
              unfold NumsOwn at hown
              have ho := World.ownsRow.alloc hown (.cells #[.int .i64 x] 22)
              have be := tstep bw (tbel1 wr (.cells #[.int .i64 x] 22)) hws
              have ee := els_new (w := wr) (e := 22) encZ_len x 0
              go_wp2_with (at_builtin; refine wpList_app4 (l := L) (m := [x]) (d := 0) (w0 := U) rfl _ _ rfl Try.underlying34 hi hz0 hz1 hz2 rfl (by decide) encZ_len encZ_one rfl ho rfl ee (by simp; omega) (by simp; omega) be (by simp; omega) ?_; intro v' w4 hown' hb4)
              have HN : Hid (FairI U w4 (L2 ++ (j.floats.take (k + 1)).map (·.h)) v') := Lib.hid ⟨hb4, by rw [← HS.out]; exact hown'⟩
              clear HS hown' hb4 ho be ee hown
              go_wp2
              go_roundw
              case rel => exact ⟨_, k + 1, rfl, by omega, by go_num, HN⟩
              case measure => simp [intOf]; omega
            · obtain rfl : k = j.floats.length := by omega
              rw [List.take_length] at HI
              have hl3 : (L2 ++ j.floats.map (·.h)).length ≤ 20200 := by simp only [List.length_append, List.length_map]; omega
              obtain ⟨L3, hL3⟩ : ∃ L3, L3 = L2 ++ j.floats.map (·.h) := ⟨_, rfl⟩
              rw [← hL3] at HI hl3
              have HE : Hid (fairJ j = L3.all fairZ) := Lib.hid (by rw [HLn.out, hL3, E2.out, E1.out])
              clear hL3 hown
              obtain ⟨_, hown⟩ := HI.out
              unfold NumsOwn at hown
              obtain ⟨a, cap, rfl, _, _, hO⟩ := own_of (d := 0) hown encZ_len
              have c := fair_any a cap L3 wr (by omega) hO.els
              generalize L3.all fairZ = r at *
              clear hown hO HI
              go_wp2_with fail
              refine c.mono ?_
              rintro e w1 ⟨rfl, b1⟩
              go_wp2
              go_ret
              exact ⟨by rw [HE.out]; rfl, tstep b0 (tstep bw b1 bw.size) b0.size⟩
end Go.Proofs.Ytllpimhjpfkgpaa
