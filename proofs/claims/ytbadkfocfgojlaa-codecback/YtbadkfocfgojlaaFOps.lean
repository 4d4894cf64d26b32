/- What a law's walk is told of a slice of what is written or read that came in. -/
import Derived.Test.YtbadkfocfgojlaaFFields
import Derived.Test.YtbadkfocfgojlaaXOp
namespace Go.Proofs.Ytbadkfocfgojlaa
open Go.RowKit
set_option linter.unusedVariables false

theorem IsRow.rowK {k : IntKind} {w : World} {a : Option Addr} {len cap : Nat} {zs : List Int} (h : IsRow k w a len cap zs) : ∃ l : List Int, l.length = len ∧ RowK k w a cap l ∧ ∀ x ∈ l, (Lit.int k x).wf = true := by
  rcases h with ⟨rfl, rfl, _⟩ | ⟨x, rfl, hl, hm, hz, hc, hwf⟩
  · exact ⟨[], rfl, RowK.none _ _ _, fun x hx => by simp at hx⟩
  · refine ⟨zs.take len, by simp; omega, ⟨by simp; omega, fun j hj => ?_⟩, fun x hx => hwf x (List.mem_of_mem_take hx)⟩
    have hj' : j < len := by simp at hj; omega
    obtain ⟨b, off, rfl, hc'⟩ := ints_at hc (by omega)
    refine ⟨b, off, rfl, World.block_lt_of_cell? _ _ (hc' 0 (by omega)), ?_⟩
    rw [hc' j (by omega)]
    simp [hj']
/-- What is known of each. -/
def OpD.wf (o : OpD) : Prop := in64 o.k ∧ in64 o.n ∧ (∀ x ∈ o.l, in64 x) ∧ o.s.size ≤ 9223372036854775807 ∧ o.l.length ≤ 9223372036854775807
def IsOps (w : World) (a : Option Addr) (len cap : Nat) (l : List OpD) : Prop := l.length = len ∧ Ops w a cap l ∧ (∀ o ∈ l, o.wf) ∧ len ≤ 9223372036854775807
theorem ops_of {H : Type} {enc : TypeId × Value → H} {P : Program} {w : World} {held : Bool} {t e e4 : TypeId} {f0 f1 f2 f3 f4 : Field} {fuel len cap : Nat} {a : Option Addr} {x : DataW H × List MemPlace}
    (ht : P.underlying t = some (.slice e)) (he : P.underlying e = some (.struct #[f0, f1, f2, f3, f4])) (hC : P.cellsOf e = 5)
    (o0 : f0.offset = 0 ∧ P.cellsOf f0.type = 1) (o1 : f1.offset = 1 ∧ P.cellsOf f1.type = 1) (o2 : f2.offset = 2 ∧ P.cellsOf f2.type = 1) (o3 : f3.offset = 3 ∧ P.cellsOf f3.type = 1) (o4 : f4.offset = 4 ∧ P.cellsOf f4.type = 1)
    (u0 : P.underlying f0.type = some (.int .i64)) (u1 : P.underlying f1.type = some .string) (u2 : P.underlying f2.type = some (.int .i64)) (u3 : P.underlying f3.type = some .bool) (u4 : P.underlying f4.type = some (.slice e4))
    (u5 : P.underlying e4 = some (.int .i64)) (c5 : P.cellsOf e4 = 1)
    (h : DataW.trod enc P w 0 (fun _ => true) held fuel t [.slice a len cap] = some x) : ∃ l, IsOps w a len cap l := by
  rcases fields_of ht he hC (fun j f hj => by
      match j, hj with
      | 0, hj => simp at hj; subst hj; exact o0
      | 1, hj => simp at hj; subst hj; exact o1
      | 2, hj => simp at hj; subst hj; exact o2
      | 3, hj => simp at hj; subst hj; exact o3
      | 4, hj => simp at hj; subst hj; exact o4
      | j + 5, hj => simp at hj) h with ⟨rfl, rfl, rfl⟩ | ⟨ad, rfl, hl, hm, hall⟩
  · exact ⟨[], rfl, ⟨Nat.le_refl _, fun j hj => absurd hj (by simp)⟩, fun o ho => by simp at ho, by omega⟩
  · have hmx : len ≤ 9223372036854775807 := by unfold maxLen at hm; omega
    rcases Nat.eq_zero_or_pos len with h0 | h0
    · subst h0
      exact ⟨[], rfl, ⟨Nat.zero_le _, fun j hj => absurd hj (by simp)⟩, fun o ho => by simp at ho, by omega⟩
    · obtain ⟨v, y, n, hv, _⟩ := hall 0 h0 0 f0 rfl
      obtain ⟨b, off, rfl, hb⟩ := addr_plain (by simpa using hv)
      have each : ∀ i, ∃ o : OpD, i < len → OpAt w b (off + i * 5) o ∧ o.wf := by
        intro i
        by_cases hi : i < len
        · obtain ⟨v0, y0, n0, g0, t0⟩ := hall i hi 0 f0 rfl
          obtain ⟨v1, y1, n1, g1, t1⟩ := hall i hi 1 f1 rfl
          obtain ⟨v2, y2, n2, g2, t2⟩ := hall i hi 2 f2 rfl
          obtain ⟨v3, y3, n3, g3, t3⟩ := hall i hi 3 f3 rfl
          obtain ⟨v4, y4, n4, g4, t4⟩ := hall i hi 4 f4 rfl
          rw [Go.WideShapes.add_plain] at g0 g1 g2 g3 g4
          obtain ⟨k, e0, _, w0⟩ := DataW.trod_int u0 t0
          obtain ⟨s, e1, _, w1⟩ := DataW.trod_string u1 t1
          obtain ⟨m, e2, _, w2⟩ := DataW.trod_int u2 t2
          obtain ⟨q, e3, _⟩ := DataW.trod_bool u3 t3
          obtain rfl : v0 = .int .i64 k := by simpa using e0
          obtain rfl : v1 = .string s := by simpa using e1
          obtain rfl : v2 = .int .i64 m := by simpa using e2
          obtain rfl : v3 = .bool q := by simpa using e3
          obtain ⟨a4, l4, c4, zs, rfl, hz⟩ : ∃ a4 l4 c4 zs, v4 = .slice a4 l4 c4 ∧ IsRow .i64 w a4 l4 c4 zs := by
            rcases Go.ChangeShapes.open_ints u4 u5 c5 t4 with ⟨hcs, _⟩ | ⟨x, l, c, zs, hcs, _, hl, hm, hz, _, hcell, hwz⟩
            · exact ⟨none, 0, 0, [], by simpa using hcs, .inl ⟨rfl, rfl, rfl, rfl⟩⟩
            · exact ⟨some x, l, c, zs, by simpa using hcs, .inr ⟨_, rfl, hl, hm, by simpa using hz, hcell, hwz⟩⟩
          obtain ⟨lz, hlz, hrow, hwz⟩ := hz.rowK
          have hl4 := hz.le
          refine ⟨⟨k, s, m, q, lz⟩, fun _ => ⟨⟨?_, ?_, ?_, ?_, a4, c4, ?_, hrow⟩, ?_⟩⟩
          · simpa using g0
          · simpa [Nat.add_assoc] using g1
          · simpa [Nat.add_assoc] using g2
          · simpa [Nat.add_assoc] using g3
          · rw [hlz]; simpa [Nat.add_assoc] using g4
          · exact ⟨i64_in w0, i64_in w2, fun x hx => i64_in (hwz x hx), by unfold maxLen at w1; exact w1, by rw [hlz]; exact hl4⟩
        · exact ⟨⟨0, ByteArray.empty, 0, false, []⟩, fun h => absurd h hi⟩
      obtain ⟨f, hf⟩ := Classical.axiomOfChoice each
      refine ⟨(List.range len).map f, by simp, ⟨by simpa using hl, fun j hj => ?_⟩, fun o ho => ?_, hmx⟩
      · have hj' : j < len := by simpa using hj
        exact ⟨b, off, f j, rfl, hb, by simp [hj'], (hf j hj').1⟩
      · obtain ⟨j, hj, rfl⟩ := List.mem_map.1 ho
        exact (hf j (List.mem_range.1 hj)).2
end Go.Proofs.Ytbadkfocfgojlaa
