/- Lists of costs: the document's All and Least, package cost's Least. -/
import Derived.Test.YtofellaihiclkaaCOf
namespace Go.Proofs.Ytofellaihiclkaa
open Go.RowKit
set_option linter.unusedVariables false

/-- The costs of a list lie where a slice says. -/
def CRow (w : World) (a : Option Addr) (l : List (Int × Int)) : Prop := ∀ k, k < l.length → ∃ b off, a = some ⟨b, off, none⟩ ∧ b < w.heap.size ∧ w.cell? ⟨b, off + k * 2, none⟩ = some (.int .i64 (l.getD k (0, 0)).1) ∧ w.cell? ⟨b, off + k * 2 + 1, none⟩ = some (.int .i64 (l.getD k (0, 0)).2)
theorem CRow.carry {w w' : World} {a : Option Addr} {l : List (Int × Int)} (h : CRow w a l) (hb : Below w.heap.size w w') : CRow w' a l := fun k hk => by
  obtain ⟨b, off, rfl, hB, hc, hd⟩ := h k hk
  exact ⟨b, off, rfl, Nat.lt_of_lt_of_le hB hb.size, (hb.cell (p := ⟨b, off + k * 2, none⟩) hB).trans hc, (hb.cell (p := ⟨b, off + k * 2 + 1, none⟩) hB).trans hd⟩
theorem CRow.take {w : World} {a : Option Addr} {l : List (Int × Int)} (h : CRow w a l) (m : Nat) : CRow w a (l.take m) := fun k hk => by
  have hk' : k < m ∧ k < l.length := by simp at hk; omega
  have e : (l.take m).getD k (0, 0) = l.getD k (0, 0) := by simp [hk'.1]
  rw [e]
  exact h k hk'.2
theorem all_walk (a : Option Addr) (cap : Nat) (l : List (Int × Int)) (w : World) (hn : l.length ≤ 100) (hr : CRow w a l) :
    Calls Try.prog 18 #[.slice a l.length cap] w fun e w' => e = .returned (cst (sumC l)) ∧ Below w.heap.size w w' := by
  go_enter Try.func18, Try.ntmps18
  go_wp2_with fail
  go_loopw [4] (fun i wr => ∃ k : Nat, k ≤ l.length ∧ i = .int .i64 k ∧ Below w.heap.size w wr ∧ w.heap.size + 1 < wr.heap.size ∧ Cel2 wr w.heap.size (.int .i64 0) (.int .i64 0) ∧ CAt wr (w.heap.size + 1) (sumC (l.take k))) (fun i _ => l.length - (intOf i).toNat)
  case atStart =>
    refine ⟨0, Nat.zero_le _, rfl, bel2 _ _ _, by simp, ?_, ?_⟩
    · exact (cel2_new w (.int .i64 0) (.int .i64 0) 23).alloc (.cells #[.int .i64 0, .int .i64 0] 23)
    · have m1 := cel2_new (w.alloc (.cells #[.int .i64 0, .int .i64 0] 23)) (.int .i64 0) (.int .i64 0) 23
      rw [World.size_alloc] at m1
      exact m1
  case round =>
    obtain ⟨k, hk, rfl, hbl, hz, hc, hs⟩ := hrel
    obtain ⟨x, hx⟩ : ∃ x, x = sumC (l.take k) := ⟨_, rfl⟩
    rw [← hx] at hs
    have HX := Lib.hid hx
    clear hx
    obtain ⟨x0, x1⟩ := x
    have hs' := hs
    obtain ⟨s0, s1, s2, s3⟩ := hs'
    have hc' := hc
    obtain ⟨c0, c1, c2, c3⟩ := hc'
    simp only at s0 s1
    by_cases hlt : k < l.length
    · obtain ⟨⟨y0, y1⟩, hy⟩ : ∃ y, y = l.getD k (0, 0) := ⟨_, rfl⟩
      obtain ⟨b, off, rfl, hB, hck, hck1⟩ := hr.carry hbl k hlt
      rw [← hy] at hck hck1
      have HY := Lib.hid hy
      clear hy hr
      go_wp2_with fail
      go_still_tail 5, (by kernel_rfl)
      change wpList _ _ _ _ _ wr.drew
      go_wp2_with fail
      refine (rAdd_any (x0, x1) (y0, y1) _).mono ?_
      rintro e w1 ⟨rfl, u1⟩
      have u2 : Below wr.heap.size wr w1 := (Below.refl _ wr).drew.trans u1
      have hc1 := hc.carry u2 (by omega)
      have hs1 := Cel2.carry hs u2 (by omega)
      have hz1 : w.heap.size + 1 < w1.heap.size := Nat.lt_of_lt_of_le hz u2.size
      have hs1' := hs1
      obtain ⟨s0', s1', s2', s3'⟩ := hs1'
      clear u1 hs s0 s1 s2 s3 c0 c1 c2 c3 hc hck hck1
      have e1 : addC (x0, x1) (y0, y1) = sumC (l.take (k + 1)) := by rw [sumC_snoc l k hlt, ← HX.out, ← HY.out]
      rw [e1]
      obtain ⟨⟨q0, q1⟩, hq⟩ : ∃ q, q = sumC (l.take (k + 1)) := ⟨_, rfl⟩
      rw [← hq]
      have HQ := Lib.hid hq
      clear hq e1
      unfold cst
      go_wp2
      go_roundw
      case rel =>
        have bs : Below (w.heap.size + 1) w1 ((w1.setCell ⟨w.heap.size + 1, 0, none⟩ (.int .i64 q0)).setCell ⟨w.heap.size + 1, 1, none⟩ (.int .i64 q1)) := below_set _ _ _ _
        refine ⟨k + 1, by omega, by go_num, (hbl.trans (u2.mono (by omega))).trans (bs.mono (by omega)), by simp; omega, hc1.carry bs (by omega), ?_⟩
        rw [← HQ.out]
        exact cel_set hs1 _ _
      case measure => simp [intOf]; omega
    · clear hr
      go_wp2
      refine bodyPost_ret (v := .agg #[.int .i64 x0, .int .i64 x1]) (by simp [results, Try.results18, go_sem, *]) rfl ⟨?_, (hbl.setCell (p := ⟨w.heap.size, 0, none⟩) (Nat.le_refl _) _).setCell (p := ⟨w.heap.size, 1, none⟩) (Nat.le_refl _) _⟩
      have e := HX.out
      rw [List.take_of_length_le (by omega)] at e
      rw [← e]; rfl
end Go.Proofs.Ytofellaihiclkaa
