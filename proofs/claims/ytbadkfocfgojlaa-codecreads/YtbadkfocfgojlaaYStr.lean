/- append of a string onto bytes of one's own. -/
import Derived.Test.YtbadkfocfgojlaaXOp
namespace Go.Proofs.Ytbadkfocfgojlaa
open Go.RowKit
set_option linter.unusedVariables false
set_option linter.unusedSimpArgs false

theorem und9 : Try.prog.underlying 9 = some .string := by kernel_rfl
theorem str_cells (s : ByteArray) : (s.extract 0 s.size).data.map (fun b => Value.int .u8 (b.toNat : Int)) = ((bytesOf s).map (Value.int .u8)).toArray := by
  have h : s.extract 0 s.size = s := by simp
  rw [h]
  apply Array.ext'
  simp [bytesOf]
theorem run_first_str (w : World) (s : ByteArray) (k : Nat) : (Builtin.firstCells k s.size (.string s)).run Try.prog w = .ok ((bytesOf s).map (Value.int .u8)).toArray w := by
  show Sem.run Try.prog (pure ((s.extract 0 s.size).data.map fun b => Value.int .u8 (b.toNat : Int))) w = _
  rw [str_cells]
  rfl
theorem run_app_str (w : World) (ty : TypeId) (B : Nat) (v : Value) (l : List Int) (hown : Own w B v l) (s : ByteArray) (hs : l.length + s.size ≤ 100000000) (hB : B ≤ w.heap.size) :
    ∃ v' w', (Builtin.append_ #[26, 9] ty #[v, .string s]).run Try.prog w = .ok v' w' ∧ Own w' B v' (l ++ bytesOf s) ∧ w.grownBy w' v.ownBlock := by
  obtain ⟨i, hi, hz, h1, h2⟩ := info_parts info5
  obtain ⟨news, hnews⟩ : ∃ news, news = (bytesOf s).map (Value.int .u8) := ⟨_, rfl⟩
  have hnl : news.length = s.size := by rw [hnews, List.length_map, bytesOf_len]
  have hone : ∀ u ∈ news, u.oneCell' = true := fun u hu => by
    rw [hnews] at hu
    obtain ⟨x, _, rfl⟩ := List.mem_map.1 hu
    rfl
  have hfc := fun x => run_first_str x s 1
  rw [← hnews] at hfc
  have hmap : (l ++ bytesOf s).map (Value.int .u8) = l.map (Value.int .u8) ++ news := by rw [List.map_append, hnews]
  have hlen : (l ++ bytesOf s).length = l.length + s.size := by rw [List.length_append, bytesOf_len]
  have hll : (l.map (Value.int .u8)).length = l.length := List.length_map _
  have grown : ∀ (old : Nat) (row : Option Nat),
      Own (w.drew.alloc (.cells ((l.map (Value.int .u8)).toArray ++ news.toArray ++ Builtin.zeroCells (Value.int .u8 0).cells (grownCap w (l.length + s.size) old 5 - (l.length + s.size))) 5)) B
        (.slice (some ⟨w.heap.size, 0, none⟩) (l.length + s.size) (grownCap w (l.length + s.size) old 5)) (l ++ bytesOf s) ∧
      w.grownBy (w.drew.alloc (.cells ((l.map (Value.int .u8)).toArray ++ news.toArray ++ Builtin.zeroCells (Value.int .u8 0).cells (grownCap w (l.length + s.size) old 5 - (l.length + s.size))) 5)) row := by
    intro old row
    have hge := grownCap_ge w (l.length + s.size) old 5
    have hcm : grownCap w (l.length + s.size) old 5 ≤ maxLen := grownCap_le_maxLen w (l.length + s.size) old 5 (by simp only [maxLen]; omega)
    refine ⟨⟨by simp, .inr ⟨w.heap.size, _, _, by rw [hlen], hB, heap_alloc_new w.drew _, by rw [hlen]; exact hge, hcm, ?_, ?_⟩⟩, ⟨rfl, rfl, rfl, by simp, fun k hk _ => heap_alloc_old w.drew _ hk⟩⟩
    · simp only [Array.size_append, List.size_toArray, size_zeroCells, hll, hnl]
      have : (Value.int .u8 0).cells.size = 1 := rfl
      rw [this]
      omega
    · simp only [Array.toList_append, List.append_assoc]
      rw [← List.append_assoc, hmap]
      exact List.take_left' (by rw [List.length_append, hll, hnl, hlen]; omega)
  rcases hown.2 with ⟨rfl, h0⟩ | ⟨g, cap, cur, rfl, hbg, hg, hnc, hcm, hcs, htake⟩
  · obtain rfl : l = [] := List.eq_nil_of_length_eq_zero h0
    by_cases hm : s.size = 0
    · have hb : bytesOf s = [] := List.eq_nil_of_length_eq_zero (by rw [bytesOf_len, hm])
      refine ⟨.slice none 0 0, w, ?_, by rw [hb]; exact World.ownsRow_nil _ _ _ _, ⟨rfl, rfl, rfl, Nat.le_refl _, fun _ _ _ => rfl⟩⟩
      simp [Builtin.append_, run_underlying Try.underlying26, run_underlying und9, sizeOf, typeInfo, hi, Builtin.lenOf, hm, Builtin.firstCells]
    · have hr := run_append_nil_string (P := Try.prog) w 26 9 ty 5 i _ Try.underlying26 und9 hi hz s (by omega) (by omega) (by rw [h2]; omega)
      have hgr := grown 0 (Value.ownBlock (.slice none 0 0))
      simp only [List.length_nil, List.map_nil, Nat.zero_add, List.nil_append, Array.empty_append] at hgr ⊢
      have e : s.data.map (fun b => Value.int .u8 (b.toNat : Int)) = news.toArray := by
        rw [hnews]; apply Array.ext'; simp [bytesOf]
      rw [e] at hr
      exact ⟨_, _, hr, hgr.1, hgr.2⟩
  · by_cases hroom : l.length + s.size ≤ cap
    · have hfit : l.length + news.length ≤ cur.size := by rw [hnl, hcs]; omega
      have hst := run_storeCells_at Try.prog g l.length 5 news 0 cur w hg (by simpa using hfit) hone
      simp only [Nat.add_zero] at hst
      have hr : (Builtin.append_ #[26, 9] ty #[.slice (some ⟨g, 0, none⟩) l.length cap, .string s]).run Try.prog w = .ok (.slice (some ⟨g, 0, none⟩) (l.length + s.size) cap) (w.setRow g (cur.toList.take l.length ++ news ++ cur.toList.drop (l.length + news.length)).toArray) := by
        simp [Builtin.append_, run_underlying Try.underlying26, run_underlying und9, sizeOf, typeInfo, hi, h1, Builtin.lenOf, hroom, hfc, Addr.add_lit, hst]
      refine ⟨_, _, hr, ⟨by simp, .inr ⟨g, cap, _, by rw [hlen], hbg, setRow_heap w g cur _ 5 _ hg, by rw [hlen]; exact hroom, hcm, ?_, ?_⟩⟩, ⟨rfl, rfl, rfl, by simp, fun k _ hk => setRow_other w g k _ (fun e => hk (by simp [Value.ownBlock, e]))⟩⟩
      · simp only [List.size_toArray, List.length_append, List.length_take, List.length_drop, Array.length_toList]
        omega
      · have ht : cur.toList.take l.length = l.map (Value.int .u8) := by simpa using htake
        rw [ht, hmap]
        exact List.take_left' (by rw [List.length_append, hll, hnl, hlen]; omega)
    · have holds : ∀ j u, (l.map (Value.int .u8))[j]? = some u → w.cell? ((⟨g, 0, none⟩ : Addr).add j) = some u := World.ownsRow.cells hown (g := g) rfl
      have hfo := run_firstCells_some (P := Try.prog) w.drew 1 l.length ⟨g, 0, none⟩ l.length cap (l.map (Value.int .u8)) (by simp) (by simpa using holds)
      have hfit := growslice_fits (need := l.length + s.size) (old := cap) (bytes := i.bytes) (by omega) (by rw [h2]; omega)
      have h63' : ¬ (9223372036854775807 < ((l.length : Int) + (s.size : Int))) := by omega
      have h48' : ¬ (281474976710656 < Builtin.nextslicecap (l.length + s.size) cap * i.bytes) := by omega
      have hr : (Builtin.append_ #[26, 9] ty #[.slice (some ⟨g, 0, none⟩) l.length cap, .string s]).run Try.prog w = .ok (.slice (some ⟨w.heap.size, 0, none⟩) (l.length + s.size) (grownCap w (l.length + s.size) cap 5))
          (w.drew.alloc (.cells ((l.map (Value.int .u8)).toArray ++ news.toArray ++ Builtin.zeroCells (Value.int .u8 0).cells (grownCap w (l.length + s.size) cap 5 - (l.length + s.size))) 5)) := by
        simp [Builtin.append_, run_underlying Try.underlying26, run_underlying und9, sizeOf, typeInfo, zeroValue, hi, hz, h1, Builtin.lenOf, hroom, h63', h48', Question.forced, hfc, hfo, newRow, grownCap]
        congr 2
        apply Array.ext'
        simp [List.append_assoc]
      have hgr := grown cap (Value.ownBlock (.slice (some ⟨g, 0, none⟩) l.length cap))
      exact ⟨_, _, hr, hgr.1, hgr.2⟩
theorem wpList_app_str {w : World} {ops : Array Oper} {rest : List Oper} {o : Oper} {a : Act} {Q : Exit → Act → World → Prop} (hgd : o.guard = none) (x y : Operand)
    (ho : o.op = .call { callee := .builtin .append, args := #[x, y], argTypes := #[26, 9] }) {B : Nat} {v : Value} {l : List Int} (hx : a.eval x = v) (hown : Own w B v l)
    {s : ByteArray} (hy : a.eval y = .string s) (hsz : l.length + s.size ≤ 100000000) (hB : B ≤ w.heap.size)
    (h : ∀ v' w', Own w' B v' (l ++ bytesOf s) → w.grownBy w' v.ownBlock → wpList Try.prog ops Q rest (a.put o.dst v') w') : wpList Try.prog ops Q (o :: rest) a w := by
  obtain ⟨v', w', hr, h2, h3⟩ := run_app_str w o.type B v l hown s hsz hB
  refine wpList_plain hgd fun _ hK => ?_
  unfold Oper.wp execOp
  simp only [ho, resolve, invoke, builtin, Sem.run_bind, Sem.run_pure, Result.andThen_ok, List.map_toArray, List.map_cons, List.map_nil, hx, hy, hr]
  exact hK _ _ (h v' w' h2 h3)
end Go.Proofs.Ytbadkfocfgojlaa
