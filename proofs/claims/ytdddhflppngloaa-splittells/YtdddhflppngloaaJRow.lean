/- Slices of structs, whatever their cells: where they lie, and those that a call made. Nothing of a program is in it. -/
import Derived.Test.YtdddhflppngloaaBlk
import Derived.Test.YtdddhflppngloaaTRow
import Derived.OwnWalk
import Derived.Maps.AppendAt
import Derived.Lib.Hide
namespace Go.Proofs.Ytdddhflppngloaa
open Go.RowKit
set_option maxRecDepth 20000
set_option linter.unusedVariables false

/-- n elements F of sz cells each lie where a slice says. -/
def Els {α : Type} (sz : Nat) (enc : α → List Value) (w : World) (a : Option Addr) (n : Nat) (F : Nat → α) : Prop :=
  ∀ k j, k < n → j < sz → ∃ b off, a = some ⟨b, off, none⟩ ∧ b < w.heap.size ∧ w.cell? ⟨b, off + (k * sz + j), none⟩ = (enc (F k))[j]?
/-- The same in a block of the call's own, at B and above. -/
def OwnE {α : Type} (e : TypeId) (sz : Nat) (enc : α → List Value) (B : Nat) (w : World) (a : Option Addr) (n : Nat) (F : Nat → α) : Prop :=
  n = 0 ∨ ∃ g cur, a = some ⟨g, 0, none⟩ ∧ B ≤ g ∧ Blk w g cur e ∧ ∀ k j, k < n → j < sz → cur[k * sz + j]? = (enc (F k))[j]?
section
variable {α : Type} {sz : Nat} {enc : α → List Value} {w w' : World} {a : Option Addr} {n : Nat} {F G : Nat → α} {e : TypeId} {B : Nat}
theorem Els.carry (h : Els sz enc w a n F) (hb : Below w.heap.size w w') : Els sz enc w' a n F := fun k j hk hj => by
  obtain ⟨b, off, rfl, hB, hc⟩ := h k j hk hj
  exact ⟨b, off, rfl, Nat.lt_of_lt_of_le hB hb.size, (hb.cell (p := ⟨b, off + (k * sz + j), none⟩) hB).trans hc⟩
theorem Els.congr (h : Els sz enc w a n F) (hf : ∀ k, k < n → F k = G k) : Els sz enc w a n G := fun k j hk hj => by
  rw [← hf k hk]; exact h k j hk hj
theorem OwnE.congr (h : OwnE e sz enc B w a n F) (hf : ∀ k, k < n → F k = G k) : OwnE e sz enc B w a n G := by
  rcases h with h | ⟨g, cur, h1, h2, h3, h4⟩
  · exact .inl h
  · exact .inr ⟨g, cur, h1, h2, h3, fun k j hk hj => by rw [← hf k hk]; exact h4 k j hk hj⟩
theorem OwnE.els (h : OwnE e sz enc B w a n F) : Els sz enc w a n F := fun k j hk hj => by
  rcases h with rfl | ⟨g, cur, h1, h2, h3, h4⟩
  · omega
  · refine ⟨g, 0, h1, h3.lt, ?_⟩
    rw [h3.cell, Nat.zero_add]
    exact h4 k j hk hj
theorem OwnE.mono {B' : Nat} (h : OwnE e sz enc B w a n F) (hB : B' ≤ B) : OwnE e sz enc B' w a n F := by
  rcases h with h | ⟨g, cur, h1, h2, h3, h4⟩
  · exact .inl h
  · exact .inr ⟨g, cur, h1, by omega, h3, h4⟩
theorem OwnE.old (h : OwnE e sz enc B w a n F) (hb : Old w w') : OwnE e sz enc B w' a n F := by
  rcases h with h | ⟨g, cur, h1, h2, h3, h4⟩
  · exact .inl h
  · exact .inr ⟨g, cur, h1, h2, h3.old hb, h4⟩
theorem flat_get (hlen : ∀ x, (enc x).length = sz) (d : α) : ∀ (l : List α) (k j : Nat), k < l.length → j < sz → ((l.map enc).flatten)[k * sz + j]? = (enc (l.getD k d))[j]?
  | [], k, j, hk, _ => by simp at hk
  | x :: l, 0, j, _, hj => by
    rw [List.map_cons, List.flatten_cons, Nat.zero_mul, Nat.zero_add, List.getElem?_append_left (by rw [hlen]; exact hj)]
    rfl
  | x :: l, k + 1, j, hk, hj => by
    rw [List.map_cons, List.flatten_cons, List.getElem?_append_right (by rw [hlen, Nat.add_mul]; omega), hlen, show (k + 1) * sz + j - sz = k * sz + j by rw [Nat.add_mul]; omega]
    rw [flat_get hlen d l k j (by simp at hk; omega) hj]
    rfl
theorem flat_len (hlen : ∀ x, (enc x).length = sz) : ∀ l : List α, ((l.map enc).flatten).length = l.length * sz
  | [] => by simp
  | x :: l => by
    rw [List.map_cons, List.flatten_cons, List.length_append, hlen, flat_len hlen l, List.length_cons, Nat.add_mul]
    omega
theorem flat_one (hone : ∀ x, ∀ u ∈ enc x, u.oneCell' = true) (l : List α) : ∀ u ∈ (l.map enc).flatten, u.oneCell' = true := fun u hu => by
  obtain ⟨m, hm, hum⟩ := List.mem_flatten.1 hu
  obtain ⟨x, _, rfl⟩ := List.mem_map.1 hm
  exact hone x u hum
theorem flat_snoc (l : List α) (x : α) : ((l ++ [x]).map enc).flatten = (l.map enc).flatten ++ enc x := by simp
/-- What a slice's cells are, one behind the other. -/
theorem Els.cells {l : List α} {d : α} (h : Els sz enc w a l.length fun k => l.getD k d) (hlen : ∀ x, (enc x).length = sz) (hsz : 0 < sz) {ad : Addr} (ha : a = some ad) : ∀ j u, ((l.map enc).flatten)[j]? = some u → w.cell? (ad.add j) = some u := fun j u hu => by
  have hj : j < l.length * sz := by
    rcases Nat.lt_or_ge j (l.length * sz) with h | h
    · exact h
    · rw [List.getElem?_eq_none (by rw [flat_len hlen]; exact h)] at hu; cases hu
  have hk : j / sz < l.length := Nat.div_lt_of_lt_mul (by rw [Nat.mul_comm]; exact hj)
  have hm := Nat.mod_lt j hsz
  obtain ⟨b, off, e, _, hc⟩ := h (j / sz) (j % sz) hk hm
  have ej : j / sz * sz + j % sz = j := by rw [Nat.mul_comm]; exact Nat.div_add_mod j sz
  rw [← flat_get hlen d l _ _ hk hm, ej, hu] at hc
  rw [ha] at e
  cases e
  rw [Go.WideShapes.add_plain]
  exact hc
/-- A slice that the call made. -/
theorem own_of {v : Value} {l : List α} {d : α} (h : w.ownsRow B e sz v l.length (l.map enc).flatten) (hlen : ∀ x, (enc x).length = sz) : ∃ a cap, v = .slice a l.length cap ∧ l.length ≤ cap ∧ cap ≤ maxLen ∧ OwnE e sz enc B w a l.length fun k => l.getD k d := by
  rcases h.2 with ⟨rfl, h0⟩ | ⟨g, cap, cur, rfl, hb, hg, h1, h2, h3, h4⟩
  · exact ⟨none, 0, by rw [h0], by omega, by decide, .inl h0⟩
  · refine ⟨some ⟨g, 0, none⟩, cap, rfl, h1, h2, .inr ⟨g, cur, rfl, hb, hg, fun k j hk hj => ?_⟩⟩
    have hlt : k * sz + j < l.length * sz := by
      have h5 := Nat.mul_le_mul_right sz (show k + 1 ≤ l.length by omega)
      rw [Nat.add_mul] at h5
      omega
    have e1 := flat_get hlen d l k j hk hj
    rw [← h4, List.getElem?_take_of_lt hlt, Array.getElem?_toList] at e1
    exact e1
/-- A slice that is grown by elements that lie where another says. -/
theorem run_els {P : Program} {t ty : TypeId} {i : TypeInfo} {z : Value} {bytes : Nat} {v : Value} {l m : List α} {d : α} {c : Nat} (ht : P.underlying t = some (.slice e)) (hi : P.info? e = some i) (hz : i.zero = some z) (hs : i.size = sz) (hy : i.bytes = bytes) (hzs : z.cells.size = sz) (hsz : 0 < sz)
    (hlen : ∀ x, (enc x).length = sz) (hone : ∀ x, ∀ u ∈ enc x, u.oneCell' = true) (hown : w.ownsRow B e sz v l.length (l.map enc).flatten) (hr : Els sz enc w a m.length fun k => m.getD k d) (hn : l.length + m.length ≤ maxLen) (hb : (l.length + m.length) * bytes ≤ 140737488355328) (hB : B ≤ w.heap.size) (h0 : a = none → m = [] ∧ c = 0) :
    ∃ v' w', (Builtin.append_ #[t, t] ty #[v, .slice a m.length c]).run P w = .ok v' w' ∧ w'.ownsRow B e sz v' (l ++ m).length ((l ++ m).map enc).flatten ∧ w.grownBy w' v.ownBlock := by
  cases a with
  | none =>
    obtain ⟨rfl, rfl⟩ := h0 rfl
    exact ⟨v, w, run_append_owned_none w B t ty e i sz ht hi v l.length _ hown, by simpa using hown, World.grownBy.refl _ _⟩
  | some ad =>
    obtain ⟨v', w', h1, h2, h3, _⟩ := run_append_own (P := P) w B t ty e i z sz bytes ht hi hz hs hy hzs hsz v l.length _ hown ad m.length c _ (flat_len hlen m) (hr.cells hlen hsz rfl) (flat_one hone m) hn hb hB
    exact ⟨v', w', h1, by rw [List.length_append, List.map_append, List.flatten_append]; exact h2, h3⟩
theorem grown_below {v : Value} {l : List Value} {n : Nat} {w0 : World} (hown : w.ownsRow B e sz v n l) (hb : Below B w0 w) (hg : w.grownBy w' v.ownBlock) (hB : B ≤ w.heap.size) : Below B w0 w' :=
  hb.grown hg hB fun k hk => by
    rcases hown.2 with ⟨rfl, _⟩ | ⟨g, cap, cur, rfl, hb, _, _⟩
    · simp [Value.ownBlock] at hk
    · obtain rfl : g = k := by simpa [Value.ownBlock] using hk
      exact hb
theorem wpList_els {P : Program} {ops : Array Oper} {rest : List Oper} {o : Oper} {act : Act} {Q : Exit → Act → World → Prop} {w0 : World} (hgd : o.guard = none) (s x : Operand) {t : TypeId} (ho : o.op = .call { callee := .builtin .append, args := #[s, x], argTypes := #[t, t] })
    {i : TypeInfo} {z : Value} {bytes : Nat} {v : Value} {l m : List α} {d : α} {c : Nat} (ht : P.underlying t = some (.slice e)) (hi : P.info? e = some i) (hz : i.zero = some z) (hs : i.size = sz) (hy : i.bytes = bytes) (hzs : z.cells.size = sz) (hsz : 0 < sz)
    (hlen : ∀ x, (enc x).length = sz) (hone : ∀ x, ∀ u ∈ enc x, u.oneCell' = true) (hev : act.eval s = v) (hown : w.ownsRow B e sz v l.length (l.map enc).flatten) (hex : act.eval x = .slice a m.length c) (hr : Els sz enc w a m.length fun k => m.getD k d) (hn : l.length + m.length ≤ maxLen) (hby : (l.length + m.length) * bytes ≤ 140737488355328) (hb : Below B w0 w) (hB : B ≤ w.heap.size) (h0 : a = none → m = [] ∧ c = 0)
    (h : ∀ v' w', w'.ownsRow B e sz v' (l ++ m).length ((l ++ m).map enc).flatten → Below B w0 w' → w.grownBy w' v.ownBlock → wpList P ops Q rest (act.put o.dst v') w') : wpList P ops Q (o :: rest) act w := by
  obtain ⟨v', w', hrun, h2, h3⟩ := run_els (ty := o.type) ht hi hz hs hy hzs hsz hlen hone hown hr hn hby hB h0
  refine wpList_plain hgd fun _ hK => ?_
  unfold Oper.wp execOp
  simp only [ho, resolve, invoke, builtin, Sem.run_bind, Sem.run_pure, Result.andThen_ok, List.map_toArray, List.map_cons, List.map_nil, hev, hex, hrun]
  exact hK _ _ (h v' w' h2 (grown_below hown hb h3 hB) h3)
end
end Go.Proofs.Ytdddhflppngloaa
