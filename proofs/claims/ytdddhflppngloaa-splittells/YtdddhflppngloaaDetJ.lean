/- The law of DetV inside a round of a range over a function. Nothing of a program is in it. -/
import Derived.Test.YtdddhflppngloaaDetI
import Derived.Test.YtdddhflppngloaaDetV
namespace Go.Proofs.Ytdddhflppngloaa
open Go.RowKit
set_option maxRecDepth 20000

section
variable {P : Program} {l0 m : Nat} {md : Region.Mode} {Q : Exit → Act → World → Prop} {l : List Oper}

theorem Keeps.stepIn {W : World} {o : Oper} {v : Value} {a : Act} {i : Nat} {w : World} {K : Act → World → Prop} (hD : noDefer l = true) (hi : l.toArray[i]? = some o) (h : Keeps P l.toArray W o v a) (hS : Old W w) (hK : ∀ x, Below w.heap.size w x → K (a.put o.dst v) x) :
    wpOpIn (Fence.wide.inRound l0) m P l.toArray Q i K a w := by
  have hsem := Oper.semAt_some l0 a.eval o (noDefer_spec hD (by simpa using Array.mem_of_getElem? hi))
  unfold wpOpIn
  simp only [hi]
  rcases h with ⟨hw, hg⟩ | ⟨hw, rfl⟩
  · rw [if_pos hw]
    refine ⟨fun _ _ => trivial, ?_⟩
    have g := hg w hS
    rw [show (Fence.wide.inRound l0).round = some l0 from rfl, hsem]
    rcases g with ⟨x, hr, hx⟩ | ⟨x, hr, rfl, hx⟩ | ⟨f, args, x, hr, hx⟩ <;> rw [hr]
    · exact hK x hx
    · exact hK x hx
    · refine ⟨fun hd => by simp [Fence.wide] at hd, ?_⟩
      have c : CallsIn Fence.wide (m - 1) P f args x fun e y => e = .returned v ∧ Below w.heap.size w y := callsIn_wide.2 hx
      exact CallsIn.mono (F := Fence.wide.inRound l0) c fun e y hy => by obtain ⟨rfl, hy⟩ := hy; exact hK y hy
  · rw [if_neg (by rw [hw]; exact Bool.false_ne_true)]
    exact ⟨fun _ _ => trivial, hK w (Below.refl _ _)⟩
theorem Loud.stepIn {W : World} {o : Oper} {V : Value → World → Prop} {a : Act} {i : Nat} {w : World} {K : Act → World → Prop} (hD : noDefer l = true) (hi : l.toArray[i]? = some o) (h : Loud P l.toArray W o V a) (hS : Old W w) (hK : ∀ v x, V v x → Below w.heap.size w x → K (a.put o.dst v) x) :
    wpOpIn (Fence.wide.inRound l0) m P l.toArray Q i K a w := by
  have hsem := Oper.semAt_some l0 a.eval o (noDefer_spec hD (by simpa using Array.mem_of_getElem? hi))
  unfold wpOpIn
  simp only [hi]
  rw [if_pos h.1]
  refine ⟨fun _ _ => trivial, ?_⟩
  have g := h.2 w hS
  rw [show (Fence.wide.inRound l0).round = some l0 from rfl, hsem]
  rcases g with ⟨v, x, hr, hx, hb⟩ | ⟨f, args, x, hr, hx⟩ <;> rw [hr]
  · exact hK v x hx hb
  · refine ⟨fun hd => by simp [Fence.wide] at hd, ?_⟩
    have c : CallsIn Fence.wide (m - 1) P f args x fun e y => ∃ v, e = .returned v ∧ V v y ∧ Below w.heap.size w y := callsIn_wide.2 hx
    exact CallsIn.mono (F := Fence.wide.inRound l0) c fun e y hy => by obtain ⟨v, rfl, hy, hb⟩ := hy; exact hK v y hy hb
theorem EveryV.anyIn {n g : Nat} {L : Array Bool → Act → World → Prop} (hD : noDefer l = true) (hL : ∀ listed a W, L listed a W → ∀ w, Old W w → wpAnyIn (Fence.wide.inRound l0) m P md l.toArray Q g listed a w) :
    ∀ (f : Nat) (listed : Array Bool) (a : Act) (W w : World), Old W w → EveryV P md l.toArray n L f listed a W → wpAnyIn (Fence.wide.inRound l0) m P md l.toArray Q (f + g) listed a w
  | 0, listed, a, W, w, hS, h => by rw [Nat.zero_add]; exact hL _ _ _ h w hS
  | f + 1, listed, a, W, w, hS, h => by
    rw [Nat.add_right_comm]
    refine ⟨fun h0 => absurd h0 h.1, fun i hi => ?_⟩
    obtain ⟨_, o, ho, hh⟩ := h.2 i hi
    rcases hh with ⟨v, hk, hn⟩ | ⟨V, hl, hn⟩
    · exact hk.stepIn hD ho hS fun x hx => EveryV.anyIn hD hL f _ _ W x (hS.trans hx) hn
    · exact hl.stepIn hD ho hS fun v x hv hx => EveryV.anyIn hD hL f _ _ x x (Below.refl _ _) (hn v x hv (hS.trans hx))
/-- A statement that draws its order, inside a round, by a plan; the rest as it must come. -/
theorem wpIn_region_plan {id : Nat} {a : Act} {W : World} (n : Nat) (p : List (Nat × Bool)) (hm : P.follows .mixedOrders = true) (hB : planOk l n p = true) (hD : noDefer l = true)
    (h : TextV P l.toArray (fun a' x => wpListIn (Fence.wide.inRound l0) m P l.toArray Q (l.drop n) a' x) (pick l p) a W) : (Code.region id l.toArray true).wpIn (Fence.wide.inRound l0) m P Q a W := by
  simp only [planOk, Bool.and_eq_true, decide_eq_true_eq] at hB
  obtain ⟨⟨⟨⟨⟨hsel, hn⟩, hs⟩, hc⟩, hp⟩, hlex⟩ := hB
  have inv0 : HeadInv .any l.toArray n (Array.replicate l.toArray.size false) :=
    ⟨by simp, fun j oj _ hj => (by rw [getD_replicate_false] at hj; cases hj), fun t _ ht => getD_in (by simpa using ht) (getD_replicate_false _ _)⟩
  have H := TextV.every (md := .any) (g := l.toArray.size - n) (l := l) rfl hsel hs hc hn p _ a W inv0 hlex h
  refine wpIn_region_any hm ?_
  have hg : (l.drop n).length = l.toArray.size - n := by simp
  have hn' : n < l.length := by simpa using hn
  have hA := EveryV.anyIn (l0 := l0) (m := m) (Q := Q) (g := l.toArray.size - n) hD (fun listed a' W' hL x hx => by
    have := wpAnyIn_of_seq (F := Fence.wide.inRound l0) (m := m) (md := .any) (Q := Q) (l.drop n) n listed a' x (fun j => by simp [List.getElem?_drop]) (by rw [hg]; exact hL.1) (hL.2 x hx)
    rwa [hg] at this) _ _ _ W W.drew (Below.refl _ W).drew H
  rw [hp, show n + (l.toArray.size - n) = l.toArray.size by simp; omega] at hA
  exact hA
end
end Go.Proofs.Ytdddhflppngloaa
