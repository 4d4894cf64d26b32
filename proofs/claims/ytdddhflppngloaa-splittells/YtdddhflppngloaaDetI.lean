/- The law of Det inside a round of a range over a function. Nothing of a program is in it. -/
import Derived.Test.YtdddhflppngloaaDet
import Derived.OrdersIn
import Derived.TacticsIn
namespace Go.Proofs.Ytdddhflppngloaa
open Go.RowKit
set_option maxRecDepth 20000

/-- No operation defers. -/
def noDefer (l : List Oper) : Bool := l.all fun o => match o.op with
  | .defer _ => false
  | _ => true
theorem noDefer_spec {l : List Oper} (h : noDefer l = true) {o : Oper} (ho : o ∈ l) : ∀ c, o.op ≠ .defer c := by
  intro c e
  unfold noDefer at h
  rw [List.all_eq_true] at h
  have := h o ho
  rw [e] at this
  cases this
section
variable {P : Program} {l0 m : Nat} {md : Region.Mode} {S : World → Prop} {Q : Exit → Act → World → Prop} {l : List Oper}

theorem Det.stepIn {o : Oper} {v : Value} {a : Act} {i : Nat} {w : World} {K : Act → World → Prop} (hD : noDefer l = true) (hi : l.toArray[i]? = some o) (h : Det P l.toArray S o v a) (hS : S w) (hK : ∀ x, S x → K (a.put o.dst v) x) :
    wpOpIn (Fence.wide.inRound l0) m P l.toArray Q i K a w := by
  have hsem := Oper.semAt_some l0 a.eval o (noDefer_spec hD (by simpa using Array.mem_of_getElem? hi))
  unfold wpOpIn
  simp only [hi]
  rcases h with ⟨hw, hg⟩ | ⟨hw, rfl⟩
  · rw [if_pos hw]
    refine ⟨fun _ _ => trivial, ?_⟩
    have g := hg w hS
    rw [show (Fence.wide.inRound l0).round = some l0 from rfl, hsem]
    rcases g with ⟨x, hr, hx⟩ | ⟨x, hr, rfl, hx⟩ | ⟨f, args, x, hr, hx⟩ <;> rw [hr]
    · exact hK x hx
    · exact hK x hx
    · refine ⟨fun hd => by simp [Fence.wide] at hd, ?_⟩
      have c : CallsIn Fence.wide (m - 1) P f args x fun e y => e = .returned v ∧ S y := callsIn_wide.2 hx
      exact CallsIn.mono (F := Fence.wide.inRound l0) c fun e y hy => by obtain ⟨rfl, hy⟩ := hy; exact hK y hy
  · rw [if_neg (by rw [hw]; exact Bool.false_ne_true)]
    exact ⟨fun _ _ => trivial, hK w hS⟩
theorem Every.anyIn {n g : Nat} {L : Array Bool → Act → Prop} (hD : noDefer l = true) (hL : ∀ listed a, L listed a → ∀ w, S w → wpAnyIn (Fence.wide.inRound l0) m P md l.toArray Q g listed a w) :
    ∀ (f : Nat) (listed : Array Bool) (a : Act) (w : World), S w → Every P md l.toArray S n L f listed a → wpAnyIn (Fence.wide.inRound l0) m P md l.toArray Q (f + g) listed a w
  | 0, listed, a, w, hS, h => by rw [Nat.zero_add]; exact hL _ _ h w hS
  | f + 1, listed, a, w, hS, h => by
    rw [Nat.add_right_comm]
    refine ⟨fun h0 => absurd h0 h.1, fun i hi => ?_⟩
    obtain ⟨_, o, v, ho, hd, hn⟩ := h.2 i hi
    exact hd.stepIn hD ho hS fun x hx => Every.anyIn hD hL f _ _ x hx hn
theorem wpAnyIn_of_seq {F : Fence} {ops : Array Oper} : ∀ (r : List Oper) (k : Nat) (listed : Array Bool) (a : Act) (w : World), (∀ j, r[j]? = ops[k + j]?) →
    Region.seqB md ops r.length k listed = true → wpListIn F m P ops Q r a w → wpAnyIn F m P md ops Q r.length listed a w
  | [], _, _, _, _, _, hB, h => ⟨by simpa [Region.seqB] using hB, h⟩
  | o :: r, k, listed, a, w, hl, hB, h => by
    have h0 : ops[k]? = some o := by simpa using (hl 0).symm
    simp only [List.length_cons, Region.seqB, Bool.and_eq_true, decide_eq_true_eq] at hB
    refine ⟨fun h1 => (by rw [hB.1] at h1; cases h1), fun i hi => ?_⟩
    rw [hB.1] at hi
    have hik : i = k := by simpa using hi
    subst hik
    have hw : wpOpIn F m P ops Q i (wpListIn F m P ops Q r) a w := by unfold wpOpIn; simp only [h0]; exact h
    exact wpOpIn_mono (fun a' w' h' => wpAnyIn_of_seq r (i + 1) _ a' w' (fun j => by have := hl (j + 1); simpa [Nat.add_assoc, Nat.add_comm 1 j] using this) hB.2 h') hw
/-- A statement that draws its order, inside a round: its first n operations in the order of the text, the rest as they must come. -/
theorem wpIn_region_text {id : Nat} {a : Act} {w : World} (S : World → Prop) (n : Nat) (hm : P.follows .mixedOrders = true) (hB : Region.lexTailB .any l.toArray n = true) (hD : noDefer l = true) (h0 : S w.drew)
    (h : Text P l.toArray S (fun a' => ∀ x, S x → wpListIn (Fence.wide.inRound l0) m P l.toArray Q (l.drop n) a' x) (l.take n) a) : (Code.region id l.toArray true).wpIn (Fence.wide.inRound l0) m P Q a w := by
  simp only [Region.lexTailB, Bool.and_eq_true, decide_eq_true_eq] at hB
  obtain ⟨⟨⟨⟨hsel, hn⟩, hs⟩, hc⟩, hlex⟩ := hB
  have hn' : n < l.length := by simpa using hn
  have htl : (l.take n).length = n := by simp; omega
  have inv0 : HeadInv .any l.toArray n (Array.replicate l.toArray.size false) :=
    ⟨by simp, fun j oj _ hj => (by rw [getD_replicate_false] at hj; cases hj), fun t _ ht => getD_in (by simpa using ht) (getD_replicate_false _ _)⟩
  have H := Text.every (md := .any) (g := l.toArray.size - n) hsel hs hc hn (l.take n) 0 _ a (fun j hj => by rw [htl] at hj; simp [hj]) (by simpa using htl) inv0 (by rw [htl]; exact hlex) h
  refine wpIn_region_any hm ?_
  have hg : (l.drop n).length = l.toArray.size - n := by simp
  have R := Every.anyIn (l0 := l0) (m := m) (Q := Q) (g := l.toArray.size - n) hD (fun listed a' hL x hx => by
    have := wpAnyIn_of_seq (F := Fence.wide.inRound l0) (m := m) (md := .any) (Q := Q) (l.drop n) n listed a' x (fun j => by simp [List.getElem?_drop]) (by rw [hg]; exact hL.1) (hL.2 x hx)
    rwa [hg] at this) _ _ _ w.drew h0 H
  rw [htl, show n + (l.toArray.size - n) = l.toArray.size by omega] at R
  exact R
end
end Go.Proofs.Ytdddhflppngloaa
