/- Plain mathematics for stage 7: totals, over Lean's integers. -/
import Derived.Test.YtdddhflppngloaaRe
namespace Go.Proofs.Ytdddhflppngloaa
open Go.RowKit
set_option maxRecDepth 20000

/-- A total: natural height, four stretches, shrink. -/
structure T6 where
  n : Int
  s0 : Int
  s1 : Int
  s2 : Int
  s3 : Int
  h : Int
/-- A total by value. -/
def tot (t : T6) : Value := .agg #[.int .i64 t.n, .int .i64 t.s0, .int .i64 t.s1, .int .i64 t.s2, .int .i64 t.s3, .int .i64 t.h]
def zeroT : T6 := ⟨0, 0, 0, 0, 0, 0⟩
def inT (t : T6) : Prop := inR t.n ∧ inR t.s0 ∧ inR t.s1 ∧ inR t.s2 ∧ inR t.s3 ∧ inR t.h
def allT (f : Int → Int → Int × Bool) (a b : T6) : Bool := (f a.n b.n).2 && (f a.s0 b.s0).2 && (f a.s1 b.s1).2 && (f a.s2 b.s2).2 && (f a.s3 b.s3).2 && (f a.h b.h).2
def eachT (f : Int → Int → Int × Bool) (a b : T6) : T6 := ⟨(f a.n b.n).1, (f a.s0 b.s0).1, (f a.s1 b.s1).1, (f a.s2 b.s2).1, (f a.s3 b.s3).1, (f a.h b.h).1⟩
/-- Field by field, or nothing. -/
def pairT (f : Int → Int → Int × Bool) (a b : T6) : T6 × Bool := bif allT f a b then (eachT f a b, true) else (zeroT, false)
def addT : T6 → T6 → T6 × Bool := pairT addR
def subT : T6 → T6 → T6 × Bool := pairT subR
/-- What a call hands back: a total and a bool. -/
def twoT (x : T6 × Bool) : Value := .tuple #[tot x.1, .bool x.2]
/-- The document's result, by value. -/
def res (x : T6 × Bool) : Value := .agg #[.int .i64 x.1.n, .int .i64 x.1.s0, .int .i64 x.1.s1, .int .i64 x.1.s2, .int .i64 x.1.s3, .int .i64 x.1.h, .bool x.2]
def boxT (h : Int) : T6 := ⟨h, 0, 0, 0, 0, 0⟩
def glueT (h s o r : Int) : T6 := ⟨h, if o = 0 then s else 0, if o = 1 then s else 0, if o = 2 then s else 0, if o = 3 then s else 0, r⟩
def ordT (t : T6) : Int := if t.s3 ≠ 0 then 3 else if t.s2 ≠ 0 then 2 else if t.s1 ≠ 0 then 1 else 0
end Go.Proofs.Ytdddhflppngloaa
