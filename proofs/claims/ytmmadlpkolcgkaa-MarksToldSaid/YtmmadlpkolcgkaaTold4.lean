/-
  MarksTold says true, of any book, fruits and sorts.
-/
import Derived.Test.YtmmadlpkolcgkaaTold3
namespace Go.Proofs.Ytmmadlpkolcgkaa
open Go.RowKit

theorem told_any (N : Nat) (v u : Value) (B : Bk) (R : Fr) (s pf pm t : Int) (w : World) (h : BookAt N w v B) (hf : FruitsAt N w u R) :
    Calls Try.prog 11 #[v, u, .agg #[.int .i64 s, .int .i64 pf, .int .i64 pm, .int .i64 t]] w fun e w' => e = .returned (.bool true) ∧ Below w.heap.size w w' := by
  cases hr : rdy B R with
  | false => exact told_out N v u B R s pf pm t w h hf (.inl hr)
  | true =>
    cases hs : (decide (0 ≤ s) && decide (s < (B.ns : Int))) with
    | false => exact told_out N v u B R s pf pm t w h hf (.inr (.inl hs))
    | true =>
      cases ht : (decide (0 ≤ t) && decide (t < (B.ns : Int))) with
      | false => exact told_out N v u B R s pf pm t w h hf (.inr (.inr ht))
      | true =>
        simp only [Bool.and_eq_true, decide_eq_true_eq] at hs ht
        have e1 : ((s.toNat : Nat) : Int) = s := Int.toNat_of_nonneg hs.1
        have e2 : ((t.toNat : Nat) : Int) = t := Int.toNat_of_nonneg ht.1
        have := told_in N v u B R s.toNat t.toNat pf pm w h hf hr (by omega) (by omega)
        rwa [e1, e2] at this

end Go.Proofs.Ytmmadlpkolcgkaa
