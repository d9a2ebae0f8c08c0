/-
  MarksNothing says true, of any book and two sorts.
-/
import Derived.Test.YtmmadlpkolcgkaaNothing4
namespace Go.Proofs.Ytmmadlpkolcgkaa
open Go.RowKit

theorem cnothing_any (N : Nat) (v : Value) (B : Bk) (s pf pm t : Int) (w : World) (h : BookAt N w v B) :
    Calls Try.prog 13 #[v, .agg #[.int .i64 s, .int .i64 pf, .int .i64 pm, .int .i64 t]] w fun e w' => e = .returned (.bool true) ∧ Below w.heap.size w w' := by
  cases hr : rdy B R0 with
  | false => exact nothing_out N v B s pf pm t w h (.inl hr)
  | true =>
    cases hs : (decide (0 ≤ s) && decide (s < (B.ns : Int))) with
    | false => exact nothing_out N v B s pf pm t w h (.inr (.inl hs))
    | true =>
      cases ht : (decide (0 ≤ t) && decide (t < (B.ns : Int))) with
      | false => exact nothing_out N v B s pf pm t w h (.inr (.inr ht))
      | true =>
        simp only [Bool.and_eq_true, decide_eq_true_eq] at hs ht
        have e1 : ((s.toNat : Nat) : Int) = s := Int.toNat_of_nonneg hs.1
        have e2 : ((t.toNat : Nat) : Int) = t := Int.toNat_of_nonneg ht.1
        have := nothing_in N v B s.toNat t.toNat pf pm w h hr (by omega) (by omega)
        rwa [e1, e2] at this

end Go.Proofs.Ytmmadlpkolcgkaa
