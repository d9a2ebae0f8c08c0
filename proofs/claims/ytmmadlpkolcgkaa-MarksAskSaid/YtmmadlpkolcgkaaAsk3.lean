/-
  MarksAsk says true, of any book, fruits, fruit and value.
-/
import Derived.Test.YtmmadlpkolcgkaaAsk4
namespace Go.Proofs.Ytmmadlpkolcgkaa
open Go.RowKit

theorem cask_any (N : Nat) (v u : Value) (B : Bk) (R : Fr) (f y : Int) (w : World) (h : BookAt N w v B) (hf : FruitsAt N w u R) :
    Calls Try.prog 12 #[v, u, .agg #[.int .i64 f, .int .i64 y]] w fun e w' => e = .returned (.bool true) ∧ Below w.heap.size w w' := by
  cases hr : rdy B R with
  | false => exact ask_out N v u B R f y w h hf (.inl hr)
  | true =>
    cases hi : (decide (0 ≤ f) && decide (f < (R.n : Int))) with
    | false => exact ask_out N v u B R f y w h hf (.inr hi)
    | true =>
      simp only [Bool.and_eq_true, decide_eq_true_eq] at hi
      have e1 : ((f.toNat : Nat) : Int) = f := Int.toNat_of_nonneg hi.1
      have hf1 : f.toNat < R.n := by omega
      have : Calls Try.prog 12 #[v, u, .agg #[.int .i64 (f.toNat : Nat), .int .i64 y]] w fun e w' => e = .returned (.bool true) ∧ Below w.heap.size w w' := by
        by_cases h1 : (sorts B R).length < 2
        · exact ask_none N v u B R f.toNat y w h hf hr hf1 (.inl h1)
        · cases h2 : (nx B R f.toNat B.nv).2.2 with
          | false => exact ask_none N v u B R f.toNat y w h hf hr hf1 (.inr h2)
          | true => exact ask_some N v u B R f.toNat y w h hf hr hf1 h1 h2
      rwa [e1] at this

end Go.Proofs.Ytmmadlpkolcgkaa
