/-
  MarksTrue says true, of any book, fruits and truth.
-/
import Derived.Test.YtmmadlpkolcgkaaTrue6
namespace Go.Proofs.Ytmmadlpkolcgkaa
open Go.RowKit

theorem ctrue_any (N : Nat) (v u : Value) (B : Bk) (R : Fr) (s : Int) (aq : Option Addr) (cq : Nat) (Q : Fr) (w : World) (h : BookAt N w v B) (hf : FruitsAt N w u R) (hq : FruitsAt N w (.slice aq Q.n cq) Q) :
    Calls Try.prog 7 #[v, u, .agg #[.int .i64 s, .slice aq Q.n cq]] w fun e w' => e = .returned (.bool true) ∧ Below w.heap.size w w' := by
  cases hr : rdy B R with
  | false => exact true_out N v u B R s aq cq Q w h hf hq (.inl hr)
  | true =>
    cases hl : longB Q.n Q.L with
    | true => exact true_out N v u B R s aq cq Q w h hf hq (.inr (.inl hl))
    | false =>
      cases ht : truthB B R s Q with
      | false => exact true_out N v u B R s aq cq Q w h hf hq (.inr (.inr ht))
      | true =>
        have ht' := ht
        simp only [truthB, Bool.and_eq_true, decide_eq_true_eq] at ht'
        obtain ⟨k, rfl, hT⟩ := isT_of ht'.1
        exact true_in N v u B R k aq cq Q w h hf hq hr hl ht hT ht'.2

end Go.Proofs.Ytmmadlpkolcgkaa
