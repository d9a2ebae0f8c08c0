/-
  MarksLeave says true, of any book, fruits and leave: both cases together.
-/
import Derived.Test.YtmmadlpkolcgkaaLeave2
namespace Go.Proofs.Ytmmadlpkolcgkaa
open Go.RowKit

theorem cleave_any (N : Nat) (v u : Value) (B : Bk) (R : Fr) (xw xs xm xv lo : Int) (w : World) (h : BookAt N w v B) (hf : FruitsAt N w u R) :
    Calls Try.prog 9 #[v, u, .agg #[.int .i64 xw, .int .i64 xs, .int .i64 xm, .int .i64 xv, .int .i64 lo]] w fun e w' => e = .returned (.bool true) ∧ Below w.heap.size w w' := by
  cases hr : rdy B R with
  | false => exact leave_out N v u B R xw xs xm xv lo w h hf (.inl hr)
  | true =>
    by_cases hx : 0 ≤ xw ∧ xw ≤ 9
    · exact leave_in N v u B R xw xs xm xv lo w h hf hr hx.1 hx.2
    · exact leave_out N v u B R xw xs xm xv lo w h hf (.inr hx)

end Go.Proofs.Ytmmadlpkolcgkaa
