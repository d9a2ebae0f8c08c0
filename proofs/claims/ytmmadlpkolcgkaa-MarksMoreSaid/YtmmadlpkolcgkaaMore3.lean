/-
  MarksMore says true, of any book, fruits, one more fruit, place and value.
-/
import Derived.Test.YtmmadlpkolcgkaaMore2
namespace Go.Proofs.Ytmmadlpkolcgkaa
open Go.RowKit

theorem cmore_any (N : Nat) (v u : Value) (B : Bk) (R : Fr) (ax : Option Addr) (nL cx : Nat) (xs : Nat → Int) (pf pm y : Int) (w : World) (h : BookAt N w v B) (hf : FruitsAt N w u R)
    (hx : IntsAt N w (.slice ax nL cx) nL xs) (h8 : nL * 8 ≤ 140737488351232) :
    Calls Try.prog 8 #[v, u, .agg #[.slice ax nL cx, .int .i64 pf, .int .i64 pm, .int .i64 y]] w fun e w' => e = .returned (.bool true) ∧ Below w.heap.size w w' := by
  cases hr : rdy B R with
  | false => exact more_out N v u B R ax nL cx xs pf pm y w h hf hr
  | true => exact more_in N v u B R ax nL cx xs pf pm y w h hf hx h8 hr

end Go.Proofs.Ytmmadlpkolcgkaa
