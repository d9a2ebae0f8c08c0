/-
  LLess3: KeysLess for every book, sort and marks.
-/
import Derived.Test.YtghimbggbgcgkaaLLess2
namespace Go.Proofs.Ytghimbggbgcgkaa
open Go.RowKit

theorem cless_any (N : Nat) (v : Value) (B : KB) (s m : Int) (w : World) (h : BookAt N w v B) :
    Calls Try.prog 7 #[v, .int .i64 s, .int .i64 m] w fun e w' => e = .returned (.bool true) ∧ Below w.heap.size w w' := by
  by_cases hy : readyB B = true ∧ (0 ≤ s ∧ s < (B.ns : Int)) ∧ 0 ≤ m ∧ m < ((2 ^ B.nv : Nat) : Int)
  · obtain ⟨h1, ⟨h2, h3⟩, h4, h5⟩ := hy
    obtain ⟨k, rfl⟩ : ∃ k : Nat, s = k := ⟨s.toNat, by omega⟩
    obtain ⟨j, rfl⟩ : ∃ j : Nat, m = j := ⟨m.toNat, by omega⟩
    exact cless_in N v B k j w h h1 (by omega) (by omega)
  · exact cless_out N v B s m w h hy

end Go.Proofs.Ytghimbggbgcgkaa
