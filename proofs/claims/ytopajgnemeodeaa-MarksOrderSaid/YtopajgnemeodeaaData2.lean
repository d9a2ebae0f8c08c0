/-
  More arguments of the chapter's laws: a place, and the other structs of numbers.
-/
import Derived.Test.YtopajgnemeodeaaData1
namespace Go.Proofs.Ytopajgnemeodeaa
open Go.RowKit Go.WideShapes Go.ChangeShapes Go.Joins

section
variable {H : Type} {enc : TypeId × Value → H}

set_option maxRecDepth 100000 in
theorem open_place {w : World} {v : Value} {base : Nat} {d : DataW H} {ps : List MemPlace} (hv : Value.okWide Try.prog w .any base 40 v)
    (h : DataW.Trod enc Try.prog w 0 (fun _ => true) true 40 v d ps) :
    ∃ pf pm : Int, v = .agg #[.int .i64 pf, .int .i64 pm] := by
  obtain ⟨v0, v1, y0, y1, n, rfl, rfl, rfl, h0, h1⟩ := open_agg2 Try.underlying40 (by kernel_rfl) (by kernel_rfl) hv h
  obtain ⟨f, rfl⟩ := trod_ints1 h0
  obtain ⟨g, rfl⟩ := trod_ints1 h1
  exact ⟨f, g, rfl⟩

end
end Go.Proofs.Ytopajgnemeodeaa
