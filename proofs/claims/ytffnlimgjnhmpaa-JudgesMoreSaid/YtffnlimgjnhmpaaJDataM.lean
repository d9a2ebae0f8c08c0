/-
  JDataM: what JudgesMore gets more, read from what came in.
-/
import Derived.Test.YtffnlimgjnhmpaaJDataK
import Derived.Deep.Strs
namespace Go.Proofs.Ytffnlimgjnhmpaa
open Go.RowKit Go.WideShapes Go.ChangeShapes Go.Joins Go.Deep

section
variable {H : Type} {enc : TypeId × Value → H}
theorem cells_int : Try.prog.cellsOf 3 = 1 := by kernel_rfl
theorem cells_mark : Try.prog.cellsOf 46 = 2 := by kernel_rfl
set_option maxRecDepth 100000 in
theorem trod_ints1 {w : World} {fuel : Nat} {v : Value} {y : DataW H × List MemPlace} (h : DataW.trod enc Try.prog w 0 (fun _ => true) true fuel 3 [v] = some y) : ∃ n, v = .int .i64 n := by
  obtain ⟨n, h1, _⟩ := DataW.trod_int Try.underlying3 h
  exact ⟨n, by simpa using h1⟩
set_option maxRecDepth 100000 in
theorem open_more {w : World} {v : Value} {base : Nat} {d : DataW H} {ps : List MemPlace} (hv : Value.okWide Try.prog w .any base 59 v)
    (h : DataW.Trod enc Try.prog w 0 (fun _ => true) true 59 v d ps) :
    ∃ p j a t : Int, v = .agg #[.int .i64 p, .int .i64 j, .int .i64 a, .int .i64 t] := by
  obtain ⟨cs, rfl, hsz⟩ := okWide_struct Try.underlying59 hv
  obtain ⟨c0, c1, c2, c3, rfl⟩ := array4 (hsz.trans (by kernel_rfl))
  obtain ⟨fuel, h⟩ := h
  obtain ⟨y0, y1, y2, n, hd, hp, h0, h1, h2⟩ := Deep.trod_struct3 Try.underlying59 h
  dsimp only at h0 h1 h2
  rw [cells_mark] at h0
  rw [cells_int] at h1
  rw [cells_int] at h2
  have h0' : DataW.trod enc Try.prog w 0 (fun _ => true) true n 46 [c0, c1] = some y0 := h0
  obtain ⟨a, rfl⟩ := trod_ints1 (v := c2) h1
  obtain ⟨t, rfl⟩ := trod_ints1 (v := c3) h2
  obtain ⟨z0, z1, m, _, _, k0, k1⟩ := trod_struct2 Try.underlying46 h0'
  dsimp only at k0 k1
  rw [cells_int] at k0 k1
  obtain ⟨p, rfl⟩ := trod_ints1 (v := c0) k0
  obtain ⟨j, rfl⟩ := trod_ints1 (v := c1) k1
  exact ⟨p, j, a, t, rfl⟩

end
end Go.Proofs.Ytffnlimgjnhmpaa
