/-
  More arguments of the chapter's laws: structs of five and of seven numbers.
-/
import Derived.Test.YtopajgnemeodeaaData2
namespace Go.Proofs.Ytopajgnemeodeaa
open Go.RowKit Go.WideShapes Go.ChangeShapes Go.Joins

section
variable {H : Type} {enc : TypeId × Value → H}

theorem array5 {α : Type} {cs : Array α} (h : cs.size = 5) : ∃ c0 c1 c2 c3 c4, cs = #[c0, c1, c2, c3, c4] := by
  obtain ⟨l⟩ := cs
  match l, h with
  | [c0, c1, c2, c3, c4], _ => exact ⟨c0, c1, c2, c3, c4, rfl⟩
theorem array7 {α : Type} {cs : Array α} (h : cs.size = 7) : ∃ c0 c1 c2 c3 c4 c5 c6, cs = #[c0, c1, c2, c3, c4, c5, c6] := by
  obtain ⟨l⟩ := cs
  match l, h with
  | [c0, c1, c2, c3, c4, c5, c6], _ => exact ⟨c0, c1, c2, c3, c4, c5, c6, rfl⟩

theorem trod_struct5 {P : Program} {w : World} {base : Nat} {spare : Nat → Bool} {held : Bool} {t : TypeId} {f0 f1 f2 f3 f4 : Field} {fuel : Nat} {cs : List Value} {x : DataW H × List MemPlace} (ht : P.underlying t = some (.struct #[f0, f1, f2, f3, f4])) (h : DataW.trod enc P w base spare held fuel t cs = some x) :
    ∃ y0 y1 y2 y3 y4 n, DataW.trod enc P w base spare held n f0.type ((cs.drop f0.offset).take (P.cellsOf f0.type)) = some y0 ∧
      DataW.trod enc P w base spare held n f1.type ((cs.drop f1.offset).take (P.cellsOf f1.type)) = some y1 ∧ DataW.trod enc P w base spare held n f2.type ((cs.drop f2.offset).take (P.cellsOf f2.type)) = some y2 ∧
      DataW.trod enc P w base spare held n f3.type ((cs.drop f3.offset).take (P.cellsOf f3.type)) = some y3 ∧ DataW.trod enc P w base spare held n f4.type ((cs.drop f4.offset).take (P.cellsOf f4.type)) = some y4 := by
  obtain ⟨xs, n, _, rfl, hl, hlen, hf⟩ := DataW.trod_struct ht h
  match xs, hlen with
  | [y0, y1, y2, y3, y4], _ => exact ⟨y0, y1, y2, y3, y4, n, by simpa using hf 0 f0 rfl, by simpa using hf 1 f1 rfl, by simpa using hf 2 f2 rfl, by simpa using hf 3 f3 rfl, by simpa using hf 4 f4 rfl⟩

set_option maxRecDepth 100000 in
theorem open_leave {w : World} {v : Value} {base : Nat} {d : DataW H} {ps : List MemPlace} (hv : Value.okWide Try.prog w .any base 70 v)
    (h : DataW.Trod enc Try.prog w 0 (fun _ => true) true 70 v d ps) :
    ∃ xw xs xm xv lo : Int, v = .agg #[.int .i64 xw, .int .i64 xs, .int .i64 xm, .int .i64 xv, .int .i64 lo] := by
  obtain ⟨cs, rfl, hsz⟩ := okWide_struct Try.underlying70 hv
  obtain ⟨c0, c1, c2, c3, c4, rfl⟩ := array5 (hsz.trans (by kernel_rfl))
  obtain ⟨fuel, h⟩ := h
  obtain ⟨y0, y1, y2, y3, y4, n, h0, h1, h2, h3, h4⟩ := trod_struct5 Try.underlying70 h
  dsimp only at h0 h1 h2 h3 h4
  rw [cells_int] at h0 h1 h2 h3 h4
  obtain ⟨n0, rfl⟩ := trod_ints1 (v := c0) h0
  obtain ⟨n1, rfl⟩ := trod_ints1 (v := c1) h1
  obtain ⟨n2, rfl⟩ := trod_ints1 (v := c2) h2
  obtain ⟨n3, rfl⟩ := trod_ints1 (v := c3) h3
  obtain ⟨n4, rfl⟩ := trod_ints1 (v := c4) h4
  exact ⟨n0, n1, n2, n3, n4, rfl⟩

theorem cells_turn : Try.prog.cellsOf 77 = 3 := by kernel_rfl

set_option maxRecDepth 100000 in
theorem open_turned {w : World} {v : Value} {base : Nat} {d : DataW H} {ps : List MemPlace} (hv : Value.okWide Try.prog w .any base 79 v)
    (h : DataW.Trod enc Try.prog w 0 (fun _ => true) true 79 v d ps) :
    ∃ ts tm tf s t pf pm : Int, v = .agg #[.int .i64 ts, .int .i64 tm, .int .i64 tf, .int .i64 s, .int .i64 t, .int .i64 pf, .int .i64 pm] := by
  obtain ⟨cs, rfl, hsz⟩ := okWide_struct Try.underlying79 hv
  obtain ⟨c0, c1, c2, c3, c4, c5, c6, rfl⟩ := array7 (hsz.trans (by kernel_rfl))
  obtain ⟨fuel, h⟩ := h
  obtain ⟨y0, y1, y2, y3, n, _, _, h0, h1, h2, h3⟩ := trod_struct4 Try.underlying79 h
  dsimp only at h0 h1 h2 h3
  rw [cells_turn] at h0
  rw [cells_int] at h1 h2
  rw [cells_place] at h3
  obtain ⟨n3, rfl⟩ := trod_ints1 (v := c3) h1
  obtain ⟨n4, rfl⟩ := trod_ints1 (v := c4) h2
  have h0' : DataW.trod enc Try.prog w 0 (fun _ => true) true n 77 [c0, c1, c2] = some y0 := h0
  have h3' : DataW.trod enc Try.prog w 0 (fun _ => true) true n 40 [c5, c6] = some y3 := h3
  obtain ⟨z0, z1, z2, m, _, _, k0, k1, k2⟩ := Deep.trod_struct3 Try.underlying77 h0'
  dsimp only at k0 k1 k2
  rw [cells_int] at k0 k1 k2
  obtain ⟨n0, rfl⟩ := trod_ints1 (v := c0) k0
  obtain ⟨n1, rfl⟩ := trod_ints1 (v := c1) k1
  obtain ⟨n2, rfl⟩ := trod_ints1 (v := c2) k2
  obtain ⟨z0, z1, m, _, _, k0, k1⟩ := trod_struct2 Try.underlying40 h3'
  dsimp only at k0 k1
  rw [cells_int] at k0 k1
  obtain ⟨n5, rfl⟩ := trod_ints1 (v := c5) k0
  obtain ⟨n6, rfl⟩ := trod_ints1 (v := c6) k1
  exact ⟨n0, n1, n2, n3, n4, n5, n6, rfl⟩

end
end Go.Proofs.Ytopajgnemeodeaa
