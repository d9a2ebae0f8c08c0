/-
  The arguments of the chapter's laws: a book, fruits, an Ask, read from what came in.
-/
import Derived.Test.YtopajgnemeodeaaOpen
import Derived.Test.YtopajgnemeodeaaBase
import Derived.Lib.SmallJoins
import Derived.Deep.Strs
namespace Go.Proofs.Ytopajgnemeodeaa
open Go.RowKit Go.WideShapes Go.ChangeShapes Go.Joins

section
variable {H : Type} {enc : TypeId × Value → H}

theorem laidOut1 : laidOutB Try.prog = true := by kernel_rfl
theorem cells_rows : Try.prog.cellsOf 26 = 1 := by kernel_rfl
theorem cells_int : Try.prog.cellsOf 3 = 1 := by kernel_rfl
theorem cells_place : Try.prog.cellsOf 40 = 2 := by kernel_rfl
theorem okWide_slice {P : Program} {w : World} {r : Reach} {base : Nat} {t e : TypeId} {v : Value} {ao : Option Addr} {n cap : Nat} (ht : P.underlying t = some (.slice e)) (hv : Value.okWide P w r base t v) (hc : v.cells.toList = [.slice ao n cap]) : v = .slice ao n cap := by
  cases v <;> simp_all [Value.cells, Value.okWide, Cell.okWide, Cell.ok]

theorem open_can {w : World} {fuel : Nat} {V : Value} {d : DataW H} {ps : List MemPlace}
    (h : DataW.trod enc Try.prog w 0 (fun _ => true) true fuel 73 [V] = some (d, ps)) (hw : ∀ n ∈ d.weights Try.prog 73, n ≤ reachBytes) (hlt : ∀ p ∈ ps, p.block < w.heap.size) :
    ∃ x : Nat × (Nat → Nat) × (Nat → Nat → Int), RowsAt w.heap.size w V x.1 x.2.1 x.2.2 := by
  obtain ⟨y0, n, hx, _, h0⟩ := trod_struct1 Try.underlying73 h
  simp only [Prod.mk.injEq] at hx
  obtain ⟨rfl, rfl⟩ := hx
  dsimp only at h0
  rw [cells_rows] at h0
  have h0' : DataW.trod enc Try.prog w 0 (fun _ => true) true n 26 [V] = some (y0.1, y0.2) := h0
  obtain ⟨ao, m, cap, L, X, hcs, hr⟩ := open_rows Try.underlying26 Try.underlying22 Try.underlying3 (by kernel_rfl) (by decide +kernel) (by kernel_rfl) (by decide +kernel) h0'
    (fun k hk => hw k (by simp only [DataW.weights, Try.underlying73]; exact weightsEach_mem (j := 0) rfl rfl k hk)) hlt
  obtain rfl : V = .slice ao m cap := by simpa using hcs
  exact ⟨(m, L, X), hr⟩

theorem open_sorts {w : World} {fuel : Nat} {cs : List Value} {d : DataW H} {ps : List MemPlace}
    (h : DataW.trod enc Try.prog w 0 (fun _ => true) true fuel 23 cs = some (d, ps)) (hw : ∀ n ∈ d.weights Try.prog 23, n ≤ reachBytes) (hlt : ∀ p ∈ ps, p.block < w.heap.size) :
    ∃ ao n cap L M X, cs = [.slice ao n cap] ∧ SortsAt w.heap.size w (.slice ao n cap) n L M X := by
  obtain ⟨ao, n, cap, X, hcs, hl⟩ := open_list (fun (x : Nat × (Nat → Nat) × (Nat → Nat → Int)) r => RowsAt w.heap.size w r x.1 x.2.1 x.2.2) Try.underlying23 (by kernel_rfl) (by decide +kernel) h hw hlt
    fun V D Pl m hv h1 h2 => open_can hv h1 h2
  exact ⟨ao, n, cap, fun i => (X i).1, fun i => (X i).2.1, fun i => (X i).2.2, hcs, hl⟩

set_option maxRecDepth 100000 in
theorem open_book {w : World} {base : Nat} {v : Value} {d : DataW H} {ps : List MemPlace} (hv : Value.okWide Try.prog w .any base 25 v)
    (h : DataW.Trod enc Try.prog w 0 (fun _ => true) true 25 v d ps) (hw : ∀ n ∈ d.weights Try.prog 25, n ≤ reachBytes) (hlt : ∀ p ∈ ps, p.block < w.heap.size) :
    ∃ B, BookAt w.heap.size w v B := by
  obtain ⟨v0, v1, v2, v3, y0, y1, y2, y3, n, rfl, rfl, rfl, h0, h1, h2, h3⟩ := open_agg4 Try.underlying25 (by kernel_rfl) (by kernel_rfl) hv h
  have g : ∀ {j : Nat} {t : TypeId} {D : DataW H}, [22, 22, 23, 3][j]? = some t → [y0.1, y1.1, y2.1, y3.1][j]? = some D → ∀ n ∈ D.weights Try.prog t, n ≤ reachBytes := fun ht hd n hn => hw n (by
    simp only [DataW.weights, Try.underlying25]
    exact weightsEach_mem ht hd n hn)
  obtain ⟨a1, n1, c1, X1, e1, r1⟩ := open_ints' Try.underlying22 Try.underlying3 (by kernel_rfl) (by decide +kernel) (show _ = some (y0.1, y0.2) from h0) (g (j := 0) rfl rfl) (fun p hp => hlt p (by simp [hp]))
  obtain ⟨a2, n2, c2, X2, e2, r2⟩ := open_ints' Try.underlying22 Try.underlying3 (by kernel_rfl) (by decide +kernel) (show _ = some (y1.1, y1.2) from h1) (g (j := 1) rfl rfl) (fun p hp => hlt p (by simp [hp]))
  obtain ⟨a3, n3, c3, L3, M3, X3, e3, r3⟩ := open_sorts (show _ = some (y2.1, y2.2) from h2) (g (j := 2) rfl rfl) (fun p hp => hlt p (by simp [hp]))
  obtain ⟨k, e4, _⟩ := DataW.trod_int Try.underlying3 h3
  simp only [List.cons.injEq, and_true] at e1 e2 e3 e4
  subst e1; subst e2; subst e3; subst e4
  exact ⟨⟨n1, X1, n2, X2, n3, L3, M3, X3, k⟩, Nat.le_refl _, a1, c1, a2, c2, a3, c3, rfl, r1, r2, r3⟩

set_option maxRecDepth 100000 in
theorem open_fruits {w : World} {v : Value} {base : Nat} {d : DataW H} {ps : List MemPlace} (hv : Value.okWide Try.prog w .any base 26 v)
    (h : DataW.Trod enc Try.prog w 0 (fun _ => true) true 26 v d ps) (hw : ∀ n ∈ d.weights Try.prog 26, n ≤ reachBytes) (hlt : ∀ p ∈ ps, p.block < w.heap.size) :
    ∃ R, FruitsAt w.heap.size w v R := by
  obtain ⟨fuel, h⟩ := h
  obtain ⟨ao, m, cap, L, X, hcs, hr⟩ := open_rows Try.underlying26 Try.underlying22 Try.underlying3 (by kernel_rfl) (by decide +kernel) (by kernel_rfl) (by decide +kernel) h hw hlt
  obtain rfl := okWide_slice Try.underlying26 hv hcs
  exact ⟨⟨m, L, X⟩, hr⟩

theorem trod_ints1 {w : World} {fuel : Nat} {v : Value} {y : DataW H × List MemPlace} (h : DataW.trod enc Try.prog w 0 (fun _ => true) true fuel 3 [v] = some y) : ∃ n, v = .int .i64 n := by
  obtain ⟨n, e, _⟩ := DataW.trod_int Try.underlying3 h
  exact ⟨n, by simpa using e⟩

set_option maxRecDepth 100000 in
theorem open_int1 {w : World} {v : Value} {base : Nat} {d : DataW H} {ps : List MemPlace} (hv : Value.okWide Try.prog w .any base 3 v)
    (h : DataW.Trod enc Try.prog w 0 (fun _ => true) true 3 v d ps) : ∃ s : Int, v = .int .i64 s := by
  obtain ⟨n, e⟩ := okWide_int Try.underlying3 hv
  exact ⟨n, e⟩

set_option maxRecDepth 100000 in
theorem open_ask {w : World} {v : Value} {base : Nat} {d : DataW H} {ps : List MemPlace} (hv : Value.okWide Try.prog w .any base 42 v)
    (h : DataW.Trod enc Try.prog w 0 (fun _ => true) true 42 v d ps) :
    ∃ s pf pm t : Int, v = .agg #[.int .i64 s, .int .i64 pf, .int .i64 pm, .int .i64 t] := by
  obtain ⟨cs, rfl, hsz⟩ := okWide_struct Try.underlying42 hv
  obtain ⟨c0, c1, c2, c3, rfl⟩ := array4 (hsz.trans (by kernel_rfl))
  obtain ⟨fuel, h⟩ := h
  obtain ⟨y0, y1, y2, n, _, _, h0, h1, h2⟩ := Deep.trod_struct3 Try.underlying42 h
  dsimp only at h0 h1 h2
  rw [cells_int] at h0 h2
  rw [cells_place] at h1
  obtain ⟨s, rfl⟩ := trod_ints1 (v := c0) h0
  obtain ⟨t, rfl⟩ := trod_ints1 (v := c3) h2
  have h1' : DataW.trod enc Try.prog w 0 (fun _ => true) true n 40 [c1, c2] = some y1 := h1
  obtain ⟨z0, z1, m, _, _, k0, k1⟩ := trod_struct2 Try.underlying40 h1'
  dsimp only at k0 k1
  rw [cells_int] at k0 k1
  obtain ⟨f, rfl⟩ := trod_ints1 (v := c1) k0
  obtain ⟨g, rfl⟩ := trod_ints1 (v := c2) k1
  exact ⟨s, f, g, t, rfl⟩

end
end Go.Proofs.Ytopajgnemeodeaa
