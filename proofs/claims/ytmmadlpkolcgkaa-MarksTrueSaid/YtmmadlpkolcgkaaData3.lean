/-
  More arguments of the chapter's laws: one more fruit, a truth, and structs of numbers.
-/
import Derived.Test.YtmmadlpkolcgkaaData2
import Derived.Test.YtmmadlpkolcgkaaTold1
namespace Go.Proofs.Ytmmadlpkolcgkaa
open Go.RowKit Go.WideShapes Go.ChangeShapes Go.Joins

section
variable {H : Type} {enc : TypeId × Value → H}

theorem cells_list : Try.prog.cellsOf 22 = 1 := by kernel_rfl
theorem bytes_int : Try.prog.bytesOf 3 = 8 := by kernel_rfl

/-- the bytes of a list that came in -/
theorem ints_bytes {w : World} {fuel : Nat} {ao : Option Addr} {n cap : Nat} {d : DataW H} {ps : List MemPlace}
    (h : DataW.trod enc Try.prog w 0 (fun _ => true) true fuel 22 [.slice ao n cap] = some (d, ps)) (hw : ∀ n ∈ d.weights Try.prog 22, n ≤ reachBytes) : n * 8 ≤ 140737488351232 := by
  rcases Deep.open_slice1 Try.underlying22 (by kernel_rfl) h with ⟨e, hx⟩ | ⟨a, len, cap', m, k, V, D, Pl, e, hb, hl, hm, hmm, hx, hcell⟩
  · simp at e; omega
  · simp only [if_true] at hmm
    subst hmm
    simp only [Prod.mk.injEq] at hx
    obtain ⟨rfl, rfl⟩ := hx
    simp at e
    have h1 : (len + (m - len)) * Try.prog.bytesOf 3 ≤ reachBytes := hw _ (by simp [DataW.weights, Try.underlying22])
    rw [bytes_int] at h1
    have e3 : reachBytes = 140737488351232 := rfl
    omega

set_option maxRecDepth 100000 in
theorem open_more {w : World} {v : Value} {base : Nat} {d : DataW H} {ps : List MemPlace} (hv : Value.okWide Try.prog w .any base 64 v)
    (h : DataW.Trod enc Try.prog w 0 (fun _ => true) true 64 v d ps) (hw : ∀ n ∈ d.weights Try.prog 64, n ≤ reachBytes) (hlt : ∀ p ∈ ps, p.block < w.heap.size) :
    ∃ ax n cx xs pf pm y, v = .agg #[.slice ax n cx, .int .i64 pf, .int .i64 pm, .int .i64 y] ∧ IntsAt w.heap.size w (.slice ax n cx) n xs ∧ n * 8 ≤ 140737488351232 := by
  obtain ⟨cs, rfl, hsz⟩ := okWide_struct Try.underlying64 hv
  obtain ⟨c0, c1, c2, c3, rfl⟩ := array4 (hsz.trans (by kernel_rfl))
  obtain ⟨fuel, h⟩ := h
  obtain ⟨y0, y1, y2, n, hd, hp, h0, h1, h2⟩ := Deep.trod_struct3 Try.underlying64 h
  dsimp only at h0 h1 h2
  rw [cells_list] at h0
  rw [cells_place] at h1
  rw [cells_int] at h2
  simp only [Prod.mk.injEq] at hd
  obtain ⟨rfl, rfl⟩ := hd
  have h0' : DataW.trod enc Try.prog w 0 (fun _ => true) true n 22 [c0] = some (y0.1, y0.2) := h0
  obtain ⟨t, rfl⟩ := trod_ints1 (v := c3) h2
  have h1' : DataW.trod enc Try.prog w 0 (fun _ => true) true n 40 [c1, c2] = some y1 := h1
  obtain ⟨z0, z1, m, _, _, k0, k1⟩ := trod_struct2 Try.underlying40 h1'
  dsimp only at k0 k1
  rw [cells_int] at k0 k1
  obtain ⟨f, rfl⟩ := trod_ints1 (v := c1) k0
  obtain ⟨g, rfl⟩ := trod_ints1 (v := c2) k1
  have hw0 : ∀ n ∈ y0.1.weights Try.prog 22, n ≤ reachBytes := fun k hk => hw k (by simp only [DataW.weights, Try.underlying64]; exact weightsEach_mem (j := 0) rfl rfl k hk)
  obtain ⟨a1, n1, c1, X1, e1, r1⟩ := open_ints' Try.underlying22 Try.underlying3 (by kernel_rfl) (by decide +kernel) h0' hw0 (fun p hp => hlt p (by simp [hp]))
  obtain rfl : c0 = .slice a1 n1 c1 := by simpa using e1
  exact ⟨a1, n1, c1, X1, f, g, t, rfl, r1, ints_bytes h0' hw0⟩

set_option maxRecDepth 100000 in
theorem open_truth {w : World} {v : Value} {base : Nat} {d : DataW H} {ps : List MemPlace} (hv : Value.okWide Try.prog w .any base 58 v)
    (h : DataW.Trod enc Try.prog w 0 (fun _ => true) true 58 v d ps) (hw : ∀ n ∈ d.weights Try.prog 58, n ≤ reachBytes) (hlt : ∀ p ∈ ps, p.block < w.heap.size) :
    ∃ (s : Int) (ao : Option Addr) (cap : Nat) (Q : Fr), v = .agg #[.int .i64 s, .slice ao Q.n cap] ∧ FruitsAt w.heap.size w (.slice ao Q.n cap) Q := by
  obtain ⟨v0, v1, y0, y1, n, rfl, rfl, rfl, h0, h1⟩ := open_agg2 Try.underlying58 (by kernel_rfl) (by kernel_rfl) hv h
  obtain ⟨s, rfl⟩ := trod_ints1 h0
  obtain ⟨ao, m, cap, L, X, hcs, hr⟩ := open_rows Try.underlying26 Try.underlying22 Try.underlying3 (by kernel_rfl) (by decide +kernel) (by kernel_rfl) (by decide +kernel) (show DataW.trod enc Try.prog w 0 (fun _ => true) true n 26 [v1] = some (y1.1, y1.2) from h1)
    (fun k hk => hw k (by simp only [DataW.weights, Try.underlying58]; exact weightsEach_mem (j := 1) rfl rfl k hk)) (fun p hp => hlt p (by simp [hp]))
  obtain rfl : v1 = .slice ao m cap := by simpa using hcs
  exact ⟨s, ao, cap, ⟨m, L, X⟩, rfl, hr⟩

set_option maxRecDepth 100000 in
theorem open_seen {w : World} {v : Value} {base : Nat} {d : DataW H} {ps : List MemPlace} (hv : Value.okWide Try.prog w .any base 85 v)
    (h : DataW.Trod enc Try.prog w 0 (fun _ => true) true 85 v d ps) :
    ∃ f y : Int, v = .agg #[.int .i64 f, .int .i64 y] := by
  obtain ⟨v0, v1, y0, y1, n, rfl, rfl, rfl, h0, h1⟩ := open_agg2 Try.underlying85 (by kernel_rfl) (by kernel_rfl) hv h
  obtain ⟨f, rfl⟩ := trod_ints1 h0
  obtain ⟨g, rfl⟩ := trod_ints1 h1
  exact ⟨f, g, rfl⟩

end
end Go.Proofs.Ytmmadlpkolcgkaa
