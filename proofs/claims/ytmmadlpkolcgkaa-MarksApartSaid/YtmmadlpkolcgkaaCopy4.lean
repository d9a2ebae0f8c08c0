/-
  A book in memory of the call's own reads as a book.
-/
import Derived.Test.YtmmadlpkolcgkaaCopy3
namespace Go.Proofs.Ytmmadlpkolcgkaa
open Go.RowKit

theorem IntsAt.wider {N N' : Nat} {w : World} {v : Value} {n : Nat} {x : Nat → Int} (h : IntsAt N w v n x) (hN : N ≤ N') : IntsAt N' w v n x :=
  h.mono (Below.refl _ _) hN

theorem SortsIn.sorts {w : World} {lo hi : Nat} {v : Value} {k : Nat} {B : Bk} (h : SortsIn w lo hi v k B) (hh : hi ≤ w.heap.size) (hk : k ≤ 1000000) (hl : ∀ s, s < k → B.nc s ≤ 1000 ∧ ∀ i, i < B.nc s → B.ncc s i ≤ 1000) : SortsAt w.heap.size w v k B.nc B.ncc B.can := by
  obtain ⟨rows, M, ho, hb, hlen, h0, hM, hm, hr⟩ := h
  have hMm := mono_M hm
  obtain ⟨h1, ⟨rfl, h2⟩ | ⟨g, cap, cur, rfl, h3, h4, h5⟩⟩ := id ho
  · exact ⟨none, 0, by rw [h2], by omega, fun h0 => by omega⟩
  · refine ⟨_, cap, rfl, by omega, fun _ => ⟨g, 0, rfl, (Array.getElem?_eq_some_iff.1 h4).1, fun j hj => ?_⟩⟩
    obtain ⟨r, hr1, hr2⟩ := hr j hj
    have e2 := hMm (j + 1) k (by omega) (Nat.le_refl _)
    have hlj := hl j hj
    exact ⟨r, by rw [Nat.zero_add]; exact own_cell ho j hr1, hr2.rows (by omega) (by omega) (fun i hi => by have := hlj.2 i hi; omega)⟩

theorem OwnBook.book {w : World} {lo : Nat} {v : Value} {B : Bk} (h : OwnBook w lo w.heap.size v B) (h40v : B.nv ≤ 1000000) (h40f : B.nf ≤ 1000000) (h40s : B.ns ≤ 1000000) (hl : ∀ s, s < B.ns → B.nc s ≤ 1000 ∧ ∀ i, i < B.nc s → B.ncc s i ≤ 1000) : BookAt w.heap.size w v B := by
  obtain ⟨v1, v2, v3, m, rfl, ⟨mid, h1, h2⟩, h3⟩ := h
  obtain ⟨g1, p1, rfl⟩ := h1.form
  obtain ⟨g2, p2, rfl⟩ := h2.form
  obtain ⟨a3, p3, rfl⟩ := h3.form
  have i1 := h1.ints (by omega)
  have i2 := h2.ints (by omega)
  have i3 := h3.sorts (Nat.le_refl _) h40s hl
  refine ⟨Nat.le_refl _, _, _, _, _, _, _, rfl, ?_, ?_, i3⟩
  · obtain ⟨_, _, e, hn, hc⟩ := i1
    cases e
    refine ⟨_, _, rfl, hn, fun h0 => ?_⟩
    obtain ⟨b, off, e, hb, hr⟩ := hc h0
    cases e
    refine ⟨_, _, rfl, ?_, hr⟩
    obtain ⟨r, hr1, _⟩ := hr 0 h0
    exact World.block_lt_of_cell? w _ hr1
  · obtain ⟨_, _, e, hn, hc⟩ := i2
    cases e
    refine ⟨_, _, rfl, hn, fun h0 => ?_⟩
    obtain ⟨b, off, e, hb, hr⟩ := hc h0
    cases e
    refine ⟨_, _, rfl, ?_, hr⟩
    obtain ⟨r, hr1, _⟩ := hr 0 h0
    exact World.block_lt_of_cell? w _ hr1

end Go.Proofs.Ytmmadlpkolcgkaa
