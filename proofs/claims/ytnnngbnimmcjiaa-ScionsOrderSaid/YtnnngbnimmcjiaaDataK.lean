/-
  DataK: a list of scions, read from what came in.
-/
import Derived.Test.YtnnngbnimmcjiaaOpen
import Derived.Test.YtnnngbnimmcjiaaBase
import Derived.Lib.SmallJoins
import Derived.Deep.Slices
import Derived.Deep.Fields
import Derived.ChangeSame
namespace Go.Proofs.Ytnnngbnimmcjiaa
open Go.RowKit Go.WideShapes Go.ChangeShapes Go.Joins Go.Deep

section
variable {H : Type} {enc : TypeId × Value → H}

section
variable {P : Program} {w : World} {base : Nat} {spare : Nat → Bool} {held : Bool}
theorem open_slice_fields {t e : TypeId} {fs : Array Field} {fuel : Nat} {cs : List Value} {x : DataW H × List MemPlace} (ht : P.underlying t = some (.slice e)) (he : P.underlying e = some (.struct fs))
    (hone : oneCellFields P fs = true) (hC : P.cellsOf e = fs.size) (h : DataW.trod enc P w base spare held fuel t cs = some x) :
    (cs = [.slice none 0 0] ∧ x = (.nil, [])) ∨
    ∃ (a : Addr) (len cap m : Nat) (D : Nat → DataW H) (Pl : Nat → List MemPlace), cs = [.slice (some a) len cap] ∧ base ≤ a.block ∧ len ≤ cap ∧ cap ≤ maxLen ∧ m = (if spare a.block then cap else len) ∧
      x = (.slice ((List.range len).map D) ((List.range (m - len)).map fun j => D (len + j)), MemPlace.row a (m * fs.size) ++ (List.range m).flatMap Pl) ∧
      ∀ i, i < m → ∃ (ys : List (DataW H × List MemPlace)) (n : Nat), D i = .agg (ys.map (·.1)) ∧ Pl i = ys.flatMap (·.2) ∧ ys.length = fs.size ∧
        ∀ (j : Nat) (f : Field), fs[j]? = some f → ∃ (v : Value) (y : DataW H × List MemPlace), w.cell? (a.add (i * fs.size + j)) = some v ∧ ys[j]? = some y ∧ DataW.trod enc P w base spare held n f.type [v] = some y := by
  rcases open_slice ht h with h0 | ⟨a, len, cap, m, n, D, Pl, hcs, hb, hl, hm, hmm, hx, hi⟩
  · exact .inl h0
  · refine .inr ⟨a, len, cap, m, D, Pl, hcs, hb, hl, hm, hmm, by rw [hC] at hx; exact hx, fun i him => ?_⟩
    obtain ⟨cs', hc, ht'⟩ := hi i him
    rw [hC] at hc
    obtain ⟨ys, n', hn', hy, hlen, hyl, hf⟩ := DataW.trod_struct he ht'
    obtain ⟨_, hcl, hat⟩ := World.cells?_some hc
    simp only [Prod.mk.injEq] at hy
    refine ⟨ys, n', hy.1, hy.2, hyl, fun j f hj => ?_⟩
    obtain ⟨ho, hk⟩ := hone_of hone j f hj
    have hjl : j < fs.size := (Array.getElem?_eq_some_iff.1 hj).1
    have hcell := hat j hjl
    have hv : cs'[j]? = some (cs'[j]'(by omega)) := List.getElem?_eq_getElem (by omega)
    have h1 := hf j f hj
    rw [ho, hk] at h1
    have hone' : (cs'.drop j).take 1 = [cs'[j]'(by omega)] := by
      rw [List.drop_eq_getElem_cons (by omega)]
      rfl
    rw [hone'] at h1
    have hys : ys[j]? = some (ys[j]'(by omega)) := List.getElem?_eq_getElem (by omega)
    refine ⟨_, _, ?_, hys, h1.trans hys⟩
    rw [← Go.Deep.add_add, hcell, hv]
end

theorem laidOut1 : laidOutB Try.prog = true := by kernel_rfl
theorem okWide_slice {P : Program} {w : World} {r : Reach} {base : Nat} {t e : TypeId} {v : Value} {ao : Option Addr} {n cap : Nat} (ht : P.underlying t = some (.slice e)) (hv : Value.okWide P w r base t v) (hc : v.cells.toList = [.slice ao n cap]) : v = .slice ao n cap := by
  cases v <;> simp_all [Value.cells, Value.okWide, Cell.okWide, Cell.ok]
set_option maxRecDepth 100000 in
theorem open_int1 {w : World} {v : Value} {base : Nat} {d : DataW H} {ps : List MemPlace} (hv : Value.okWide Try.prog w .any base 3 v)
    (h : DataW.Trod enc Try.prog w 0 (fun _ => true) true 3 v d ps) : ∃ s : Int, v = .int .i64 s := by
  obtain ⟨n, e⟩ := okWide_int Try.underlying3 hv
  exact ⟨n, e⟩
set_option maxRecDepth 100000 in
theorem open_list1 {w : World} {v : Value} {base : Nat} {d : DataW H} {ps : List MemPlace} (hv : Value.okWide Try.prog w .any base 22 v)
    (h : DataW.Trod enc Try.prog w 0 (fun _ => true) true 22 v d ps) (hw : ∀ n ∈ d.weights Try.prog 22, n ≤ reachBytes) (hlt : ∀ p ∈ ps, p.block < w.heap.size) :
    ∃ n x, IntsAt w.heap.size w v n x := by
  obtain ⟨fuel, h⟩ := h
  obtain ⟨ao, n, cap, X, hcs, hr⟩ := open_ints' Try.underlying22 Try.underlying3 (by kernel_rfl) (by decide +kernel) h hw hlt
  obtain rfl := okWide_slice Try.underlying22 hv hcs
  exact ⟨n, X, hr⟩

set_option maxRecDepth 100000 in
theorem open_gardens {w : World} {fuel : Nat} {cs : List Value} {d : DataW H} {ps : List MemPlace}
    (h : DataW.trod enc Try.prog w 0 (fun _ => true) true fuel 23 cs = some (d, ps)) (hw : ∀ n ∈ d.weights Try.prog 23, n ≤ reachBytes) (hlt : ∀ p ∈ ps, p.block < w.heap.size) :
    ∃ a n c x y, cs = [.slice a n c] ∧ PairsAt w.heap.size w (.slice a n c) n x y := by
  rcases open_slice_fields Try.underlying23 Try.underlying49 (by kernel_rfl) (by kernel_rfl) h with ⟨rfl, hx⟩ | ⟨a, len, cap, m, D, Pl, rfl, hb, hl, hm, hmm, hx, hcell⟩
  · exact ⟨none, 0, 0, fun _ => 0, fun _ => 0, rfl, none, 0, rfl, by decide, Nat.le_refl _, fun h0 => absurd h0 (Nat.lt_irrefl 0)⟩
  · simp only [if_true] at hmm
    subst hmm
    simp only [Prod.mk.injEq] at hx
    obtain ⟨rfl, rfl⟩ := hx
    have h1 : (len + (m - len)) * Try.prog.bytesOf 49 ≤ reachBytes := hw _ (by simp [DataW.weights, Try.underlying23])
    have h2 : m ≤ 140737488351232 := by
      have e1 : len + (m - len) = m := by omega
      rw [e1] at h1
      have e2 : m * 1 ≤ m * Try.prog.bytesOf 49 := Nat.mul_le_mul_left _ (by decide +kernel)
      have e3 : reachBytes = 140737488351232 := rfl
      omega
    have each : ∀ i, i < len → ∃ z : Int × Int, w.cell? (a.add (i * 2)) = some (.int .i64 z.1) ∧ w.cell? (a.add (i * 2 + 1)) = some (.int .i64 z.2) := fun i hi => by
      obtain ⟨ys, n, hD, hP, hyl, hf⟩ := hcell i (by omega)
      obtain ⟨v0, y0, c0, g0, t0⟩ := hf 0 _ rfl
      obtain ⟨v1, y1, c1, g1, t1⟩ := hf 1 _ rfl
      obtain ⟨k0, e0, _⟩ := DataW.trod_int Try.underlying3 t0
      obtain ⟨k1, e1, _⟩ := DataW.trod_int Try.underlying3 t1
      simp only [List.cons.injEq, and_true] at e0 e1
      subst e0; subst e1
      exact ⟨(k0, k1), c0, c1⟩
    obtain ⟨Z, hZ⟩ := Deep.choose_lt each
    refine ⟨some a, len, m, fun i => (Z i).1, fun i => (Z i).2, rfl, some a, m, rfl, by omega, hl, fun h0 => ?_⟩
    have hsp : a.spot = none := by
      have := (hZ 0 h0).1
      rw [Nat.zero_mul] at this
      have e0 : a.add 0 = a := rfl
      rw [e0] at this
      unfold World.cell? at this
      split at this
      · split at this
        · cases this
        · rename_i hs; cases hh : a.spot with
          | none => rfl
          | some _ => simp [hh] at hs
      · cases this
    obtain ⟨b, off, spot⟩ := a
    simp only at hsp
    subst hsp
    have hadd : ∀ k, (⟨b, off, none⟩ : Addr).add k = ⟨b, off + k, none⟩ := fun k => by unfold Addr.add; split <;> simp_all
    refine ⟨b, off, rfl, hlt (.cell b (off + 0)) ?_, fun i hi => ?_⟩
    · simp only [List.mem_append, MemPlace.row, List.mem_map, List.mem_range]
      exact Or.inl ⟨0, by simp; omega, rfl⟩
    · obtain ⟨c0, c1⟩ := hZ i hi
      rw [hadd] at c0 c1
      exact ⟨c0, by rw [Nat.add_assoc]; exact c1⟩

set_option maxRecDepth 100000 in
theorem open_wants {w : World} {fuel : Nat} {cs : List Value} {d : DataW H} {ps : List MemPlace}
    (h : DataW.trod enc Try.prog w 0 (fun _ => true) true fuel 24 cs = some (d, ps)) (hw : ∀ n ∈ d.weights Try.prog 24, n ≤ reachBytes) (hlt : ∀ p ∈ ps, p.block < w.heap.size) :
    ∃ a n c x y, cs = [.slice a n c] ∧ PairsAt w.heap.size w (.slice a n c) n x y := by
  rcases open_slice_fields Try.underlying24 Try.underlying43 (by kernel_rfl) (by kernel_rfl) h with ⟨rfl, hx⟩ | ⟨a, len, cap, m, D, Pl, rfl, hb, hl, hm, hmm, hx, hcell⟩
  · exact ⟨none, 0, 0, fun _ => 0, fun _ => 0, rfl, none, 0, rfl, by decide, Nat.le_refl _, fun h0 => absurd h0 (Nat.lt_irrefl 0)⟩
  · simp only [if_true] at hmm
    subst hmm
    simp only [Prod.mk.injEq] at hx
    obtain ⟨rfl, rfl⟩ := hx
    have h1 : (len + (m - len)) * Try.prog.bytesOf 43 ≤ reachBytes := hw _ (by simp [DataW.weights, Try.underlying24])
    have h2 : m ≤ 140737488351232 := by
      have e1 : len + (m - len) = m := by omega
      rw [e1] at h1
      have e2 : m * 1 ≤ m * Try.prog.bytesOf 43 := Nat.mul_le_mul_left _ (by decide +kernel)
      have e3 : reachBytes = 140737488351232 := rfl
      omega
    have each : ∀ i, i < len → ∃ z : Int × Int, w.cell? (a.add (i * 2)) = some (.int .i64 z.1) ∧ w.cell? (a.add (i * 2 + 1)) = some (.int .i64 z.2) := fun i hi => by
      obtain ⟨ys, n, hD, hP, hyl, hf⟩ := hcell i (by omega)
      obtain ⟨v0, y0, c0, g0, t0⟩ := hf 0 _ rfl
      obtain ⟨v1, y1, c1, g1, t1⟩ := hf 1 _ rfl
      obtain ⟨k0, e0, _⟩ := DataW.trod_int Try.underlying3 t0
      obtain ⟨k1, e1, _⟩ := DataW.trod_int Try.underlying3 t1
      simp only [List.cons.injEq, and_true] at e0 e1
      subst e0; subst e1
      exact ⟨(k0, k1), c0, c1⟩
    obtain ⟨Z, hZ⟩ := Deep.choose_lt each
    refine ⟨some a, len, m, fun i => (Z i).1, fun i => (Z i).2, rfl, some a, m, rfl, by omega, hl, fun h0 => ?_⟩
    have hsp : a.spot = none := by
      have := (hZ 0 h0).1
      rw [Nat.zero_mul] at this
      have e0 : a.add 0 = a := rfl
      rw [e0] at this
      unfold World.cell? at this
      split at this
      · split at this
        · cases this
        · rename_i hs; cases hh : a.spot with
          | none => rfl
          | some _ => simp [hh] at hs
      · cases this
    obtain ⟨b, off, spot⟩ := a
    simp only at hsp
    subst hsp
    have hadd : ∀ k, (⟨b, off, none⟩ : Addr).add k = ⟨b, off + k, none⟩ := fun k => by unfold Addr.add; split <;> simp_all
    refine ⟨b, off, rfl, hlt (.cell b (off + 0)) ?_, fun i hi => ?_⟩
    · simp only [List.mem_append, MemPlace.row, List.mem_map, List.mem_range]
      exact Or.inl ⟨0, by simp; omega, rfl⟩
    · obtain ⟨c0, c1⟩ := hZ i hi
      rw [hadd] at c0 c1
      exact ⟨c0, by rw [Nat.add_assoc]; exact c1⟩

set_option maxRecDepth 100000 in
theorem open_list3 {w : World} {base : Nat} {v : Value} {d : DataW H} {ps : List MemPlace} (hv : Value.okWide Try.prog w .any base 26 v)
    (h : DataW.Trod enc Try.prog w 0 (fun _ => true) true 26 v d ps) (hw : ∀ n ∈ d.weights Try.prog 26, n ≤ reachBytes) (hlt : ∀ p ∈ ps, p.block < w.heap.size) :
    ∃ B, BookAt w.heap.size w v B := by
  obtain ⟨v0, v1, v2, y0, y1, y2, n, rfl, rfl, rfl, h0, h1, h2⟩ := open_agg3 Try.underlying26 (by kernel_rfl) (by kernel_rfl) hv h
  have g : ∀ {j : Nat} {t : TypeId} {D : DataW H}, [22, 23, 24][j]? = some t → [y0.1, y1.1, y2.1][j]? = some D → ∀ n ∈ D.weights Try.prog t, n ≤ reachBytes := fun ht hd n hn => hw n (by
    simp only [DataW.weights, Try.underlying26]
    exact weightsEach_mem ht hd n hn)
  obtain ⟨a1, n1, c1, X1, e1, r1⟩ := open_ints' Try.underlying22 Try.underlying3 (by kernel_rfl) (by decide +kernel) (show _ = some (y0.1, y0.2) from h0) (g (j := 0) rfl rfl) (fun p hp => hlt p (by simp [hp]))
  obtain ⟨a2, n2, c2, x2, y2', e2, r2⟩ := open_gardens (show _ = some (y1.1, y1.2) from h1) (g (j := 1) rfl rfl) (fun p hp => hlt p (by simp [hp]))
  obtain ⟨a3, n3, c3, x3, y3', e3, r3⟩ := open_wants (show _ = some (y2.1, y2.2) from h2) (g (j := 2) rfl rfl) (fun p hp => hlt p (by simp [hp]))
  simp only [List.cons.injEq, and_true] at e1 e2 e3
  subst e1; subst e2; subst e3
  exact ⟨⟨n1, X1, n2, x2, y2', n3, x3, y3'⟩, Nat.le_refl _, a1, c1, a2, c2, a3, c3, rfl, r1, r2, r3⟩

end
end Go.Proofs.Ytnnngbnimmcjiaa
