/-
  JDataK: a show, read from what came in.
-/
import Derived.Test.YtffnlimgjnhmpaaJOpen
import Derived.Test.YtffnlimgjnhmpaaJMem
import Derived.Lib.SmallJoins
import Derived.Deep.Slices
import Derived.Deep.Fields
import Derived.ChangeSame
namespace Go.Proofs.Ytffnlimgjnhmpaa
open Go.RowKit Go.WideShapes Go.ChangeShapes Go.Joins Go.Deep

section
variable {H : Type} {enc : TypeId × Value → H}

section
variable {P : Program} {w : World} {base : Nat} {spare : Nat → Bool} {held : Bool}
theorem open_slice_fields {t e : TypeId} {fs : Array Field} {fuel : Nat} {cs : List Value} {x : DataW H × List MemPlace} (ht : P.underlying t = some (.slice e)) (he : P.underlying e = some (.struct fs))
    (hone : oneCellFields P fs = true) (hC : P.cellsOf e = fs.size) (h : DataW.trod enc P w base spare held fuel t cs = some x) :
    (cs = [.slice none 0 0] ∧ x = (.nil, [])) ∨
    ∃ (a : Addr) (len cap m : Nat) (D : Nat → DataW H) (Pl : Nat → List MemPlace), cs = [.slice (some a) len cap] ∧ base ≤ a.block ∧ len ≤ cap ∧ cap ≤ maxLen ∧ m = (if spare a.block then cap else len) ∧
      x = (.slice ((List.range len).map D) ((List.range (m - len)).map fun j => D (len + j)), MemPlace.row a (m * fs.size) ++ (List.range m).flatMap Pl) ∧
      ∀ i, i < m → ∃ (ys : List (DataW H × List MemPlace)) (n : Nat), D i = .agg (ys.map (·.1)) ∧ Pl i = ys.flatMap (·.2) ∧ ys.length = fs.size ∧
        ∀ (j : Nat) (f : Field), fs[j]? = some f → ∃ (v : Value) (y : DataW H × List MemPlace), w.cell? (a.add (i * fs.size + j)) = some v ∧ ys[j]? = some y ∧ DataW.trod enc P w base spare held n f.type [v] = some y := by
  rcases open_slice ht h with h0 | ⟨a, len, cap, m, n, D, Pl, hcs, hb, hl, hm, hmm, hx, hi⟩
  · exact .inl h0
  · refine .inr ⟨a, len, cap, m, D, Pl, hcs, hb, hl, hm, hmm, by rw [hC] at hx; exact hx, fun i him => ?_⟩
    obtain ⟨cs', hc, ht'⟩ := hi i him
    rw [hC] at hc
    obtain ⟨ys, n', hn', hy, hlen, hyl, hf⟩ := DataW.trod_struct he ht'
    obtain ⟨_, hcl, hat⟩ := World.cells?_some hc
    simp only [Prod.mk.injEq] at hy
    refine ⟨ys, n', hy.1, hy.2, hyl, fun j f hj => ?_⟩
    obtain ⟨ho, hk⟩ := hone_of hone j f hj
    have hjl : j < fs.size := (Array.getElem?_eq_some_iff.1 hj).1
    have hcell := hat j hjl
    have hv : cs'[j]? = some (cs'[j]'(by omega)) := List.getElem?_eq_getElem (by omega)
    have h1 := hf j f hj
    rw [ho, hk] at h1
    have hone' : (cs'.drop j).take 1 = [cs'[j]'(by omega)] := by
      rw [List.drop_eq_getElem_cons (by omega)]
      rfl
    rw [hone'] at h1
    have hys : ys[j]? = some (ys[j]'(by omega)) := List.getElem?_eq_getElem (by omega)
    refine ⟨_, _, ?_, hys, h1.trans hys⟩
    rw [← Go.Deep.add_add, hcell, hv]
end

theorem laidOut1 : laidOutB Try.prog = true := by kernel_rfl
theorem okWide_slice {P : Program} {w : World} {r : Reach} {base : Nat} {t e : TypeId} {v : Value} {ao : Option Addr} {n cap : Nat} (ht : P.underlying t = some (.slice e)) (hv : Value.okWide P w r base t v) (hc : v.cells.toList = [.slice ao n cap]) : v = .slice ao n cap := by
  cases v <;> simp_all [Value.cells, Value.okWide, Cell.okWide, Cell.ok]
set_option maxRecDepth 100000 in
theorem open_int1 {w : World} {v : Value} {base : Nat} {d : DataW H} {ps : List MemPlace} (hv : Value.okWide Try.prog w .any base 3 v)
    (h : DataW.Trod enc Try.prog w 0 (fun _ => true) true 3 v d ps) : ∃ s : Int, v = .int .i64 s := by
  obtain ⟨n, e⟩ := okWide_int Try.underlying3 hv
  exact ⟨n, e⟩
set_option maxRecDepth 100000 in
theorem open_list1 {w : World} {v : Value} {base : Nat} {d : DataW H} {ps : List MemPlace} (hv : Value.okWide Try.prog w .any base 25 v)
    (h : DataW.Trod enc Try.prog w 0 (fun _ => true) true 25 v d ps) (hw : ∀ n ∈ d.weights Try.prog 25, n ≤ reachBytes) (hlt : ∀ p ∈ ps, p.block < w.heap.size) :
    ∃ n x, IntsAt w.heap.size w v n x := by
  obtain ⟨fuel, h⟩ := h
  obtain ⟨ao, n, cap, X, hcs, hr⟩ := open_ints' Try.underlying25 Try.underlying3 (by kernel_rfl) (by decide +kernel) h hw hlt
  obtain rfl := okWide_slice Try.underlying25 hv hcs
  exact ⟨n, X, hr⟩

theorem open_ints_c {w : World} {fuel : Nat} {cs : List Value} {d : DataW H} {ps : List MemPlace}
    (h : DataW.trod enc Try.prog w 0 (fun _ => true) true fuel 25 cs = some (d, ps)) (hw : ∀ n ∈ d.weights Try.prog 25, n ≤ reachBytes) (hlt : ∀ p ∈ ps, p.block < w.heap.size) :
    ∃ ao n cap X, cs = [.slice ao n cap] ∧ n ≤ cap ∧ IntsAt w.heap.size w (.slice ao n cap) n X := by
  obtain ⟨ao, n, cap, X, hcs, hr⟩ := open_ints' Try.underlying25 Try.underlying3 (by kernel_rfl) (by decide +kernel) h hw hlt
  refine ⟨ao, n, cap, X, hcs, ?_, hr⟩
  rcases open_slice Try.underlying25 h with ⟨e, _⟩ | ⟨a, len, cap', m, n', D, Pl, e, hb, hl, _⟩
  · rw [hcs] at e; cases e; exact Nat.le_refl _
  · rw [hcs] at e; cases e; exact hl
theorem ints_list {N : Nat} {w : World} {v : Value} {n : Nat} {X : Nat → Int} (h : IntsAt N w v n X) : IntsAt N w v n (fun k => ((List.range n).map X).getD k 0) := by
  obtain ⟨a, c, rfl, h1, h2⟩ := h
  refine ⟨a, c, rfl, h1, fun h0 => ?_⟩
  obtain ⟨b, off, rfl, hb, hr⟩ := h2 h0
  refine ⟨b, off, rfl, hb, fun i hi => ?_⟩
  obtain ⟨r, e1, e2⟩ := hr i hi
  refine ⟨r, e1, ?_⟩
  have hl : i < ((List.range n).map X).length := by simpa using hi
  show r = .int .i64 (((List.range n).map X).getD i 0)
  rw [List.getD_eq_getElem?_getD, List.getElem?_eq_getElem hl]
  simpa using e2
set_option maxRecDepth 100000 in
theorem open_plates {w : World} {fuel : Nat} {cs : List Value} {d : DataW H} {ps : List MemPlace}
    (h : DataW.trod enc Try.prog w 0 (fun _ => true) true fuel 22 cs = some (d, ps)) (hw : ∀ n ∈ d.weights Try.prog 22, n ≤ reachBytes) (hlt : ∀ p ∈ ps, p.block < w.heap.size) (J D0 Z : Int) :
    ∃ a c, ∃ S : JB, cs = [.slice a S.np c] ∧ PlatesAt w.heap.size w (.slice a S.np c) S ∧ S.J = J ∧ S.D = D0 ∧ S.Z = Z := by
  rcases open_slice_fields Try.underlying22 Try.underlying40 (by kernel_rfl) (by kernel_rfl) h with ⟨rfl, hx⟩ | ⟨a, len, cap, m, D, Pl, rfl, hb, hl, hm, hmm, hx, hcell⟩
  · exact ⟨none, 0, ⟨J, D0, Z, 0, fun _ => 0, fun _ => []⟩, rfl, ⟨none, 0, rfl, Nat.zero_le _, Nat.le_refl _, fun h0 => absurd h0 (Nat.lt_irrefl 0)⟩, rfl, rfl, rfl⟩
  · simp only [if_true] at hmm
    subst hmm
    simp only [Prod.mk.injEq] at hx
    obtain ⟨rfl, rfl⟩ := hx
    have h1 : (len + (m - len)) * Try.prog.bytesOf 40 ≤ reachBytes := hw _ (by simp [DataW.weights, Try.underlying22])
    have h2 : m ≤ 140737488351232 := by
      have e1 : len + (m - len) = m := by omega
      rw [e1] at h1
      have e2 : m * 1 ≤ m * Try.prog.bytesOf 40 := Nat.mul_le_mul_left _ (by decide +kernel)
      have e3 : reachBytes = 140737488351232 := rfl
      omega
    have each : ∀ i, i < len → ∃ z : Int × Option Addr × Nat × Nat × (Nat → Int), w.cell? (a.add (i * 2)) = some (.int .i64 z.1) ∧ w.cell? (a.add (i * 2 + 1)) = some (.slice z.2.1 z.2.2.1 z.2.2.2.1) ∧ z.2.2.1 ≤ z.2.2.2.1 ∧ IntsAt w.heap.size w (.slice z.2.1 z.2.2.1 z.2.2.2.1) z.2.2.1 z.2.2.2.2 := fun i hi => by
      obtain ⟨ys, n, hD, hP, hyl, hf⟩ := hcell i (by omega)
      obtain ⟨v0, y0, c0, g0, t0⟩ := hf 0 _ rfl
      obtain ⟨v2, y2, c2, g2, t2⟩ := hf 1 _ rfl
      obtain ⟨k0, e0, _⟩ := DataW.trod_int Try.underlying3 t0
      simp only [List.cons.injEq, and_true] at e0
      subst e0
      have hwi : ∀ n ∈ y2.1.weights Try.prog 25, n ≤ reachBytes := fun n hn => hw n (by
        simp only [DataW.weights, Try.underlying22, List.mem_cons, List.mem_append]
        refine Or.inr (Or.inl (weightsAll_mem (List.mem_map.2 ⟨i, by simpa using hi, rfl⟩) n ?_))
        rw [hD]
        simp only [DataW.weights, Try.underlying40]
        exact weightsEach_mem (j := 1) rfl (by rw [List.getElem?_map, g2]; rfl) n hn)
      have hli : ∀ p ∈ y2.2, p.block < w.heap.size := fun p hp => hlt p (by
        simp only [List.mem_append, List.mem_flatMap, List.mem_range]
        refine Or.inr ⟨i, by omega, ?_⟩
        rw [hP]
        exact List.mem_flatMap.2 ⟨y2, List.mem_of_getElem? g2, hp⟩)
      obtain ⟨a2, n2, cc, X2, e2, hcc, r2⟩ := open_ints_c (show _ = some (y2.1, y2.2) from t2) hwi hli
      simp only [List.cons.injEq, and_true] at e2
      subst e2
      exact ⟨(k0, a2, n2, cc, X2), c0, c2, hcc, r2⟩
    obtain ⟨Z0, hZ⟩ := Deep.choose_lt each
    refine ⟨some a, m, ⟨J, D0, Z, len, fun i => (Z0 i).1, fun i => (List.range (Z0 i).2.2.1).map (Z0 i).2.2.2.2⟩, rfl, ⟨some a, m, rfl, by simp only; omega, hl, fun h0 => ?_⟩, rfl, rfl, rfl⟩
    have hsp : a.spot = none := by
      have := (hZ 0 h0).1
      rw [Nat.zero_mul] at this
      have e0 : a.add 0 = a := rfl
      rw [e0] at this
      unfold World.cell? at this
      split at this
      · split at this
        · cases this
        · rename_i hs; cases hh : a.spot with
          | none => rfl
          | some _ => simp [hh] at hs
      · cases this
    obtain ⟨b, off, spot⟩ := a
    simp only at hsp
    subst hsp
    have hadd : ∀ k, (⟨b, off, none⟩ : Addr).add k = ⟨b, off + k, none⟩ := fun k => by unfold Addr.add; split <;> simp_all
    refine ⟨b, off, rfl, hlt (.cell b (off + 0)) ?_, fun i hi => ?_⟩
    · simp only [List.mem_append, MemPlace.row, List.mem_map, List.mem_range]
      exact Or.inl ⟨0, by simp only at h0; simp; omega, rfl⟩
    · obtain ⟨c0, c2, hcc, r2⟩ := hZ i hi
      rw [hadd] at c0 c2
      refine ⟨c0, (Z0 i).2.1, (Z0 i).2.2.2.1, ?_, ?_, ?_⟩
      · rw [Nat.add_assoc, c2]; simp
      · simpa using hcc
      · have := ints_list r2
        simpa using this

set_option maxRecDepth 100000 in
theorem open_show {w : World} {base : Nat} {v : Value} {d : DataW H} {ps : List MemPlace} (hv : Value.okWide Try.prog w .any base 24 v)
    (h : DataW.Trod enc Try.prog w 0 (fun _ => true) true 24 v d ps) (hw : ∀ n ∈ d.weights Try.prog 24, n ≤ reachBytes) (hlt : ∀ p ∈ ps, p.block < w.heap.size) :
    ∃ S, ShowAt w.heap.size w v S := by
  obtain ⟨v0, v1, v2, v3, y0, y1, y2, y3, n, rfl, rfl, rfl, h0, h1, h2, h3⟩ := open_agg4 Try.underlying24 (by kernel_rfl) (by kernel_rfl) hv h
  obtain ⟨k0, e0, _⟩ := DataW.trod_int Try.underlying3 h0
  obtain ⟨k1, e1, _⟩ := DataW.trod_int Try.underlying3 h1
  obtain ⟨k2, e2, _⟩ := DataW.trod_int Try.underlying3 h2
  have g : ∀ {j : Nat} {t : TypeId} {D : DataW H}, [3, 3, 3, 22][j]? = some t → [y0.1, y1.1, y2.1, y3.1][j]? = some D → ∀ n ∈ D.weights Try.prog t, n ≤ reachBytes := fun ht hd n hn => hw n (by
    simp only [DataW.weights, Try.underlying24]
    exact weightsEach_mem ht hd n hn)
  obtain ⟨a3, c3, S, e3, r3, s1, s2, s3⟩ := open_plates (show _ = some (y3.1, y3.2) from h3) (g (j := 3) rfl rfl) (fun p hp => hlt p (by simp [hp])) k0 k1 k2
  simp only [List.cons.injEq, and_true] at e0 e1 e2 e3
  subst e0; subst e1; subst e2; subst e3
  exact ⟨S, Nat.le_refl _, a3, c3, by rw [s1, s2, s3], r3⟩

set_option maxRecDepth 100000 in
theorem open_mark {w : World} {base : Nat} {v : Value} {d : DataW H} {ps : List MemPlace} (hv : Value.okWide Try.prog w .any base 46 v)
    (h : DataW.Trod enc Try.prog w 0 (fun _ => true) true 46 v d ps) : ∃ p j : Int, v = .agg #[.int .i64 p, .int .i64 j] := by
  obtain ⟨v0, v1, y0, y1, n, rfl, rfl, rfl, h0, h1⟩ := open_agg2 Try.underlying46 (by kernel_rfl) (by kernel_rfl) hv h
  obtain ⟨k0, e0, _⟩ := DataW.trod_int Try.underlying3 h0
  obtain ⟨k1, e1, _⟩ := DataW.trod_int Try.underlying3 h1
  simp only [List.cons.injEq, and_true] at e0 e1
  subst e0; subst e1
  exact ⟨k0, k1, rfl⟩

set_option maxRecDepth 100000 in
theorem open_fill {w : World} {v : Value} {base : Nat} {d : DataW H} {ps : List MemPlace} (hv : Value.okWide Try.prog w .any base 25 v)
    (h : DataW.Trod enc Try.prog w 0 (fun _ => true) true 25 v d ps) (hw : ∀ n ∈ d.weights Try.prog 25, n ≤ reachBytes) (hlt : ∀ p ∈ ps, p.block < w.heap.size) :
    ∃ F, LI w.heap.size w v F := by
  obtain ⟨n, x, hr⟩ := open_list1 hv h hw hlt
  refine ⟨(List.range n).map x, ?_⟩
  have := ints_list hr
  unfold LI
  rw [List.length_map, List.length_range]
  exact this

end
end Go.Proofs.Ytffnlimgjnhmpaa
