/-
  Each1: append of numbers to an own list; slices of a list; capacities of what came in.
-/
import Derived.Test.YtnnngbnimmcjiaaEach0
import Derived.Test.YtnnngbnimmcjiaaDataK
namespace Go.Proofs.Ytnnngbnimmcjiaa
open Go.RowKit Go.WideShapes Go.ChangeShapes Go.Joins Go.Deep

theorem fromF_len' (n : Nat) (x : Nat → Int) : (fromF n x).length = n := by simp [fromF]
theorem append_none0 (w : World) {P : Program} {t ty e : TypeId} {i : TypeInfo} (ht : P.underlying t = some (.slice e)) (hi : P.info? e = some i) {v : Value} {base n : Nat} {xs : List Value} (A : Option Addr) (c : Nat) (hown : w.ownsRow base e 1 v n xs) :
    (Builtin.append_ #[t, t] ty #[v, .slice A 0 c]).run P w = .ok v w := by
  rcases hown.2 with ⟨rfl, rfl⟩ | ⟨g, cap, cur, rfl, _, _, hnc, _⟩
  · cases A <;> simp [Builtin.append_, run_underlying ht, sizeOf, typeInfo, hi, Builtin.lenOf, Builtin.firstCells, storeCells, loadCells, loadCellsFrom]
  · cases A <;> simp [Builtin.append_, run_underlying ht, sizeOf, typeInfo, hi, Builtin.lenOf, Builtin.firstCells, hnc, storeCells, loadCells, loadCellsFrom]
theorem grown_refl (w : World) (r : Option Nat) : w.grownBy w r := ⟨rfl, rfl, rfl, Nat.le_refl _, fun _ _ _ => rfl⟩

/-- append(l, xs...) of numbers -/
theorem wp_appendInts (w : World) {o : Oper} {a : Act} {K : Act → World → Prop} {Q : Exit → Act → World → Prop} (s x : Operand)
    (ho : o.op = .call { callee := .builtin .append, args := #[s, x], argTypes := #[22, 22] })
    (base : Nat) (v : Value) (l : List Int) (hs : a.eval s = v) (hown : OwnI base w v l) (N : Nat) (A : Option Addr) (m c : Nat) (X : Nat → Int) (hx : a.eval x = .slice A m c)
    (hi : IntsAt N w (.slice A m c) m X) (h40 : l.length + m ≤ 1000000) (hbase : base ≤ w.heap.size)
    (h : ∀ v' w', OwnI base w' v' (l ++ fromF m X) → Below base w w' → K (a.put o.dst v') w') : o.wp Try.prog a w K Q := by
  obtain ⟨i0, hi0, hz0, hz1, hz2⟩ := info_parts Try.infoInt
  rcases Nat.eq_zero_or_pos m with h0 | h0
  · subst h0
    have hrun := append_none0 w (P := Try.prog) (ty := o.type) Try.underlying22 hi0 A c hown
    have hk := h v w (by simpa [fromF] using hown) (Below.refl _ _)
    unfold Oper.wp execOp
    simp only [ho, resolve, invoke, builtin, Sem.run_bind, Sem.run_pure, Result.andThen_ok, List.map_toArray, List.map_cons, List.map_nil, hs, hx, hrun]
    exact hk
  · obtain ⟨b, off, e, hb, hr⟩ := hi.cells h0
    cases e
    refine wp_append_own w s x 22 ho base 3 i0 (.int .i64 0) 1 8 Try.underlying22 hi0 hz0 hz1 hz2 rfl (by decide) v l.length _ hs hown ⟨b, off, none⟩ m c ((fromF m X).map (Value.int .i64)) hx (by simp [fromF]) (fun j u hj => ?_) (by simp [Value.oneCell']) (by unfold maxLen; omega) (by omega) hbase fun v' w' h1 h2 _ => h v' w' ?_ ((Below.refl _ _).grown h2 hbase fun j e => (hown.lt j e).1)
    · have hjm : j < m := by
        have := (List.getElem?_eq_some_iff.1 hj).1
        simpa [fromF] using this
      have hu : u = .int .i64 (X j) := by
        rw [List.getElem?_map] at hj
        simp [fromF, hjm] at hj
        exact hj.symm
      have e : (⟨b, off, none⟩ : Addr).add j = ⟨b, off + j, none⟩ := by unfold Addr.add; split <;> simp_all
      rw [hu, e]
      exact hr j hjm
    · unfold OwnI
      rw [List.length_append, List.map_append, fromF_len']
      exact h1
theorem own_empty {W : World} {base g : Nat} (hg : base ≤ g) (h : W.heap[g]? = some (.cells #[] 3)) : OwnI base W (.slice (some ⟨g, 0, none⟩) 0 0) [] :=
  ⟨rfl, .inr ⟨g, 0, #[], rfl, hg, h, Nat.le_refl _, by unfold maxLen; omega, rfl, rfl⟩⟩
theorem own_list {N : Nat} {w : World} {v : Value} {l : List Int} {n : Nat} {x : Nat → Int} (h : OwnI N w v l) (hl : l = fromF n x) (hn : n ≤ 1000) : IntsAt w.heap.size w v n x := by
  subst hl
  have h1 := h.ints (by rw [fromF_len']; omega)
  rw [fromF_len'] at h1
  obtain ⟨ao, cap, rfl, h1, h2⟩ := h1
  refine ⟨ao, cap, rfl, h1, fun h0 => ?_⟩
  obtain ⟨b, off, rfl, hb, hr⟩ := h2 h0
  exact ⟨b, off, rfl, hb, fun i hi => by obtain ⟨r, h3, rfl⟩ := hr i hi; exact ⟨_, h3, by simp [fromF, hi]⟩⟩
theorem fromF_two (p q : Nat) (x y : Nat → Int) : fromF p x ++ fromF q y = fromF (p + q) (fun i => if i < p then x i else y (i - p)) := by
  apply List.ext_getElem
  · simp [fromF]
  · intro i h1 h2
    by_cases h : i < p
    · rw [List.getElem_append_left (by rw [fromF_len']; exact h)]; simp [fromF, h]
    · rw [List.getElem_append_right (by rw [fromF_len']; omega)]; simp [fromF, h]
theorem fromF_congr {n : Nat} {x y : Nat → Int} (h : ∀ i, i < n → x i = y i) : fromF n x = fromF n y := by
  unfold fromF
  exact List.map_congr_left fun i hi => h i (List.mem_range.1 hi)
theorem fromF_drop {n p : Nat} (x : Nat → Int) (hp : p < n) : ([] ++ fromF p x) ++ fromF (n - (p + 1)) (fun i => x (p + 1 + i)) = fromF (n - 1) (dropX x p) := by
  rw [List.nil_append, fromF_two, show p + (n - (p + 1)) = n - 1 by omega]
  refine fromF_congr fun i hi => ?_
  unfold dropX
  split
  · rfl
  · congr 1; omega

/-- the first ones of a list -/
theorem IntsAt.take {N : Nat} {w : World} {a : Option Addr} {c n : Nat} {x : Nat → Int} (h : IntsAt N w (.slice a n c) n x) {k : Nat} (hk : k ≤ n) : IntsAt N w (.slice a k c) k x := by
  obtain ⟨_, _, e, h1, h3⟩ := h
  cases e
  refine ⟨_, _, rfl, by omega, fun h0 => ?_⟩
  obtain ⟨b, off, e, hb, hr⟩ := h3 (by omega)
  exact ⟨b, off, e, hb, fun i hi => hr i (by omega)⟩
/-- .. and those behind some -/
theorem IntsAt.behind {N : Nat} {w : World} {b off c n : Nat} {x : Nat → Int} (h : IntsAt N w (.slice (some ⟨b, off, none⟩) n c) n x) {k : Nat} (hk : k ≤ n) (d : Nat) (ad : Addr) (had : k < n → ad = ⟨b, off + k, none⟩) : IntsAt N w (.slice (some ad) (n - k) d) (n - k) (fun i => x (k + i)) := by
  obtain ⟨_, _, e, h1, h3⟩ := h
  cases e
  refine ⟨_, _, rfl, by omega, fun h0 => ?_⟩
  obtain ⟨b', off', e, hb, hr⟩ := h3 (by omega)
  cases e
  exact ⟨b, off + k, by rw [had (by omega)], hb, fun i hi => by rw [Nat.add_assoc]; exact hr (k + i) (by omega)⟩

section
variable {H : Type} {enc : TypeId × Value → H}
set_option maxRecDepth 100000 in
theorem open_list1c {w : World} {v : Value} {base : Nat} {d : DataW H} {ps : List MemPlace} (hv : Value.okWide Try.prog w .any base 22 v)
    (h : DataW.Trod enc Try.prog w 0 (fun _ => true) true 22 v d ps) (hw : ∀ n ∈ d.weights Try.prog 22, n ≤ reachBytes) (hlt : ∀ p ∈ ps, p.block < w.heap.size) :
    ∃ a n c x, v = .slice a n c ∧ n ≤ c ∧ IntsAt w.heap.size w (.slice a n c) n x := by
  obtain ⟨fuel, h⟩ := h
  obtain ⟨ao, n, cap, X, hcs, hr⟩ := open_ints' Try.underlying22 Try.underlying3 (by kernel_rfl) (by decide +kernel) h hw hlt
  refine ⟨ao, n, cap, X, okWide_slice Try.underlying22 hv hcs, ?_, hr⟩
  rcases open_slice Try.underlying22 h with ⟨e, _⟩ | ⟨a, len, cap', m, n', D, Pl, e, hb, hl, _⟩
  · rw [hcs] at e; cases e; exact Nat.le_refl _
  · rw [hcs] at e; cases e; exact hl
end

end Go.Proofs.Ytnnngbnimmcjiaa
