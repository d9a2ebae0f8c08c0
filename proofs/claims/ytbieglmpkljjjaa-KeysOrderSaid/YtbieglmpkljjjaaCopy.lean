/-
  CopyA: rows of numbers in memory of the call's own; append([]int{}, xs...).
-/
import Derived.Test.YtbieglmpkljjjaaWorks
namespace Go.Proofs.Ytbieglmpkljjjaa
open Go.RowKit

theorem own_cell {W : World} {base g n cap : Nat} {e : TypeId} {xs : List Value} (h : W.ownsRow base e 1 (.slice (some ⟨g, 0, none⟩) n cap) n xs) (j : Nat) {x : Value} (hj : xs[j]? = some x) : W.cell? ⟨g, j, none⟩ = some x := by
  have hl : j < n * 1 := by have := (List.getElem?_eq_some_iff.1 hj).1; rw [h.1] at this; exact this
  rw [World.ownsRow.cellAt h j hl]; exact hj

/-- r is a list of n numbers x; if there are any, alone in a block from lo on, below hi -/
def RowIn (w : World) (lo hi : Nat) (r : Value) (n : Nat) (x : Nat → Int) : Prop :=
  ∃ g cap, r = .slice (some ⟨g, 0, none⟩) n cap ∧ (0 < n → lo ≤ g ∧ g < hi ∧ ∃ cur, w.heap[g]? = some (Obj.cells cur 3 (0, 0)) ∧ n ≤ cap ∧ cap ≤ maxLen ∧ cur.size = cap ∧ ∀ i, i < n → cur[i]? = some (.int .i64 (x i)))

theorem RowIn.wider {w : World} {lo hi lo' hi' : Nat} {r : Value} {n : Nat} {x : Nat → Int} (h : RowIn w lo hi r n x) (h1 : lo' ≤ lo) (h2 : hi ≤ hi') : RowIn w lo' hi' r n x := by
  obtain ⟨g, cap, rfl, k⟩ := h
  exact ⟨g, cap, rfl, fun h0 => by obtain ⟨a, b, c⟩ := k h0; exact ⟨by omega, by omega, c⟩⟩
theorem RowIn.keep {w w' : World} {lo hi : Nat} {r : Value} {n : Nat} {x : Nat → Int} (h : RowIn w lo hi r n x) (hk : ∀ (k : Nat) (cur : Array Value), lo ≤ k → k < hi → w.heap[k]? = some (Obj.cells cur 3 (0, 0)) → w'.heap[k]? = w.heap[k]?) : RowIn w' lo hi r n x := by
  obtain ⟨g, cap, rfl, k⟩ := h
  exact ⟨g, cap, rfl, fun h0 => by obtain ⟨a, b, cur, c, d⟩ := k h0; exact ⟨a, b, cur, (hk g cur a b c).trans c, d⟩⟩
theorem RowIn.grow {w w' : World} {lo hi : Nat} {r : Value} {n : Nat} {x : Nat → Int} (h : RowIn w lo hi r n x) (hb : Below w.heap.size w w') : RowIn w' lo hi r n x :=
  h.keep fun k _ _ _ hg => hb.block k (Array.getElem?_eq_some_iff.1 hg).1
theorem RowIn.ints {w : World} {lo hi : Nat} {r : Value} {n : Nat} {x : Nat → Int} (h : RowIn w lo hi r n x) (hn : n ≤ 140737488351232) : IntsAt hi w r n x := by
  obtain ⟨g, cap, rfl, k⟩ := h
  exact ⟨_, cap, rfl, hn, fun h0 => by
    obtain ⟨a, b, cur, c, d, e, f, k⟩ := k h0
    exact ⟨g, 0, rfl, b, fun i hi => ⟨_, by rw [Nat.zero_add]; exact cell_blk c i (k i hi), rfl⟩⟩⟩
theorem RowIn.form {w : World} {lo hi : Nat} {r : Value} {n : Nat} {x : Nat → Int} (h : RowIn w lo hi r n x) : ∃ g cap, r = .slice (some ⟨g, 0, none⟩) n cap := by
  obtain ⟨g, cap, e, _⟩ := h; exact ⟨g, cap, e⟩

theorem append_zero (w : World) {P : Program} {t ty e : TypeId} {i : TypeInfo} (ht : P.underlying t = some (.slice e)) (hi : P.info? e = some i) (b : Addr) (A : Option Addr) (c : Nat) :
    (Builtin.append_ #[t, t] ty #[.slice (some b) 0 0, .slice A 0 c]).run P w = .ok (.slice (some b) 0 0) w := by
  cases A <;> simp [Builtin.append_, run_underlying ht, sizeOf, typeInfo, hi, Builtin.lenOf, Builtin.firstCells, storeCells, loadCells, loadCellsFrom]

/-- append([]int{}, xs...): nothing that was there turns -/
theorem clone_run (N : Nat) (w : World) (b0 : Addr) (hb0 : b0.off = 0 ∧ b0.spot = none) (A : Option Addr) (m c : Nat) (x : Nat → Int) (hi : IntsAt N w (.slice A m c) m x) (h40 : m ≤ 1000000) :
    ∃ v' w', (Builtin.append_ #[22, 22] 22 #[.slice (some b0) 0 0, .slice A m c]).run Try.prog w = .ok v' w' ∧ RowIn w' w.heap.size w'.heap.size v' m x ∧ Below w.heap.size w w' := by
  obtain ⟨i0, hi0, hz0, hz1, hz2⟩ := info_parts Try.infoInt
  obtain ⟨g0, o0, s0⟩ := b0
  obtain ⟨rfl, rfl⟩ := hb0
  obtain ⟨_, _, e, hm, hc⟩ := hi
  cases e
  rcases Nat.eq_zero_or_pos m with h0 | h0
  · subst h0
    exact ⟨_, _, append_zero _ Try.underlying22 hi0 _ _ _, ⟨g0, 0, rfl, fun h => absurd h (Nat.lt_irrefl 0)⟩, Below.refl _ _⟩
  · obtain ⟨b, off, rfl, hb, hr⟩ := hc h0
    obtain ⟨v', w', hrun, hown, hgrow⟩ := run_append_arg_grows (P := Try.prog) w 22 22 3 i0 (.int .i64 0) 1 8 Try.underlying22 hi0 hz0 hz1 hz2 rfl (by decide) ⟨g0, 0, none⟩ 0 0 [] rfl (fun j u hj => by simp at hj)
      ⟨b, off, none⟩ m c ((fromF m x).map (Value.int .i64)) (by simp [fromF])
      (fun j u hj => by
        have hjm : j < m := by
          have := (List.getElem?_eq_some_iff.1 hj).1
          simpa [fromF] using this
        obtain ⟨r, h1, rfl⟩ := hr j hjm
        have hu : u = .int .i64 (x j) := by
          rw [List.getElem?_map] at hj
          simp [fromF, hjm] at hj
          exact hj.symm
        have e : (⟨b, off, none⟩ : Addr).add j = ⟨b, off + j, none⟩ := by unfold Addr.add; split <;> simp_all
        rw [hu, e]
        exact h1)
      (by omega) (by unfold maxLen; omega) (by omega)
    rw [Nat.zero_add, List.nil_append] at hown
    refine ⟨v', w', hrun, ?_, (Below.refl _ _).grown hgrow (Nat.le_refl _) (fun k e => by cases e)⟩
    obtain ⟨_, ⟨_, h2⟩ | ⟨g, cap, cur, rfl, h3, h4, h5, h6, h7, h8⟩⟩ := hown
    · omega
    · refine ⟨g, cap, rfl, fun _ => ⟨h3, (Array.getElem?_eq_some_iff.1 h4).1, cur, h4, h5, h6, by omega, fun i hi => ?_⟩⟩
      have e : (cur.toList.take (m * 1))[i]? = some (.int .i64 (x i)) := by
        rw [h8, List.getElem?_map]
        simp [fromF, hi]
      rw [List.getElem?_take, if_pos (by omega)] at e
      simpa using e

theorem wp_clone (w : World) {o : Oper} {a : Act} {K : Act → World → Prop} {Q : Exit → Act → World → Prop} (s x : Operand)
    (ho : o.op = .call { callee := .builtin .append, args := #[s, x], argTypes := #[22, 22] }) (hty : o.type = 22)
    (N g : Nat) (A : Option Addr) (m c : Nat) (X : Nat → Int) (hs : a.eval s = .slice (some ⟨g, 0, none⟩) 0 0) (hx : a.eval x = .slice A m c)
    (hi : IntsAt N w (.slice A m c) m X) (h40 : m ≤ 1000000)
    (h : ∀ v' w', RowIn w' w.heap.size w'.heap.size v' m X → Below w.heap.size w w' → K (a.put o.dst v') w') : o.wp Try.prog a w K Q := by
  obtain ⟨v', w', hrun, r1, r2⟩ := clone_run N w ⟨g, 0, none⟩ ⟨rfl, rfl⟩ A m c X hi h40
  unfold Oper.wp
  simp [execOp, ho, resolve, invoke, builtin, hs, hx, hty, hrun, Result.andThen]
  exact h v' w' r1 r2

theorem wpList_clone (w : World) {ops : Array Oper} {rest : List Oper} {o : Oper} {a : Act} {Q : Exit → Act → World → Prop} (hgd : o.guard = none) (s x : Operand)
    (ho : o.op = .call { callee := .builtin .append, args := #[s, x], argTypes := #[22, 22] }) (hty : o.type = 22)
    (N g : Nat) (A : Option Addr) (m c : Nat) (X : Nat → Int) (hs : a.eval s = .slice (some ⟨g, 0, none⟩) 0 0) (hx : a.eval x = .slice A m c)
    (hi : IntsAt N w (.slice A m c) m X) (h40 : m ≤ 1000000)
    (h : ∀ v' w', RowIn w' w.heap.size w'.heap.size v' m X → Below w.heap.size w w' → wpList Try.prog ops Q rest (a.put o.dst v') w') : wpList Try.prog ops Q (o :: rest) a w :=
  wpList_plain hgd fun K hK => wp_clone w s x ho hty N g A m c X hs hx hi h40 fun v' w' r1 r2 => hK _ _ (h v' w' r1 r2)

/-- rows of numbers of the call's own: a list v of n rows, row j in a block from M j on, below M (j + 1) -/
def RowsIn (w : World) (lo hi : Nat) (v : Value) (n : Nat) (L : Nat → Nat) (x : Nat → Nat → Int) : Prop :=
  ∃ (rows : List Value) (M : Nat → Nat), w.ownsRow lo 22 1 v n rows ∧ (∀ g, v.ownBlock = some g → g < hi) ∧ rows.length = n ∧ lo ≤ M 0 ∧ M n ≤ hi ∧ (∀ j, j < n → M j ≤ M (j + 1)) ∧ ∀ j, j < n → ∃ r, rows[j]? = some r ∧ RowIn w (M j) (M (j + 1)) r (L j) (x j)

theorem mono_M {M : Nat → Nat} {n : Nat} (h : ∀ j, j < n → M j ≤ M (j + 1)) : ∀ i j, i ≤ j → j ≤ n → M i ≤ M j := by
  intro i j hij
  induction j with
  | zero => intro _; rw [show i = 0 by omega]; exact Nat.le_refl _
  | succ j ih =>
    intro hj
    rcases Nat.lt_or_ge i (j + 1) with h1 | h1
    · exact Nat.le_trans (ih (by omega) (by omega)) (h j (by omega))
    · rw [show i = j + 1 by omega]; exact Nat.le_refl _

theorem RowsIn.rows {w : World} {lo hi : Nat} {v : Value} {n : Nat} {L : Nat → Nat} {x : Nat → Nat → Int} (h : RowsIn w lo hi v n L x) (hhi : hi ≤ w.heap.size) (hn : n ≤ 140737488351232) (hL : ∀ j, j < n → L j ≤ 140737488351232) : RowsAt w.heap.size w v n L x := by
  obtain ⟨rows, M, ho, _, hlen, _, hM, hm, hr⟩ := h
  obtain ⟨h1, ⟨rfl, h2⟩ | ⟨g, cap, cur, rfl, h3, h4, h5⟩⟩ := id ho
  · exact ⟨none, 0, by rw [h2], hn, fun h0 => by omega⟩
  · refine ⟨_, cap, rfl, hn, fun _ => ⟨g, 0, rfl, (Array.getElem?_eq_some_iff.1 h4).1, fun j hj => ?_⟩⟩
    obtain ⟨r, hr1, hr2⟩ := hr j hj
    have := mono_M hm (j + 1) n (by omega) (Nat.le_refl _)
    refine ⟨r, by rw [Nat.zero_add]; exact own_cell ho j hr1, (hr2.wider (Nat.le_refl _) (by omega)).ints (hL j hj)⟩

theorem rowsIn_nil (w : World) (n : Nat) (L : Nat → Nat) (x : Nat → Nat → Int) (lo hi : Nat) (h : lo ≤ hi) (h0 : n = 0) : RowsIn w lo hi (.slice none 0 0) n L x := by
  subst h0
  exact ⟨[], fun _ => lo, World.ownsRow_nil _ _ _ _, (fun g hg => by cases hg), rfl, Nat.le_refl _, h, fun j hj => absurd hj (Nat.not_lt_zero j), fun j hj => absurd hj (Nat.not_lt_zero j)⟩

theorem own_other {w : World} {lo : Nat} {v : Value} {n : Nat} {xs : List Value} (h : w.ownsRow lo 22 1 v n xs) {g : Nat} {cur : Array Value} (hg : w.heap[g]? = some (Obj.cells cur 3 (0, 0))) : some g ≠ v.ownBlock := by
  intro e
  obtain ⟨_, ⟨rfl, _⟩ | ⟨g', cap, cur', rfl, _, hh, _⟩⟩ := h
  · cases e
  · obtain rfl : g = g' := by simpa [Value.ownBlock] using e
    rw [hh] at hg
    injection hg with hg
    injection hg with _ ht
    exact absurd ht (by decide)

theorem RowsIn.keep {w w' : World} {lo hi : Nat} {v : Value} {n : Nat} {L : Nat → Nat} {x : Nat → Nat → Int} (h : RowsIn w lo hi v n L x)
    (hk : ∀ (k : Nat) (cs : Array Value) (t : TypeId), lo ≤ k → k < hi → t = 3 ∨ t = 22 → w.heap[k]? = some (Obj.cells cs t (0, 0)) → w'.heap[k]? = w.heap[k]?) : RowsIn w' lo hi v n L x := by
  obtain ⟨rows, M, ho, hb, hlen, h0, hM, hm, hr⟩ := h
  have hMm := mono_M hm
  refine ⟨rows, M, ?_, hb, hlen, h0, hM, hm, fun j hj => ?_⟩
  · obtain ⟨h1, h2 | ⟨g, cap, cur, rfl, h3, h4, h5⟩⟩ := ho
    · exact ⟨h1, .inl h2⟩
    · exact ⟨h1, .inr ⟨g, cap, cur, rfl, h3, (hk g cur _ h3 (hb g rfl) (.inr rfl) h4).trans h4, h5⟩⟩
  · obtain ⟨r, hr1, hr2⟩ := hr j hj
    have e1 := hMm 0 j (Nat.zero_le _) (by omega)
    have e2 := hMm (j + 1) n (by omega) (Nat.le_refl _)
    exact ⟨r, hr1, hr2.keep fun k cur k1 k2 k3 => hk k cur _ (by omega) (by omega) (.inl rfl) k3⟩
theorem RowsIn.grow {w w' : World} {lo hi : Nat} {v : Value} {n : Nat} {L : Nat → Nat} {x : Nat → Nat → Int} (h : RowsIn w lo hi v n L x) (hb : Below w.heap.size w w') : RowsIn w' lo hi v n L x :=
  h.keep fun k _ _ _ _ _ hg => hb.block k (Array.getElem?_eq_some_iff.1 hg).1
theorem RowsIn.wider {w : World} {lo hi hi' : Nat} {v : Value} {n : Nat} {L : Nat → Nat} {x : Nat → Nat → Int} (h : RowsIn w lo hi v n L x) (h1 : hi ≤ hi') : RowsIn w lo hi' v n L x := by
  obtain ⟨rows, M, ho, hb, hlen, h0, hM, hm, hr⟩ := h
  exact ⟨rows, M, ho, fun g hg => Nat.lt_of_lt_of_le (hb g hg) h1, hlen, h0, Nat.le_trans hM h1, hm, hr⟩
theorem RowsIn.lower {w : World} {lo lo' hi : Nat} {v : Value} {n : Nat} {L : Nat → Nat} {x : Nat → Nat → Int} (h : RowsIn w lo hi v n L x) (h1 : lo' ≤ lo) : RowsIn w lo' hi v n L x := by
  obtain ⟨rows, M, ⟨k1, k2⟩, hb, hlen, h0, hM, hm, hr⟩ := h
  refine ⟨rows, M, ⟨k1, ?_⟩, hb, hlen, Nat.le_trans h1 h0, hM, hm, hr⟩
  rcases k2 with k2 | ⟨g, cap, cur, e, k3, k4⟩
  · exact .inl k2
  · exact .inr ⟨g, cap, cur, e, Nat.le_trans h1 k3, k4⟩
theorem RowsIn.form {w : World} {lo hi : Nat} {v : Value} {n : Nat} {L : Nat → Nat} {x : Nat → Nat → Int} (h : RowsIn w lo hi v n L x) : ∃ ao cap, v = .slice ao n cap := by
  obtain ⟨rows, M, ⟨h1, ⟨rfl, h2⟩ | ⟨g, cap, cur, rfl, _⟩⟩, _⟩ := h
  · exact ⟨none, 0, by rw [h2]⟩
  · exact ⟨_, _, rfl⟩

/-- one more row: made behind all that there is (wr to w1), then appended (w1 to w2) -/
theorem rowsIn_step {wr w1 w2 : World} {lo : Nat} {v' r : Value} {k : Nat} {L : Nat → Nat} {x : Nat → Nat → Int} {rows : List Value} {M : Nat → Nat}
    (hlen : rows.length = k) (h0 : lo ≤ M 0) (hM : M k ≤ wr.heap.size) (hm : ∀ j, j < k → M j ≤ M (j + 1)) (hr : ∀ j, j < k → ∃ r, rows[j]? = some r ∧ RowIn wr (M j) (M (j + 1)) r (L j) (x j))
    (hb : Below wr.heap.size wr w1) (hrow : RowIn w1 wr.heap.size w1.heap.size r (L k) (x k))
    (hown : w2.ownsRow lo 22 1 v' (k + 1) (rows ++ [r])) (hkeep : ∀ (g : Nat) (cur : Array Value), w1.heap[g]? = some (Obj.cells cur 3 (0, 0)) → w2.heap[g]? = w1.heap[g]?) (hsz : w1.heap.size ≤ w2.heap.size) :
    RowsIn w2 lo w2.heap.size v' (k + 1) L x := by
  have hMm := mono_M hm
  refine ⟨rows ++ [r], fun j => if j ≤ k then (if j = k then wr.heap.size else M j) else w1.heap.size, hown, fun g hg => (hown.lt g hg).2, by simp [hlen], ?_, ?_, ?_, ?_⟩
  · have := hMm 0 k (Nat.zero_le _) (Nat.le_refl _)
    show lo ≤ if 0 ≤ k then (if 0 = k then wr.heap.size else M 0) else w1.heap.size
    rw [if_pos (Nat.zero_le _)]
    split
    · omega
    · exact h0
  · simp only
    rw [if_neg (by omega)]; exact hsz
  · intro j hj
    have hs := hb.size
    by_cases h1 : j = k
    · subst h1; simp only [Nat.le_refl, if_true]; rw [if_neg (by omega)]; exact hs
    · have h2 := hm j (by omega)
      have h3 := hMm (j + 1) k (by omega) (Nat.le_refl _)
      simp only
      rw [if_pos (by omega), if_neg h1, if_pos (by omega)]
      split
      · omega
      · exact h2
  · intro j hj
    by_cases h1 : j = k
    · subst h1
      refine ⟨r, by simp [hlen], ?_⟩
      simp only [Nat.le_refl, if_true]
      rw [if_neg (by omega)]
      exact hrow.keep fun g cur _ _ hg => hkeep g cur hg
    · obtain ⟨q, hq, hrq⟩ := hr j (by omega)
      refine ⟨q, by rw [List.getElem?_append_left (by omega)]; exact hq, ?_⟩
      have h3 := hMm (j + 1) k (by omega) (Nat.le_refl _)
      have hlt : ∀ g, g < M (j + 1) → w1.heap[g]? = wr.heap[g]? := fun g hg => hb.block g (by omega)
      have hk2 : RowIn w2 (M j) (M (j + 1)) q (L j) (x j) := hrq.keep fun g cur _ hg2 hg3 => by
        have e1 := hlt g hg2
        rw [hkeep g cur (e1.trans hg3), e1]
      simp only
      rw [if_pos (by omega), if_neg h1, if_pos (by omega)]
      refine hk2.wider (Nat.le_refl _) ?_
      split
      · rename_i he; rw [he]; exact hM
      · exact Nat.le_refl _

theorem frozen_blk {w : World} {g : Nat} {cs : Array Value} {t : TypeId} (h : w.heap[g]? = some (Obj.cells cs t (0, 0))) : ∀ i, w.frozen? ⟨g, i, none⟩ = false := fun i => by
  simp [World.frozen?, h]

theorem own_formG {w : World} {lo : Nat} {e : TypeId} {size : Nat} {v : Value} {n : Nat} {xs : List Value} (h : w.ownsRow lo e size v n xs) : ∃ ao cap, v = .slice ao n cap := by
  obtain ⟨h1, ⟨rfl, rfl⟩ | ⟨g, cap, cur, rfl, _⟩⟩ := h
  · exact ⟨none, 0, rfl⟩
  · exact ⟨_, _, rfl⟩

theorem own_keep {w w' : World} {lo : Nat} {e : TypeId} {size : Nat} {v : Value} {n : Nat} {xs : List Value} (h : w.ownsRow lo e size v n xs)
    (hk : ∀ (g : Nat) (cur : Array Value), w.heap[g]? = some (Obj.cells cur e (0, 0)) → w'.heap[g]? = w.heap[g]?) : w'.ownsRow lo e size v n xs := by
  obtain ⟨h1, h2 | ⟨g, cap, cur, rfl, h3, h4, h5⟩⟩ := h
  · exact ⟨h1, .inl h2⟩
  · exact ⟨h1, .inr ⟨g, cap, cur, rfl, h3, (hk g cur h4).trans h4, h5⟩⟩

theorem own_apart {w : World} {lo : Nat} {e : TypeId} {size : Nat} {v : Value} {n : Nat} {xs : List Value} (h : w.ownsRow lo e size v n xs) {g : Nat} {cur : Array Value} {t : TypeId} (hg : w.heap[g]? = some (Obj.cells cur t (0, 0))) (hne : e ≠ t) : some g ≠ v.ownBlock := by
  intro he
  obtain ⟨_, ⟨rfl, _⟩ | ⟨g', cap, cur', rfl, _, hh, _⟩⟩ := h
  · cases he
  · obtain rfl : g = g' := by simpa [Value.ownBlock] using he
    rw [hh] at hg
    injection hg with hg
    injection hg with _ ht
    exact hne ht

theorem keep_blk {w w' : World} {g : Nat} {o : Obj} (hb : Below w.heap.size w w') (h : w.heap[g]? = some o) : w'.heap[g]? = some o :=
  (hb.block g (Array.getElem?_eq_some_iff.1 h).1).trans h

end Go.Proofs.Ytbieglmpkljjjaa

namespace Go.Proofs.Ytbieglmpkljjjaa
open Go.RowKit

/-- the cell j of nodes whose lists are r -/
def ndCell (D : Nd) (r : Nat → Value) (j : Nat) : Value := if j % 3 = 0 then .int .i64 (D.M (j / 3)) else if j % 3 = 1 then .int .i64 (D.S (j / 3)) else r (j / 3)
theorem ndCell0 (D : Nd) (r : Nat → Value) (i : Nat) : ndCell D r (i * 3) = .int .i64 (D.M i) := by
  unfold ndCell; rw [if_pos (by omega), show i * 3 / 3 = i by omega]
theorem ndCell1 (D : Nd) (r : Nat → Value) (i : Nat) : ndCell D r (i * 3 + 1) = .int .i64 (D.S i) := by
  unfold ndCell; rw [if_neg (by omega), if_pos (by omega), show (i * 3 + 1) / 3 = i by omega]
theorem ndCell2 (D : Nd) (r : Nat → Value) (i : Nat) : ndCell D r (i * 3 + 2) = r i := by
  unfold ndCell; rw [if_neg (by omega), if_neg (by omega), show (i * 3 + 2) / 3 = i by omega]

/-- nodes of the call's own, in a block from lo on; the lists of the first k lie behind it, one behind the other, below hi -/
def NodesIn (w : World) (lo hi : Nat) (v : Value) (D : Nd) (k : Nat) : Prop :=
  ∃ (g cap : Nat) (r : Nat → Value) (M : Nat → Nat), v = .slice (some ⟨g, 0, none⟩) D.n cap ∧ lo ≤ g ∧ g < M 0 ∧ M k ≤ hi ∧ (∀ j, j < k → M j ≤ M (j + 1)) ∧
    (0 < D.n → ∃ cur, w.heap[g]? = some (.cells cur 41 (0, 0)) ∧ ∀ j, j < 3 * D.n → cur[j]? = some (ndCell D r j)) ∧ ∀ i, i < k → RowIn w (M i) (M (i + 1)) (r i) (D.q i) (D.T i)

theorem NodesIn.form {w : World} {lo hi : Nat} {v : Value} {D : Nd} {k : Nat} (h : NodesIn w lo hi v D k) : ∃ g cap, v = .slice (some ⟨g, 0, none⟩) D.n cap := by
  obtain ⟨g, cap, _, _, e, _⟩ := h; exact ⟨g, cap, e⟩
theorem NodesIn.wider {w : World} {lo hi lo' hi' : Nat} {v : Value} {D : Nd} {k : Nat} (h : NodesIn w lo hi v D k) (h1 : lo' ≤ lo) (h2 : hi ≤ hi') : NodesIn w lo' hi' v D k := by
  obtain ⟨g, cap, r, M, e, k1, k2, k3, k4⟩ := h
  exact ⟨g, cap, r, M, e, by omega, k2, by omega, k4⟩
theorem NodesIn.keep {w w' : World} {lo hi : Nat} {v : Value} {D : Nd} {k : Nat} (h : NodesIn w lo hi v D k)
    (hk : ∀ (j : Nat) (cs : Array Value) (t : TypeId), lo ≤ j → j < hi → t = 3 ∨ t = 41 → w.heap[j]? = some (Obj.cells cs t (0, 0)) → w'.heap[j]? = w.heap[j]?) : NodesIn w' lo hi v D k := by
  obtain ⟨g, cap, r, M, e, k1, k2, k3, k4, k5, k6⟩ := h
  have hm := mono_M k4
  have h0 := hm 0 k (Nat.zero_le _) (Nat.le_refl _)
  refine ⟨g, cap, r, M, e, k1, k2, k3, k4, fun hp => ?_, fun i hi => ?_⟩
  · obtain ⟨cur, a, b⟩ := k5 hp
    exact ⟨cur, (hk g cur _ k1 (by omega) (.inr rfl) a).trans a, b⟩
  · have e1 := hm 0 i (Nat.zero_le _) (by omega)
    have e2 := hm (i + 1) k (by omega) (Nat.le_refl _)
    exact (k6 i hi).keep fun j cur a b c => hk j cur _ (by omega) (by omega) (.inl rfl) c
theorem NodesIn.grow {w w' : World} {lo hi : Nat} {v : Value} {D : Nd} {k : Nat} (h : NodesIn w lo hi v D k) (hb : Below w.heap.size w w') : NodesIn w' lo hi v D k :=
  h.keep fun j _ _ _ _ _ hg => hb.block j (Array.getElem?_eq_some_iff.1 hg).1
theorem NodesIn.nodes {w : World} {lo hi : Nat} {v : Value} {D : Nd} (h : NodesIn w lo hi v D D.n) (hn : D.n ≤ 1000000) (hq : ∀ i, i < D.n → D.q i ≤ 1000000) : NodesAt hi w v D := by
  obtain ⟨g, cap, r, M, rfl, k1, k2, k3, k4, k5, k6⟩ := h
  have hm := mono_M k4
  have h0 := hm 0 D.n (Nat.zero_le _) (Nat.le_refl _)
  refine ⟨_, cap, rfl, by omega, fun hp => ⟨g, 0, rfl, by omega, fun i hi => ?_⟩⟩
  obtain ⟨cur, a, b⟩ := k5 hp
  have e2 := hm (i + 1) D.n (by omega) (Nat.le_refl _)
  rw [Nat.zero_add]
  exact ⟨cell_blk a _ (by rw [b _ (by omega), ndCell0]), cell_blk a _ (by rw [b _ (by omega), ndCell1]), r i, cell_blk a _ (by rw [b _ (by omega), ndCell2]), ((k6 i hi).wider (Nat.le_refl _) (Nat.le_trans e2 k3)).ints (by have := hq i hi; omega)⟩

theorem Try.infoNode : (Try.prog.info? 41).map (fun i => (i.zero, i.size, i.bytes)) = some (some (.agg #[.int .i64 0, .int .i64 0, .slice none 0 0]), 3, 40) := by kernel_rfl

/-- append([]api.KeyNode{}, nodes...) -/
theorem cloneN_run (N : Nat) (w : World) (g0 : Nat) (hg0 : g0 < w.heap.size) (lo : Nat) (hlo : lo ≤ g0) (A : Option Addr) (c : Nat) (D : Nd) (hi : NodesAt N w (.slice A D.n c) D) (h40 : D.n ≤ 1000000) :
    ∃ v' w', (Builtin.append_ #[24, 24] 24 #[.slice (some ⟨g0, 0, none⟩) 0 0, .slice A D.n c]).run Try.prog w = .ok v' w' ∧ NodesIn w' lo w'.heap.size v' D 0 ∧ Below w.heap.size w w' := by
  obtain ⟨i0, hi0, hz0, hz1, hz2⟩ := info_parts Try.infoNode
  rcases Nat.eq_zero_or_pos D.n with h0 | h0
  · rw [h0]
    refine ⟨_, _, append_zero _ Try.underlying24 hi0 _ _ _, ⟨g0, 0, fun _ => undef, fun _ => w.heap.size, by rw [h0], hlo, hg0, Nat.le_refl _, fun j hj => absurd hj (Nat.not_lt_zero j), fun h => by omega, fun j hj => absurd hj (Nat.not_lt_zero j)⟩, Below.refl _ _⟩
  · obtain ⟨b, off, rfl, hb, hr⟩ := hi.cells h0
    obtain ⟨r, hr⟩ : ∃ r : Nat → Value, ∀ i, i < D.n → w.cell? ⟨b, off + i * 3, none⟩ = some (.int .i64 (D.M i)) ∧ w.cell? ⟨b, off + i * 3 + 1, none⟩ = some (.int .i64 (D.S i)) ∧ w.cell? ⟨b, off + i * 3 + 2, none⟩ = some (r i) :=
      ⟨fun i => (w.cell? ⟨b, off + i * 3 + 2, none⟩).getD undef, fun i hi => by obtain ⟨ai, ci, h1, h2, h3, _⟩ := hr i hi; exact ⟨h1, h2, by simp [h3]⟩⟩
    obtain ⟨v', w', hrun, hown, hgrow⟩ := run_append_arg_grows (P := Try.prog) w 24 24 41 i0 (.agg #[.int .i64 0, .int .i64 0, .slice none 0 0]) 3 40 Try.underlying24 hi0 hz0 hz1 hz2 rfl (by decide) ⟨g0, 0, none⟩ 0 0 [] rfl (fun j u hj => by simp at hj)
      ⟨b, off, none⟩ D.n c ((List.range (D.n * 3)).map (ndCell D r)) (by simp)
      (fun j u hj => by
        have hjm : j < D.n * 3 := by
          have := (List.getElem?_eq_some_iff.1 hj).1
          simpa using this
        have hu : u = ndCell D r j := by
          rw [List.getElem?_map] at hj
          simp [hjm] at hj
          exact hj.symm
        have e : (⟨b, off, none⟩ : Addr).add j = ⟨b, off + j, none⟩ := by unfold Addr.add; split <;> simp_all
        rw [hu, e]
        obtain ⟨h1, h2, h3⟩ := hr (j / 3) (by omega)
        unfold ndCell
        split
        · rw [show off + j = off + j / 3 * 3 by omega]; exact h1
        · split
          · rw [show off + j = off + j / 3 * 3 + 1 by omega]; exact h2
          · rw [show off + j = off + j / 3 * 3 + 2 by omega]; exact h3)
      (by omega) (by unfold maxLen; omega) (by omega)
    rw [Nat.zero_add, List.nil_append] at hown
    refine ⟨v', w', hrun, ?_, (Below.refl _ _).grown hgrow (Nat.le_refl _) (fun k e => by cases e)⟩
    obtain ⟨_, ⟨_, h2⟩ | ⟨g, cap, cur, rfl, h3, h4, h5, h6, h7, h8⟩⟩ := hown
    · omega
    · refine ⟨g, cap, r, fun _ => w'.heap.size, rfl, by omega, (Array.getElem?_eq_some_iff.1 h4).1, Nat.le_refl _, fun j hj => absurd hj (Nat.not_lt_zero j), fun _ => ⟨cur, h4, fun j hj => ?_⟩, fun j hj => absurd hj (Nat.not_lt_zero j)⟩
      have e : (cur.toList.take (D.n * 3))[j]? = some (ndCell D r j) := by
        rw [h8, List.getElem?_map]
        simp [show j < D.n * 3 by omega]
      rw [List.getElem?_take, if_pos (by omega)] at e
      simpa using e

theorem wp_cloneN (w : World) {o : Oper} {a : Act} {K : Act → World → Prop} {Q : Exit → Act → World → Prop} (s x : Operand)
    (ho : o.op = .call { callee := .builtin .append, args := #[s, x], argTypes := #[24, 24] }) (hty : o.type = 24)
    (N g lo : Nat) (A : Option Addr) (c : Nat) (D : Nd) (hs : a.eval s = .slice (some ⟨g, 0, none⟩) 0 0) (hx : a.eval x = .slice A D.n c)
    (hi : NodesAt N w (.slice A D.n c) D) (h40 : D.n ≤ 1000000) (hg : g < w.heap.size) (hlo : lo ≤ g)
    (h : ∀ v' w', NodesIn w' lo w'.heap.size v' D 0 → Below w.heap.size w w' → K (a.put o.dst v') w') : o.wp Try.prog a w K Q := by
  obtain ⟨v', w', hrun, r1, r2⟩ := cloneN_run N w g hg lo hlo A c D hi h40
  unfold Oper.wp
  simp [execOp, ho, resolve, invoke, builtin, hs, hx, hty, hrun, Result.andThen]
  exact h v' w' r1 r2

theorem wpList_cloneN (w : World) {ops : Array Oper} {rest : List Oper} {o : Oper} {a : Act} {Q : Exit → Act → World → Prop} (hgd : o.guard = none) (s x : Operand)
    (ho : o.op = .call { callee := .builtin .append, args := #[s, x], argTypes := #[24, 24] }) (hty : o.type = 24)
    (N g lo : Nat) (A : Option Addr) (c : Nat) (D : Nd) (hs : a.eval s = .slice (some ⟨g, 0, none⟩) 0 0) (hx : a.eval x = .slice A D.n c)
    (hi : NodesAt N w (.slice A D.n c) D) (h40 : D.n ≤ 1000000) (hg : g < w.heap.size) (hlo : lo ≤ g)
    (h : ∀ v' w', NodesIn w' lo w'.heap.size v' D 0 → Below w.heap.size w w' → wpList Try.prog ops Q rest (a.put o.dst v') w') : wpList Try.prog ops Q (o :: rest) a w :=
  wpList_plain hgd fun K hK => wp_cloneN w s x ho hty N g lo A c D hs hx hi h40 hg hlo fun v' w' r1 r2 => hK _ _ (h v' w' r1 r2)

/-- the list of node k is made (w to w1), then stored (w1 to w1.setCell ..) -/
theorem nodesIn_step {w w1 : World} {lo g cap k : Nat} {D : Nd} {r : Nat → Value} {M : Nat → Nat} {v' : Value}
    (k1 : lo ≤ g) (k2 : g < M 0) (k3 : M k ≤ w.heap.size) (k4 : ∀ j, j < k → M j ≤ M (j + 1)) {cur : Array Value} (a : w1.heap[g]? = some (.cells cur 41 (0, 0))) (b : ∀ j, j < 3 * D.n → cur[j]? = some (ndCell D r j))
    (k6 : ∀ i, i < k → RowIn w1 (M i) (M (i + 1)) (r i) (D.q i) (D.T i)) (hk : k < D.n) (hs : w.heap.size ≤ w1.heap.size) (hrow : RowIn w1 w.heap.size w1.heap.size v' (D.q k) (D.T k)) :
    NodesIn (w1.setCell ⟨g, k * 3 + 2, none⟩ v') lo (w1.setCell ⟨g, k * 3 + 2, none⟩ v').heap.size (.slice (some ⟨g, 0, none⟩) D.n cap) D (k + 1) := by
  have hsz : (w1.setCell ⟨g, k * 3 + 2, none⟩ v').heap.size = w1.heap.size := by simp [World.setCell]
  have hoth : ∀ (j : Nat) (cs : Array Value), w1.heap[j]? = some (Obj.cells cs 3 (0, 0)) → (w1.setCell ⟨g, k * 3 + 2, none⟩ v').heap[j]? = w1.heap[j]? := fun j cs hj => Below.heap_setCell _ _ _ _ (by
    rintro rfl
    rw [hj] at a
    injection a with a
    injection a with _ a
    exact absurd a (by decide))
  have h0 := mono_M k4 0 k (Nat.zero_le _) (Nat.le_refl _)
  rw [hsz]
  refine ⟨g, cap, fun i => if i = k then v' else r i, fun j => if j ≤ k then M j else w1.heap.size, rfl, k1, by simpa using k2, (by show (if k + 1 ≤ k then M (k + 1) else w1.heap.size) ≤ w1.heap.size; rw [if_neg (by omega)]; exact Nat.le_refl _), fun j hj => ?_, fun _ => ⟨cur.setIfInBounds (k * 3 + 2) v', ?_, fun j hj => ?_⟩, fun i hi => ?_⟩
  · simp only
    rw [if_pos (by omega)]
    split
    · exact k4 j (by omega)
    · have := mono_M k4 j k (by omega) (Nat.le_refl _); omega
  · simp [World.setCell, Array.getElem?_modify, a]
  · rw [Array.getElem?_setIfInBounds]
    have hj2 := b j hj
    by_cases h : k * 3 + 2 = j
    · subst h
      rw [if_pos rfl, if_pos (Array.getElem?_eq_some_iff.1 hj2).1, ndCell2, if_pos rfl]
    · rw [if_neg h, hj2]
      unfold ndCell
      split
      · rfl
      · split
        · rfl
        · simp only; rw [if_neg (by omega)]
  · simp only
    rw [if_pos (show i ≤ k by omega)]
    by_cases h : i = k
    · subst h
      rw [if_neg (by omega), if_pos rfl]
      exact (hrow.wider k3 (Nat.le_refl _)).keep fun j cs _ _ hj => hoth j cs hj
    · rw [if_pos (by omega), if_neg h]
      exact (k6 i (by omega)).keep fun j cs _ _ hj => hoth j cs hj

set_option maxRecDepth 100000 in
set_option maxHeartbeats 3200000 in
theorem copyNodes_any (N : Nat) (v : Value) (D : Nd) (w : World) (h : NodesAt N w v D) (hN : N ≤ w.heap.size) (hn : D.n ≤ 1000) (hq : ∀ i, i < D.n → D.q i ≤ 1000) :
    Calls Try.prog 76 #[v] w fun e w' => ∃ v', e = .returned v' ∧ NodesIn w' w.heap.size w'.heap.size v' D D.n ∧ Below w.heap.size w w' := by
  obtain ⟨a, c, rfl, _, _⟩ := id h
  have H := Lib.hid h
  have HQ := Lib.hid hq
  have HN := Lib.hid hN
  clear h hq hN
  go_enter Try.func76, Try.ntmps76
  go_wp2_with (at_builtin; refine wpList_cloneN _ ?_ (.tmp 5) (.tmp 6) ?_ ?_ N w.heap.size w.heap.size _ _ D ?_ ?_ (H.out.go HN.out (below_alloc (Nat.le_refl _) _)) (by omega) (by simp) (Nat.le_refl _) ?_; (any_goals (exact rfl)); intro v1 w1 hnd hb1; obtain ⟨g1, p1, rfl⟩ := hnd.form; have HND := Lib.hid hnd; have HB1 : Hid (Below w.heap.size w w1) := Lib.hid ((below_alloc (Nat.le_refl _) _).trans (hb1.mono (by simp))); clear hnd hb1)
  go_loopw [4] (fun i wr => ∃ k : Nat, k ≤ D.n ∧ i = .int .i64 k ∧ Hid (NodesIn wr w.heap.size wr.heap.size (.slice (some ⟨g1, 0, none⟩) D.n p1) D k) ∧ Hid (Below w.heap.size w wr)) (fun i _ => D.n - (intOf i).toNat)
  case atStart => exact ⟨0, Nat.zero_le _, rfl, HND, HB1⟩
  case round =>
    obtain ⟨k, hk, rfl, hrows, HBr⟩ := hrel
    by_cases hkn : k < D.n
    · have hki : (k : Int) < (D.n : Int) := by omega
      obtain ⟨g, cap, r, M, e, k1, k2, k3, k4, k5, k6⟩ := hrows.out
      cases e
      obtain ⟨cur, hcur, hcc⟩ := k5 (by omega)
      obtain ⟨b, off, rfl, hb, hcr⟩ := (H.out.go HN.out HBr.out).cells (by omega)
      obtain ⟨ai, ci, _, _, hcell, hints⟩ := hcr k hkn
      have HI := Lib.hid hints
      have HM : Hid (w.heap.size ≤ g1 ∧ g1 < M 0 ∧ M k ≤ wr.heap.size ∧ (∀ j, j < k → M j ≤ M (j + 1)) ∧ ∀ i, i < k → RowIn wr (M i) (M (i + 1)) (r i) (D.q i) (D.T i)) := ⟨k1, k2, k3, k4, k6⟩
      have HC : Hid (wr.heap[g1]? = some (.cells cur 41 (0, 0))) := hcur
      have HCC := Lib.hid hcc
      have hbw : b < wr.heap.size := Nat.lt_of_lt_of_le hb (Nat.le_trans HN.out HBr.out.size)
      clear k1 k2 k3 k4 k5 k6 hcur hcc hcr hints
      go_wp2_with (at_builtin; refine wpList_clone _ ?_ (.tmp 16) (.tmp 21) ?_ ?_ N wr.heap.size _ (D.q k) _ (D.T k) ?_ ?_ (HI.out.go (Nat.le_trans HN.out HBr.out.size) (below_alloc (Nat.le_refl _) _)) (by have := HQ.out k hkn; omega) ?_; (any_goals (exact rfl)); intro v1 w2 hrow hb2; obtain ⟨g2, p2, rfl⟩ := hrow.form; have HB2 : Hid (Below wr.heap.size wr w2) := Lib.hid ((below_alloc (Nat.le_refl _) _).trans (hb2.mono (by simp))); have HRW : Hid (RowIn w2 wr.heap.size w2.heap.size _ _ _) := Lib.hid (hrow.wider (by simp) (Nat.le_refl _)); have hc2 := keep_blk HB2.out HC.out; have HC2 := Lib.hid hc2; have s2 := cell_blk hc2 (k * 3 + 2) (by rw [HCC.out _ (by omega)]); have f2 := frozen_blk hc2 (k * 3 + 2); clear hrow hb2 hc2)
      go_roundw
      case rel =>
        obtain ⟨k1, k2, k3, k4, k6⟩ := HM.out
        refine ⟨k + 1, by omega, by go_num, ?_, ?_⟩
        · exact nodesIn_step k1 k2 k3 k4 HC2.out HCC.out (fun i hi => (k6 i hi).grow HB2.out) hkn HB2.out.size HRW.out
        · exact (HBr.out.trans (HB2.out.mono HBr.out.size)).setCell k1 _
      case measure => simp [intOf]; omega
    · have Hk : Hid (k = D.n) := by show k = _; omega
      have hki : ¬ (k : Int) < (D.n : Int) := by omega
      go_wp2
      go_ret
      exact ⟨_, rfl, by have hh := hrows.out; rw [Hk.out] at hh; exact hh, HBr.out⟩

end Go.Proofs.Ytbieglmpkljjjaa
