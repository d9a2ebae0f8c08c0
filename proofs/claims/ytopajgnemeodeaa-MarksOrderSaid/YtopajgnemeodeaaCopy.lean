/-
  Lists in new memory: append([]int{}, xs...), and the chapter's CopyFruits.
-/
import Derived.Test.YtopajgnemeodeaaRefC
import Derived.ArgAppend
namespace Go.Proofs.Ytopajgnemeodeaa
open Go.RowKit

/-- r is a list of n numbers x; if there are any, alone in a block from lo on, below hi -/
def RowIn (w : World) (lo hi : Nat) (r : Value) (n : Nat) (x : Nat → Int) : Prop :=
  ∃ g cap, r = .slice (some ⟨g, 0, none⟩) n cap ∧ (0 < n → lo ≤ g ∧ g < hi ∧ ∃ cur, w.heap[g]? = some (Obj.cells cur 3 (0, 0)) ∧ n ≤ cap ∧ cap ≤ maxLen ∧ cur.size = cap ∧ ∀ i, i < n → cur[i]? = some (.int .i64 (x i)))

theorem RowIn.wider {w : World} {lo hi lo' hi' : Nat} {r : Value} {n : Nat} {x : Nat → Int} (h : RowIn w lo hi r n x) (h1 : lo' ≤ lo) (h2 : hi ≤ hi') : RowIn w lo' hi' r n x := by
  obtain ⟨g, cap, rfl, k⟩ := h
  exact ⟨g, cap, rfl, fun h0 => by obtain ⟨a, b, c⟩ := k h0; exact ⟨by omega, by omega, c⟩⟩
theorem RowIn.keep {w w' : World} {lo hi : Nat} {r : Value} {n : Nat} {x : Nat → Int} (h : RowIn w lo hi r n x) (hk : ∀ (k : Nat) (cur : Array Value), lo ≤ k → k < hi → w.heap[k]? = some (Obj.cells cur 3 (0, 0)) → w'.heap[k]? = w.heap[k]?) : RowIn w' lo hi r n x := by
  obtain ⟨g, cap, rfl, k⟩ := h
  exact ⟨g, cap, rfl, fun h0 => by obtain ⟨a, b, cur, c, d⟩ := k h0; exact ⟨a, b, cur, (hk g cur a b c).trans c, d⟩⟩
theorem RowIn.grow {w w' : World} {lo hi : Nat} {r : Value} {n : Nat} {x : Nat → Int} (h : RowIn w lo hi r n x) (hb : Below w.heap.size w w') : RowIn w' lo hi r n x :=
  h.keep fun k _ _ _ hg => hb.block k (Array.getElem?_eq_some_iff.1 hg).1
theorem RowIn.ints {w : World} {lo hi : Nat} {r : Value} {n : Nat} {x : Nat → Int} (h : RowIn w lo hi r n x) (hn : n ≤ 140737488351232) : IntsAt hi w r n x := by
  obtain ⟨g, cap, rfl, k⟩ := h
  exact ⟨_, cap, rfl, hn, fun h0 => by
    obtain ⟨a, b, cur, c, d, e, f, k⟩ := k h0
    exact ⟨g, 0, rfl, b, fun i hi => ⟨_, by rw [Nat.zero_add]; exact cell_blk c i (k i hi), rfl⟩⟩⟩
theorem RowIn.form {w : World} {lo hi : Nat} {r : Value} {n : Nat} {x : Nat → Int} (h : RowIn w lo hi r n x) : ∃ g cap, r = .slice (some ⟨g, 0, none⟩) n cap := by
  obtain ⟨g, cap, e, _⟩ := h; exact ⟨g, cap, e⟩

theorem append_zero (w : World) {P : Program} {t ty e : TypeId} {i : TypeInfo} (ht : P.underlying t = some (.slice e)) (hi : P.info? e = some i) (b : Addr) (A : Option Addr) (c : Nat) :
    (Builtin.append_ #[t, t] ty #[.slice (some b) 0 0, .slice A 0 c]).run P w = .ok (.slice (some b) 0 0) w := by
  cases A <;> simp [Builtin.append_, run_underlying ht, sizeOf, typeInfo, hi, Builtin.lenOf, Builtin.firstCells, storeCells, loadCells, loadCellsFrom]

/-- append([]int{}, xs...): nothing that was there turns -/
theorem clone_run (N : Nat) (w : World) (b0 : Addr) (hb0 : b0.off = 0 ∧ b0.spot = none) (A : Option Addr) (m c : Nat) (x : Nat → Int) (hi : IntsAt N w (.slice A m c) m x) (h40 : m ≤ 1000000) :
    ∃ v' w', (Builtin.append_ #[22, 22] 22 #[.slice (some b0) 0 0, .slice A m c]).run Try.prog w = .ok v' w' ∧ RowIn w' w.heap.size w'.heap.size v' m x ∧ Below w.heap.size w w' := by
  obtain ⟨i0, hi0, hz0, hz1, hz2⟩ := info_parts Try.infoInt
  obtain ⟨g0, o0, s0⟩ := b0
  obtain ⟨rfl, rfl⟩ := hb0
  obtain ⟨_, _, e, hm, hc⟩ := hi
  cases e
  rcases Nat.eq_zero_or_pos m with h0 | h0
  · subst h0
    exact ⟨_, _, append_zero _ Try.underlying22 hi0 _ _ _, ⟨g0, 0, rfl, fun h => absurd h (Nat.lt_irrefl 0)⟩, Below.refl _ _⟩
  · obtain ⟨b, off, rfl, hb, hr⟩ := hc h0
    obtain ⟨v', w', hrun, hown, hgrow⟩ := run_append_arg_grows (P := Try.prog) w 22 22 3 i0 (.int .i64 0) 1 8 Try.underlying22 hi0 hz0 hz1 hz2 rfl (by decide) ⟨g0, 0, none⟩ 0 0 [] rfl (fun j u hj => by simp at hj)
      ⟨b, off, none⟩ m c ((fromF m x).map (Value.int .i64)) (by simp [fromF])
      (fun j u hj => by
        have hjm : j < m := by
          have := (List.getElem?_eq_some_iff.1 hj).1
          simpa [fromF] using this
        obtain ⟨r, h1, rfl⟩ := hr j hjm
        have hu : u = .int .i64 (x j) := by
          rw [List.getElem?_map] at hj
          simp [fromF, hjm] at hj
          exact hj.symm
        have e : (⟨b, off, none⟩ : Addr).add j = ⟨b, off + j, none⟩ := by unfold Addr.add; split <;> simp_all
        rw [hu, e]
        exact h1)
      (by omega) (by unfold maxLen; omega) (by omega)
    rw [Nat.zero_add, List.nil_append] at hown
    refine ⟨v', w', hrun, ?_, (Below.refl _ _).grown hgrow (Nat.le_refl _) (fun k e => by cases e)⟩
    obtain ⟨_, ⟨_, h2⟩ | ⟨g, cap, cur, rfl, h3, h4, h5, h6, h7, h8⟩⟩ := hown
    · omega
    · refine ⟨g, cap, rfl, fun _ => ⟨h3, (Array.getElem?_eq_some_iff.1 h4).1, cur, h4, h5, h6, by omega, fun i hi => ?_⟩⟩
      have e : (cur.toList.take (m * 1))[i]? = some (.int .i64 (x i)) := by
        rw [h8, List.getElem?_map]
        simp [fromF, hi]
      rw [List.getElem?_take, if_pos (by omega)] at e
      simpa using e

theorem wp_clone (w : World) {o : Oper} {a : Act} {K : Act → World → Prop} {Q : Exit → Act → World → Prop} (s x : Operand)
    (ho : o.op = .call { callee := .builtin .append, args := #[s, x], argTypes := #[22, 22] }) (hty : o.type = 22)
    (N g : Nat) (A : Option Addr) (m c : Nat) (X : Nat → Int) (hs : a.eval s = .slice (some ⟨g, 0, none⟩) 0 0) (hx : a.eval x = .slice A m c)
    (hi : IntsAt N w (.slice A m c) m X) (h40 : m ≤ 1000000)
    (h : ∀ v' w', RowIn w' w.heap.size w'.heap.size v' m X → Below w.heap.size w w' → K (a.put o.dst v') w') : o.wp Try.prog a w K Q := by
  obtain ⟨v', w', hrun, r1, r2⟩ := clone_run N w ⟨g, 0, none⟩ ⟨rfl, rfl⟩ A m c X hi h40
  unfold Oper.wp
  simp [execOp, ho, resolve, invoke, builtin, hs, hx, hty, hrun, Result.andThen]
  exact h v' w' r1 r2

theorem wpList_clone (w : World) {ops : Array Oper} {rest : List Oper} {o : Oper} {a : Act} {Q : Exit → Act → World → Prop} (hgd : o.guard = none) (s x : Operand)
    (ho : o.op = .call { callee := .builtin .append, args := #[s, x], argTypes := #[22, 22] }) (hty : o.type = 22)
    (N g : Nat) (A : Option Addr) (m c : Nat) (X : Nat → Int) (hs : a.eval s = .slice (some ⟨g, 0, none⟩) 0 0) (hx : a.eval x = .slice A m c)
    (hi : IntsAt N w (.slice A m c) m X) (h40 : m ≤ 1000000)
    (h : ∀ v' w', RowIn w' w.heap.size w'.heap.size v' m X → Below w.heap.size w w' → wpList Try.prog ops Q rest (a.put o.dst v') w') : wpList Try.prog ops Q (o :: rest) a w :=
  wpList_plain hgd fun K hK => wp_clone w s x ho hty N g A m c X hs hx hi h40 fun v' w' r1 r2 => hK _ _ (h v' w' r1 r2)

/-- rows of numbers of the call's own: a list v of n rows, row j in a block from M j on, below M (j + 1) -/
def RowsIn (w : World) (lo hi : Nat) (v : Value) (n : Nat) (L : Nat → Nat) (x : Nat → Nat → Int) : Prop :=
  ∃ (rows : List Value) (M : Nat → Nat), w.ownsRow lo 22 1 v n rows ∧ (∀ g, v.ownBlock = some g → g < hi) ∧ rows.length = n ∧ lo ≤ M 0 ∧ M n ≤ hi ∧ (∀ j, j < n → M j ≤ M (j + 1)) ∧ ∀ j, j < n → ∃ r, rows[j]? = some r ∧ RowIn w (M j) (M (j + 1)) r (L j) (x j)

theorem mono_M {M : Nat → Nat} {n : Nat} (h : ∀ j, j < n → M j ≤ M (j + 1)) : ∀ i j, i ≤ j → j ≤ n → M i ≤ M j := by
  intro i j hij
  induction j with
  | zero => intro _; rw [show i = 0 by omega]; exact Nat.le_refl _
  | succ j ih =>
    intro hj
    rcases Nat.lt_or_ge i (j + 1) with h1 | h1
    · exact Nat.le_trans (ih (by omega) (by omega)) (h j (by omega))
    · rw [show i = j + 1 by omega]; exact Nat.le_refl _

theorem RowsIn.rows {w : World} {lo hi : Nat} {v : Value} {n : Nat} {L : Nat → Nat} {x : Nat → Nat → Int} (h : RowsIn w lo hi v n L x) (hhi : hi ≤ w.heap.size) (hn : n ≤ 140737488351232) (hL : ∀ j, j < n → L j ≤ 140737488351232) : RowsAt w.heap.size w v n L x := by
  obtain ⟨rows, M, ho, _, hlen, _, hM, hm, hr⟩ := h
  obtain ⟨h1, ⟨rfl, h2⟩ | ⟨g, cap, cur, rfl, h3, h4, h5⟩⟩ := id ho
  · exact ⟨none, 0, by rw [h2], hn, fun h0 => by omega⟩
  · refine ⟨_, cap, rfl, hn, fun _ => ⟨g, 0, rfl, (Array.getElem?_eq_some_iff.1 h4).1, fun j hj => ?_⟩⟩
    obtain ⟨r, hr1, hr2⟩ := hr j hj
    have := mono_M hm (j + 1) n (by omega) (Nat.le_refl _)
    refine ⟨r, by rw [Nat.zero_add]; exact own_cell ho j hr1, (hr2.wider (Nat.le_refl _) (by omega)).ints (hL j hj)⟩

theorem rowsIn_nil (w : World) (n : Nat) (L : Nat → Nat) (x : Nat → Nat → Int) (lo hi : Nat) (h : lo ≤ hi) (h0 : n = 0) : RowsIn w lo hi (.slice none 0 0) n L x := by
  subst h0
  exact ⟨[], fun _ => lo, World.ownsRow_nil _ _ _ _, (fun g hg => by cases hg), rfl, Nat.le_refl _, h, fun j hj => absurd hj (Nat.not_lt_zero j), fun j hj => absurd hj (Nat.not_lt_zero j)⟩

theorem own_other {w : World} {lo : Nat} {v : Value} {n : Nat} {xs : List Value} (h : w.ownsRow lo 22 1 v n xs) {g : Nat} {cur : Array Value} (hg : w.heap[g]? = some (Obj.cells cur 3 (0, 0))) : some g ≠ v.ownBlock := by
  intro e
  obtain ⟨_, ⟨rfl, _⟩ | ⟨g', cap, cur', rfl, _, hh, _⟩⟩ := h
  · cases e
  · obtain rfl : g = g' := by simpa [Value.ownBlock] using e
    rw [hh] at hg
    injection hg with hg
    injection hg with _ ht
    exact absurd ht (by decide)

theorem RowsIn.keep {w w' : World} {lo hi : Nat} {v : Value} {n : Nat} {L : Nat → Nat} {x : Nat → Nat → Int} (h : RowsIn w lo hi v n L x)
    (hk : ∀ (k : Nat) (cs : Array Value) (t : TypeId), lo ≤ k → k < hi → t = 3 ∨ t = 22 → w.heap[k]? = some (Obj.cells cs t (0, 0)) → w'.heap[k]? = w.heap[k]?) : RowsIn w' lo hi v n L x := by
  obtain ⟨rows, M, ho, hb, hlen, h0, hM, hm, hr⟩ := h
  have hMm := mono_M hm
  refine ⟨rows, M, ?_, hb, hlen, h0, hM, hm, fun j hj => ?_⟩
  · obtain ⟨h1, h2 | ⟨g, cap, cur, rfl, h3, h4, h5⟩⟩ := ho
    · exact ⟨h1, .inl h2⟩
    · exact ⟨h1, .inr ⟨g, cap, cur, rfl, h3, (hk g cur _ h3 (hb g rfl) (.inr rfl) h4).trans h4, h5⟩⟩
  · obtain ⟨r, hr1, hr2⟩ := hr j hj
    have e1 := hMm 0 j (Nat.zero_le _) (by omega)
    have e2 := hMm (j + 1) n (by omega) (Nat.le_refl _)
    exact ⟨r, hr1, hr2.keep fun k cur k1 k2 k3 => hk k cur _ (by omega) (by omega) (.inl rfl) k3⟩
theorem RowsIn.grow {w w' : World} {lo hi : Nat} {v : Value} {n : Nat} {L : Nat → Nat} {x : Nat → Nat → Int} (h : RowsIn w lo hi v n L x) (hb : Below w.heap.size w w') : RowsIn w' lo hi v n L x :=
  h.keep fun k _ _ _ _ _ hg => hb.block k (Array.getElem?_eq_some_iff.1 hg).1
theorem RowsIn.wider {w : World} {lo hi hi' : Nat} {v : Value} {n : Nat} {L : Nat → Nat} {x : Nat → Nat → Int} (h : RowsIn w lo hi v n L x) (h1 : hi ≤ hi') : RowsIn w lo hi' v n L x := by
  obtain ⟨rows, M, ho, hb, hlen, h0, hM, hm, hr⟩ := h
  exact ⟨rows, M, ho, fun g hg => Nat.lt_of_lt_of_le (hb g hg) h1, hlen, h0, Nat.le_trans hM h1, hm, hr⟩
theorem RowsIn.lower {w : World} {lo lo' hi : Nat} {v : Value} {n : Nat} {L : Nat → Nat} {x : Nat → Nat → Int} (h : RowsIn w lo hi v n L x) (h1 : lo' ≤ lo) : RowsIn w lo' hi v n L x := by
  obtain ⟨rows, M, ⟨k1, k2⟩, hb, hlen, h0, hM, hm, hr⟩ := h
  refine ⟨rows, M, ⟨k1, ?_⟩, hb, hlen, Nat.le_trans h1 h0, hM, hm, hr⟩
  rcases k2 with k2 | ⟨g, cap, cur, e, k3, k4⟩
  · exact .inl k2
  · exact .inr ⟨g, cap, cur, e, Nat.le_trans h1 k3, k4⟩
theorem RowsIn.form {w : World} {lo hi : Nat} {v : Value} {n : Nat} {L : Nat → Nat} {x : Nat → Nat → Int} (h : RowsIn w lo hi v n L x) : ∃ ao cap, v = .slice ao n cap := by
  obtain ⟨rows, M, ⟨h1, ⟨rfl, h2⟩ | ⟨g, cap, cur, rfl, _⟩⟩, _⟩ := h
  · exact ⟨none, 0, by rw [h2]⟩
  · exact ⟨_, _, rfl⟩

/-- one more row: made behind all that there is (wr to w1), then appended (w1 to w2) -/
theorem rowsIn_step {wr w1 w2 : World} {lo : Nat} {v' r : Value} {k : Nat} {L : Nat → Nat} {x : Nat → Nat → Int} {rows : List Value} {M : Nat → Nat}
    (hlen : rows.length = k) (h0 : lo ≤ M 0) (hM : M k ≤ wr.heap.size) (hm : ∀ j, j < k → M j ≤ M (j + 1)) (hr : ∀ j, j < k → ∃ r, rows[j]? = some r ∧ RowIn wr (M j) (M (j + 1)) r (L j) (x j))
    (hb : Below wr.heap.size wr w1) (hrow : RowIn w1 wr.heap.size w1.heap.size r (L k) (x k))
    (hown : w2.ownsRow lo 22 1 v' (k + 1) (rows ++ [r])) (hkeep : ∀ (g : Nat) (cur : Array Value), w1.heap[g]? = some (Obj.cells cur 3 (0, 0)) → w2.heap[g]? = w1.heap[g]?) (hsz : w1.heap.size ≤ w2.heap.size) :
    RowsIn w2 lo w2.heap.size v' (k + 1) L x := by
  have hMm := mono_M hm
  refine ⟨rows ++ [r], fun j => if j ≤ k then (if j = k then wr.heap.size else M j) else w1.heap.size, hown, fun g hg => (hown.lt g hg).2, by simp [hlen], ?_, ?_, ?_, ?_⟩
  · have := hMm 0 k (Nat.zero_le _) (Nat.le_refl _)
    show lo ≤ if 0 ≤ k then (if 0 = k then wr.heap.size else M 0) else w1.heap.size
    rw [if_pos (Nat.zero_le _)]
    split
    · omega
    · exact h0
  · simp only
    rw [if_neg (by omega)]; exact hsz
  · intro j hj
    have hs := hb.size
    by_cases h1 : j = k
    · subst h1; simp only [Nat.le_refl, if_true]; rw [if_neg (by omega)]; exact hs
    · have h2 := hm j (by omega)
      have h3 := hMm (j + 1) k (by omega) (Nat.le_refl _)
      simp only
      rw [if_pos (by omega), if_neg h1, if_pos (by omega)]
      split
      · omega
      · exact h2
  · intro j hj
    by_cases h1 : j = k
    · subst h1
      refine ⟨r, by simp [hlen], ?_⟩
      simp only [Nat.le_refl, if_true]
      rw [if_neg (by omega)]
      exact hrow.keep fun g cur _ _ hg => hkeep g cur hg
    · obtain ⟨q, hq, hrq⟩ := hr j (by omega)
      refine ⟨q, by rw [List.getElem?_append_left (by omega)]; exact hq, ?_⟩
      have h3 := hMm (j + 1) k (by omega) (Nat.le_refl _)
      have hlt : ∀ g, g < M (j + 1) → w1.heap[g]? = wr.heap[g]? := fun g hg => hb.block g (by omega)
      have hk2 : RowIn w2 (M j) (M (j + 1)) q (L j) (x j) := hrq.keep fun g cur _ hg2 hg3 => by
        have e1 := hlt g hg2
        rw [hkeep g cur (e1.trans hg3), e1]
      simp only
      rw [if_pos (by omega), if_neg h1, if_pos (by omega)]
      refine hk2.wider (Nat.le_refl _) ?_
      split
      · rename_i he; rw [he]; exact hM
      · exact Nat.le_refl _

end Go.Proofs.Ytopajgnemeodeaa

namespace Go.Proofs.Ytopajgnemeodeaa
open Go.RowKit

set_option maxHeartbeats 2000000 in
set_option maxRecDepth 100000 in
theorem copyFruits_any (N : Nat) (u : Value) (R : Fr) (w : World) (hf : FruitsAt N w u R) (hN : N ≤ w.heap.size) (hn : R.n ≤ 1000) (hL : ∀ f, f < R.n → R.L f ≤ 1000) :
    Calls Try.prog 17 #[u] w fun e w' => ∃ v, e = .returned v ∧ RowsIn w' w.heap.size w'.heap.size v R.n R.L R.X ∧ Below w.heap.size w w' := by
  obtain ⟨i1, hi, hz0, hz1, hz2⟩ := info_parts Try.infoInts
  obtain ⟨au, cu, rfl, hnR, hcR⟩ := hf
  have HCR : Hid _ := Lib.hid hcR
  have HL : Hid _ := Lib.hid hL
  have HN : Hid _ := Lib.hid hN
  clear hcR hL hN
  go_enter Try.func17, Try.ntmps17
  go_wp2
  go_loopw [3, 4] (fun v i wr => ∃ k : Nat, k ≤ R.n ∧ i = .int .i64 k ∧ Hid (RowsIn wr w.heap.size wr.heap.size v k R.L R.X) ∧ Hid (Below w.heap.size w wr)) (fun _ i _ => R.n - (intOf i).toNat)
  case atStart => exact ⟨0, Nat.zero_le _, rfl, rowsIn_nil _ _ _ _ _ _ (Nat.le_refl _) rfl, Below.refl _ _⟩
  case round =>
    obtain ⟨k, hk, rfl, hrows, HBr⟩ := hrel
    by_cases hkn : k < R.n
    · obtain ⟨rows, M, ho, hob, hlen, h0, hM, hm, hr⟩ := hrows.out
      clear hob
      obtain ⟨b, off, rfl, hb, hcr⟩ := HCR.out (by omega)
      obtain ⟨r, hcell, hints⟩ := hcr k hkn
      replace hcell := (HBr.out.cell (p := ⟨b, off + k, none⟩) (by have := HN.out; show b < _; omega)).trans hcell
      have HI : Hid (IntsAt N wr r (R.L k) (R.X k)) := hints.mono (HBr.out.mono HN.out) (Nat.le_refl _)
      obtain ⟨ar, cr, rfl, _, _⟩ := hints
      have HO : Hid _ := Lib.hid ho
      have HR : Hid _ := Lib.hid hr
      have HH : Hid (rows.length = k ∧ w.heap.size ≤ M 0 ∧ M k ≤ wr.heap.size ∧ ∀ j, j < k → M j ≤ M (j + 1)) := ⟨hlen, h0, hM, hm⟩
      have hlen' := hlen
      clear ho hr hlen h0 hM hm hcr hlen'
      have HS : Hid (w.heap.size ≤ wr.heap.size) := HBr.out.size
      have hbs : b < wr.heap.size := Nat.lt_of_lt_of_le hb (Nat.le_trans HN.out HS.out)
      go_wp2_with (first
        | (at_builtin; refine wpList_clone _ ?_ (.tmp 12) (.tmp 16) ?_ ?_ N wr.heap.size _ (R.L k) _ (R.X k) ?_ ?_ (HI.out.mono (below_alloc (Nat.le_trans HN.out HS.out) _) (Nat.le_refl _)) (by have := HL.out k hkn; omega) ?_; (any_goals (exact rfl)); intro v1 w1 hrow hb1; obtain ⟨g1, p1, rfl⟩ := hrow.form; have HRW := Lib.hid (hrow.wider (Nat.le_of_lt (by simp)) (Nat.le_refl _) : RowIn w1 wr.heap.size w1.heap.size _ _ _); have HB1 := Lib.hid ((below_alloc (Nat.le_refl _) _).trans (hb1.mono (Nat.le_of_lt (by simp))) : Below wr.heap.size wr w1); clear hrow hb1; have hown1 := own_below HO.out HB1.out)
        | (at_builtin; refine wpList_append_own _ rfl (.tmp 11) (.tmp 18) 26 rfl w.heap.size 22 i1 (.slice none 0 0) 1 24 Try.underlying26 hi hz0 hz1 hz2 rfl (by decide) _ _ _ rfl (hown1.alloc _) ⟨w1.heap.size, 0, none⟩ 1 1 [.slice (some ⟨g1, 0, none⟩) (R.L k) p1] rfl rfl (cell_one_new _ _ _) (by simp [Value.oneCell']) (by unfold maxLen; omega) (by omega) (by have := HB1.out.size; have := HS.out; simp; omega) ?_; intro v' w2 hown2 hgrow _))
      go_roundw
      case rel =>
        refine ⟨k + 1, by omega, by go_num, ?_, ?_⟩
        · obtain ⟨hlen, h0, hM, hm⟩ := HH.out
          refine rowsIn_step hlen h0 hM hm HR.out HB1.out HRW.out hown2 (fun g cur hg => ?_) (by have := hgrow.size; simp at this; omega)
          have hlt : g < w1.heap.size := (Array.getElem?_eq_some_iff.1 hg).1
          have hall : (w1.alloc (.cells #[.slice (some ⟨g1, 0, none⟩) (R.L k) p1] 22)).heap[g]? = w1.heap[g]? := Below.heap_alloc _ _ _ hlt
          rw [hgrow.block g (by simp; omega) (own_other hown1 hg), hall]
        · exact (Below.alloc (HBr.out.trans (HB1.out.mono HS.out)) (Nat.le_trans HS.out HB1.out.size) _).grown hgrow (by have := HB1.out.size; have := HS.out; simp; omega) (fun j e => (hown1.lt j e).1)
      case measure => simp [intOf]; omega
    · have Hk : Hid (k = R.n) := by show k = _; omega
      go_wp2
      go_ret
      exact ⟨_, rfl, by rw [← Hk.out]; exact hrows.out, HBr.out⟩

end Go.Proofs.Ytopajgnemeodeaa
