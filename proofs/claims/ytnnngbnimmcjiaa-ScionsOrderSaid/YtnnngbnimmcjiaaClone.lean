/-
  Clone: copies of pairs; a nursery with one place more.
-/
import Derived.Test.YtnnngbnimmcjiaaMost
namespace Go.Proofs.Ytnnngbnimmcjiaa
open Go.RowKit

def pairL : Nat → (Nat → Int) → (Nat → Int) → List Value
  | 0, _, _ => []
  | n + 1, x, y => pairL n x y ++ [.int .i64 (x n), .int .i64 (y n)]
theorem pairL_len (n : Nat) (x y : Nat → Int) : (pairL n x y).length = n * 2 := by
  induction n with
  | zero => rfl
  | succ n ih => simp [pairL, ih]; omega
theorem pairL_get (n : Nat) (x y : Nat → Int) : ∀ i, i < n → (pairL n x y)[i * 2]? = some (.int .i64 (x i)) ∧ (pairL n x y)[i * 2 + 1]? = some (.int .i64 (y i)) := by
  induction n with
  | zero => intro i hi; omega
  | succ n ih =>
    intro i hi
    have hl := pairL_len n x y
    unfold pairL
    by_cases e : i < n
    · rw [List.getElem?_append_left (by omega), List.getElem?_append_left (by omega)]
      exact ih i e
    · have : i = n := by omega
      subst this
      rw [List.getElem?_append_right (by omega), List.getElem?_append_right (by omega), hl]
      simp
theorem pairL_one (n : Nat) (x y : Nat → Int) : ∀ u ∈ pairL n x y, u.oneCell' = true := by
  induction n with
  | zero => intro u hu; cases hu
  | succ n ih =>
    intro u hu
    rcases List.mem_append.1 hu with h | h
    · exact ih u h
    · simp at h
      rcases h with rfl | rfl <;> rfl
theorem pairL_cell {W : World} {b off n : Nat} {x y : Nat → Int} (h : ∀ i, i < n → W.cell? ⟨b, off + i * 2, none⟩ = some (.int .i64 (x i)) ∧ W.cell? ⟨b, off + i * 2 + 1, none⟩ = some (.int .i64 (y i))) :
    ∀ (j : Nat) (u : Value), (pairL n x y)[j]? = some u → W.cell? ((⟨b, off, none⟩ : Addr).add j) = some u := by
  intro j u hj
  have hjl := (List.getElem?_eq_some_iff.1 hj).1
  rw [pairL_len] at hjl
  have e : (⟨b, off, none⟩ : Addr).add j = ⟨b, off + j, none⟩ := by unfold Addr.add; split <;> simp_all
  rw [e]
  obtain ⟨h1, h2⟩ := h (j / 2) (by omega)
  obtain ⟨g1, g2⟩ := pairL_get n x y (j / 2) (by omega)
  by_cases ev : j % 2 = 0
  · have ej : j / 2 * 2 = j := by omega
    rw [ej] at g1 h1
    rw [g1] at hj
    rw [h1, hj]
  · have ej : j / 2 * 2 + 1 = j := by omega
    rw [ej] at g2
    rw [Nat.add_assoc, ej] at h2
    rw [g2] at hj
    rw [h2, hj]

/-- pairs in a block of the call's own, from lo on -/
def PB (lo : Nat) (W : World) (v : Value) (n : Nat) (x y : Nat → Int) : Prop :=
  (n = 0 ∧ ∃ a c, v = .slice a 0 c) ∨ (0 < n ∧ ∃ g cap cur t, v = .slice (some ⟨g, 0, none⟩) n cap ∧ lo ≤ g ∧ n ≤ cap ∧ W.heap[g]? = some (.cells cur t) ∧ ∀ i, i < n → cur[i * 2]? = some (.int .i64 (x i)) ∧ cur[i * 2 + 1]? = some (.int .i64 (y i)))
theorem PB.of_own {lo : Nat} {W : World} {e : TypeId} {v : Value} {n : Nat} {x y : Nat → Int} (h : W.ownsRow lo e 2 v n (pairL n x y)) : PB lo W v n x y := by
  obtain ⟨_, ⟨rfl, h2⟩ | ⟨g, cap, cur, rfl, h3, h4, h5, h6, h7, h8⟩⟩ := h
  · exact .inl ⟨h2, none, 0, rfl⟩
  · rcases Nat.eq_zero_or_pos n with h0 | h0
    · exact .inl ⟨h0, _, _, by rw [h0]⟩
    · refine .inr ⟨h0, g, cap, cur, e, rfl, h3, h5, h4, fun i hi => ?_⟩
      obtain ⟨g1, g2⟩ := pairL_get n x y i hi
      rw [← h8, List.getElem?_take_of_lt (by omega), Array.getElem?_toList] at g1 g2
      exact ⟨g1, g2⟩
theorem PB.pairs {lo : Nat} {W : World} {v : Value} {n : Nat} {x y : Nat → Int} (h : PB lo W v n x y) (hn : n ≤ 1000) : PairsAt W.heap.size W v n x y := by
  rcases h with ⟨rfl, a, c, rfl⟩ | ⟨h0, g, cap, cur, t, rfl, h1, h2, h3, h4⟩
  · exact ⟨a, c, rfl, by omega, Nat.zero_le _, fun h => absurd h (Nat.lt_irrefl 0)⟩
  · exact ⟨_, cap, rfl, by omega, h2, fun _ => ⟨g, 0, rfl, heap_lt h3, fun i hi => by rw [Nat.zero_add]; exact ⟨cell_blk h3 _ (h4 i hi).1, cell_blk h3 _ (h4 i hi).2⟩⟩⟩
theorem PB.form {lo : Nat} {W : World} {v : Value} {n : Nat} {x y : Nat → Int} (h : PB lo W v n x y) : ∃ a c, v = .slice a n c := by
  rcases h with ⟨rfl, a, c, rfl⟩ | ⟨h0, g, cap, cur, t, rfl, _⟩
  · exact ⟨a, c, rfl⟩
  · exact ⟨_, _, rfl⟩
theorem PB.keep {lo : Nat} {W W' : World} {v : Value} {n : Nat} {x y : Nat → Int} (h : PB lo W v n x y) (hk : ∀ g, lo ≤ g → g < W.heap.size → W'.heap[g]? = W.heap[g]?) : PB lo W' v n x y := by
  rcases h with h | ⟨h0, g, cap, cur, t, rfl, h1, h2, h3, h4⟩
  · exact .inl h
  · exact .inr ⟨h0, g, cap, cur, t, rfl, h1, h2, (hk g h1 (heap_lt h3)).trans h3, h4⟩

theorem Try.infoG : (Try.prog.info? 49).map (fun i => (i.zero, i.size, i.bytes)) = some (some (.agg #[.int .i64 0, .int .i64 0]), 2, 16) := by kernel_rfl
theorem Try.infoW : (Try.prog.info? 43).map (fun i => (i.zero, i.size, i.bytes)) = some (some (.agg #[.int .i64 0, .int .i64 0]), 2, 16) := by kernel_rfl

set_option maxHeartbeats 1000000 in
theorem cloneG_any (N : Nat) (v : Value) (n : Nat) (x y : Nat → Int) (w : World) (h : PairsAt N w v n x y) (hN : N ≤ w.heap.size) (h40 : n ≤ 40) :
    Calls Try.prog 78 #[v] w fun e w' => (∃ v', e = .returned v' ∧ PB w.heap.size w' v' n x y) ∧ Below w.heap.size w w' := by
  obtain ⟨ao, cap, rfl, hn, hca, hc⟩ := h
  obtain ⟨i0, hi, hz0, hz1, hz2⟩ := info_parts Try.infoG
  have q22 : ∀ (w : World) (a : Option Addr) (n c n' c' : Nat), (binOp .eql 23 (.slice a n c) (.slice none n' c')).run Try.prog w = .ok (.bool a.isNone) w := fun w a n c n' c' => Lib.run_eql_slice_nil w _ _ a n c n' c' Try.underlying23
  cases ao with
  | none =>
    have h0 : n = 0 := by
      rcases Nat.eq_zero_or_pos n with h | h
      · exact h
      · obtain ⟨b, off, e, _⟩ := hc h; cases e
    subst h0
    clear hc
    go_enter Try.func78, Try.ntmps78
    go_wp2
    go_ret
    exact ⟨⟨_, rfl, .inl ⟨rfl, none, 0, rfl⟩⟩, Below.refl _ _⟩
  | some ad =>
    have hcells : Hid (∀ (W : World), Below w.heap.size w W → ∀ (j : Nat) (u : Value), (pairL n x y)[j]? = some u → W.cell? (ad.add j) = some u) := by
      intro W hW
      rcases Nat.eq_zero_or_pos n with h | h
      · subst h; intro j u hj; simp [pairL] at hj
      · obtain ⟨b, off, e, hb, hr⟩ := hc h
        cases e
        exact pairL_cell fun i hi => ⟨(hW.cell (p := ⟨b, off + i * 2, none⟩) (show b < w.heap.size by omega)).trans (hr i hi).1, (hW.cell (p := ⟨b, off + i * 2 + 1, none⟩) (show b < w.heap.size by omega)).trans (hr i hi).2⟩
    clear hc
    go_enter Try.func78, Try.ntmps78
    go_wp2_with (at_builtin; refine wpList_append_own _ rfl _ _ 23 rfl w.heap.size 49 i0 (.agg #[.int .i64 0, .int .i64 0]) 2 16 Try.underlying23 hi hz0 hz1 hz2 rfl (by decide) _ _ _ rfl (World.ownsRow_made w #[] 0 (Nat.le_refl _) (Nat.zero_le _) rfl) ad n cap (pairL n x y) rfl (pairL_len n x y) (hcells.out _ (below_alloc (Nat.le_refl _) _)) (pairL_one n x y) (by unfold maxLen; omega) (by omega) (by simp) ?_; intro v' w1 hown hgrow _)
    go_ret
    refine ⟨⟨_, rfl, PB.of_own (e := 49) (by simpa using hown)⟩, ?_⟩
    exact ((Below.refl _ w).alloc (Nat.le_refl _) _).grown hgrow (by simp) (by intro k hk; cases hk; exact Nat.le_refl _)

set_option maxHeartbeats 1000000 in
theorem cloneW_any (N : Nat) (v : Value) (n : Nat) (x y : Nat → Int) (w : World) (h : PairsAt N w v n x y) (hN : N ≤ w.heap.size) (h40 : n ≤ 40) :
    Calls Try.prog 90 #[v] w fun e w' => (∃ v', e = .returned v' ∧ PB w.heap.size w' v' n x y) ∧ Below w.heap.size w w' := by
  obtain ⟨ao, cap, rfl, hn, hca, hc⟩ := h
  obtain ⟨i0, hi, hz0, hz1, hz2⟩ := info_parts Try.infoW
  have q22 : ∀ (w : World) (a : Option Addr) (n c n' c' : Nat), (binOp .eql 24 (.slice a n c) (.slice none n' c')).run Try.prog w = .ok (.bool a.isNone) w := fun w a n c n' c' => Lib.run_eql_slice_nil w _ _ a n c n' c' Try.underlying24
  cases ao with
  | none =>
    have h0 : n = 0 := by
      rcases Nat.eq_zero_or_pos n with h | h
      · exact h
      · obtain ⟨b, off, e, _⟩ := hc h; cases e
    subst h0
    clear hc
    go_enter Try.func90, Try.ntmps90
    go_wp2
    go_ret
    exact ⟨⟨_, rfl, .inl ⟨rfl, none, 0, rfl⟩⟩, Below.refl _ _⟩
  | some ad =>
    have hcells : Hid (∀ (W : World), Below w.heap.size w W → ∀ (j : Nat) (u : Value), (pairL n x y)[j]? = some u → W.cell? (ad.add j) = some u) := by
      intro W hW
      rcases Nat.eq_zero_or_pos n with h | h
      · subst h; intro j u hj; simp [pairL] at hj
      · obtain ⟨b, off, e, hb, hr⟩ := hc h
        cases e
        exact pairL_cell fun i hi => ⟨(hW.cell (p := ⟨b, off + i * 2, none⟩) (show b < w.heap.size by omega)).trans (hr i hi).1, (hW.cell (p := ⟨b, off + i * 2 + 1, none⟩) (show b < w.heap.size by omega)).trans (hr i hi).2⟩
    clear hc
    go_enter Try.func90, Try.ntmps90
    go_wp2_with (at_builtin; refine wpList_append_own _ rfl _ _ 24 rfl w.heap.size 43 i0 (.agg #[.int .i64 0, .int .i64 0]) 2 16 Try.underlying24 hi hz0 hz1 hz2 rfl (by decide) _ _ _ rfl (World.ownsRow_made w #[] 0 (Nat.le_refl _) (Nat.zero_le _) rfl) ad n cap (pairL n x y) rfl (pairL_len n x y) (hcells.out _ (below_alloc (Nat.le_refl _) _)) (pairL_one n x y) (by unfold maxLen; omega) (by omega) (by simp) ?_; intro v' w1 hown hgrow _)
    go_ret
    refine ⟨⟨_, rfl, PB.of_own (e := 43) (by simpa using hown)⟩, ?_⟩
    exact ((Below.refl _ w).alloc (Nat.le_refl _) _).grown hgrow (by simp) (by intro k hk; cases hk; exact Nat.le_refl _)


end Go.Proofs.Ytnnngbnimmcjiaa
