/-
  Made2: what KeysMade asks of a book, and of any nodes.
-/
import Derived.Test.YtbieglmpkljjjaaMade1
namespace Go.Proofs.Ytbieglmpkljjjaa
open Go.RowKit

theorem grp_all {B : KB} (hG : GoodB B) (hd : diffB B = true) : GrpOk B (List.range B.ns) :=
  ⟨List.nodup_range, diffB_difM hd, fun s hs m hm => (hG.X s (List.mem_range.1 hs)).x m hm⟩
theorem sumF_append (F : Nat → Int) : ∀ l l', sumF F (l ++ l') = sumF F l + sumF F l' := by
  intro l
  induction l with
  | nil => intro l'; simp [sumF]
  | cons a l ih => intro l'; simp only [List.cons_append, sumF, ih]; omega
theorem mems_many : ∀ s : Fin 256, (mems s.val).length = many s.val := by decide +kernel
/-- the numbers of a book whose sorts all differ -/
theorem made_numbers {B : KB} (hG : GoodB B) (hd : diffB B = true) :
    0 ≤ leastL B false 8 (List.range B.ns) ∧ leastL B false 8 (List.range B.ns) ≤ ((fewF (pairsL B B.ns) B.nv (2 ^ B.nv) : Nat) : Int) ∧ fewF (pairsL B B.ns) B.nv (2 ^ B.nv) ≤ B.nv ∧
    leastL B false 8 (List.range B.ns) ≤ leastL B true 8 (List.range B.ns) ∧ leastL B true 8 (List.range B.ns) ≤ leastL B false 8 (List.range B.ns) * (B.ns : Int) := by
  have hg := grp_all hG hd
  have hl : (List.range B.ns).length ≤ 8 := by rw [List.length_range]; exact hG.ns
  refine ⟨hg.pos false hl, ?_, fewF_le _ _ _, best_mean 8 _ hg hl, ?_⟩
  · rcases (fewF_of (pairsL B B.ns) B.nv (2 ^ B.nv)).2 with e | ⟨m, hm, ht, e⟩
    · rw [e]
      have := best_tell (List.range B.nv) 8 _ hg hl (fun m hm => List.mem_range.1 hm) fun a ha b hb hne => by
        obtain ⟨m, h1, h2⟩ := hg.dif a ha b hb hne
        exact ⟨m, List.mem_range.2 h1, h2⟩
      rwa [List.length_range] at this
    · rw [e]
      have h5 := hG.nv
      have hm256 : m < 256 := Nat.lt_of_lt_of_le hm (Nat.le_trans (Nat.pow_le_pow_right (by decide) h5) (by decide))
      have := best_tell (mems m) 8 _ hg hl (fun k hk => by
        have hb := (mems_mem hm256).1 hk
        rcases Nat.lt_or_ge k B.nv with h | h
        · exact h
        · rw [Nat.testBit_lt_two_pow (Nat.lt_of_lt_of_le hm (Nat.pow_le_pow_right (by decide) h))] at hb; cases hb) fun a ha b hb hne => by
        have key : ∀ i j, j < i → i < B.ns → ∃ k, k ∈ mems m ∧ B.X i k ≠ B.X j k := fun i j hji hi => by
          have h0 := tellL_iff.1 ht i j hji hi
          obtain ⟨k, hk⟩ := Nat.exists_testBit_of_ne_zero h0
          rw [Nat.testBit_and, Bool.and_eq_true, apartS_bit hG] at hk
          refine ⟨k, (mems_mem hm256).2 hk.2, ?_⟩
          have := hk.1
          simp at this
          exact this.2
        rw [List.mem_range] at ha hb
        rcases Nat.lt_or_ge a b with h | h
        · obtain ⟨k, h1, h2⟩ := key b a h hb; exact ⟨k, h1, fun e => h2 e.symm⟩
        · exact key a b (by omega) ha
      rw [mems_many ⟨m, hm256⟩] at this
      exact this
  · have := mean_best 8 _ hg hl
    rw [List.length_range, Int.mul_comm] at this
    exact this
/-- no nodes that name all sorts do better -/
theorem made_none {B : KB} (hG : GoodB B) (hd : diffB B = true) {D : Nd} (hD : GoodN B.nv B.V B.ns D) (hi : isK B D B.ns = true) :
    leastL B false 8 (List.range B.ns) ≤ (worstN B D B.ns : Int) ∧ leastL B true 8 (List.range B.ns) ≤ (sumN B D B.ns : Int) := by
  have hg := grp_all hG hd
  have hl : (List.range B.ns).length ≤ 8 := by rw [List.length_range]; exact hG.ns
  have hend : ∀ i, i ∈ List.range B.ns → D.S (lastOf (wk D (B.X i) 0)) = (i : Int) := fun i h => by
    have := of_decide_eq_true (allB_true.1 hi i (List.mem_range.1 h))
    rw [← walk_wk]; exact this
  have hqn : ∀ i, i < B.ns → queF B D 0 i = (questN D (B.X i) : Int) := fun i h => by
    obtain ⟨pre, k, e, _⟩ := walk_last hD (hG.X i h)
    unfold queF questN; rw [← walk_wk, e]; simp
  obtain ⟨h1, h2⟩ := none_better hG hD D.n 0 (by omega) hD.n1 8 _ hg hl (fun i h => List.mem_range.1 h) hend
  refine ⟨h1 _ (by omega) fun i h => ?_, ?_⟩
  · rw [hqn i (List.mem_range.1 h)]
    have key : ∀ n, ∀ j, j < n → questN D (B.X j) ≤ worstN B D n := by
      intro n
      induction n with
      | zero => intro j hj; omega
      | succ n ih =>
        intro j hj
        simp only [worstN]
        rcases Nat.lt_succ_iff_lt_or_eq.1 hj with h | h
        · have := ih j h; omega
        · rw [h]; omega
    have := key B.ns i (List.mem_range.1 h)
    omega
  · have key : ∀ n, n ≤ B.ns → sumF (queF B D 0) (List.range n) = (sumN B D n : Int) := by
      intro n
      induction n with
      | zero => intro _; rfl
      | succ n ih =>
        intro h
        rw [List.range_succ, sumF_append, ih (by omega)]
        simp only [sumF, sumN]
        rw [hqn n (by omega)]
        omega
    rw [← key B.ns (Nat.le_refl _)]
    exact h2

end Go.Proofs.Ytbieglmpkljjjaa
