/-
  Sort: a list that is put in order by exchanges; partial sums.
-/
import Derived.Test.YtffnlimgjnhmpaaJPure2
namespace Go.Proofs.Ytffnlimgjnhmpaa

/-- the first i numbers are not greater than any one behind them -/
def Up (i : Nat) (L : List Int) : Prop := ∀ a b, a < i → a < b → b < L.length → L.getD a 0 ≤ L.getD b 0
def swp (L : List Int) (i k : Nat) : List Int := (L.set i (L.getD k 0)).set k (L.getD i 0)
theorem getD_at {L : List Int} {i : Nat} (h : i < L.length) : L.getD i 0 = L[i] := by simp [List.getD, List.getElem?_eq_getElem h]
theorem swp_len (L : List Int) (i k : Nat) : (swp L i k).length = L.length := by simp [swp]
theorem swp_perm {L : List Int} {i k : Nat} (hi : i < L.length) (hk : k < L.length) : (swp L i k).Perm L := by
  unfold swp
  rw [getD_at hi, getD_at hk]
  exact List.set_set_perm hi hk
theorem swp_at {L : List Int} {i k : Nat} (hi : i < L.length) (hk : k < L.length) (j : Nat) : (swp L i k).getD j 0 = if j = k then L.getD i 0 else if j = i then L.getD k 0 else L.getD j 0 := by
  unfold swp
  simp only [List.getD_eq_getElem?_getD, List.getElem?_set]
  by_cases h1 : j = k
  · subst h1; simp [hk]
  · rw [if_neg (fun e => h1 e.symm), if_neg h1]
    by_cases h2 : j = i
    · subst h2; simp [hi]
    · rw [if_neg (fun e => h2 e.symm), if_neg h2]
theorem up_swp {L : List Int} {i k : Nat} (h : Up i L) (hik : i < k) (hk : k < L.length) : Up i (swp L i k) := by
  intro a b ha hab hb
  rw [swp_len] at hb
  rw [swp_at (by omega) hk, swp_at (by omega) hk, if_neg (by omega), if_neg (by omega)]
  by_cases h1 : b = k
  · rw [if_pos h1]; exact h a i ha (by omega) (by omega)
  · rw [if_neg h1]
    by_cases h2 : b = i
    · rw [if_pos h2]; exact h a k ha (by omega) hk
    · rw [if_neg h2]; exact h a b ha hab hb
/-- so far the i-th is the least from there on -/
def Lst (i k : Nat) (L : List Int) : Prop := ∀ j, i < j → j < k → L.getD i 0 ≤ L.getD j 0
theorem lst_swp {L : List Int} {i k : Nat} (h : Lst i k L) (hik : i < k) (hk : k < L.length) (hl : L.getD k 0 < L.getD i 0) : Lst i (k + 1) (swp L i k) := by
  intro j h1 h2
  rw [swp_at (by omega) hk, swp_at (by omega) hk, if_neg (by omega), if_pos rfl]
  by_cases h3 : j = k
  · rw [if_pos h3]; omega
  · rw [if_neg h3, if_neg (by omega)]
    have := h j h1 (by omega)
    omega
theorem lst_keep {L : List Int} {i k : Nat} (h : Lst i k L) (hl : ¬ L.getD k 0 < L.getD i 0) : Lst i (k + 1) L := by
  intro j h1 h2
  by_cases h3 : j = k
  · subst h3; omega
  · exact h j h1 (by omega)
theorem up_next {L : List Int} {i : Nat} (h : Up i L) (hl : Lst i L.length L) : Up (i + 1) L := by
  intro a b ha hab hb
  rcases Nat.lt_succ_iff_lt_or_eq.1 ha with h1 | h1
  · exact h a b h1 hab hb
  · subst h1; exact hl b hab hb
theorem up_done {L M : List Int} (h : Up L.length L) (hp : L.Perm M) : L = srt M := by
  refine srt_unique (List.pairwise_iff_getElem.2 fun a b ha hb hab => ?_) hp
  have := h a b ha hab hb
  rw [getD_at ha, getD_at hb] at this
  exact this

/-- the sum from the d-th on, up to the i-th -/
def psum (d i : Nat) (L : List Int) : Int := ((L.drop d).take (i - d)).sum
theorem psum_zero (d : Nat) (L : List Int) : psum d d L = 0 := by simp [psum]
theorem psum_step {d i : Nat} {L : List Int} (hd : d ≤ i) (hi : i < L.length) : psum d (i + 1) L = psum d i L + L.getD i 0 := by
  unfold psum
  rw [show i + 1 - d = (i - d) + 1 by omega, List.take_add_one, List.sum_append, List.getElem?_drop, show d + (i - d) = i by omega, List.getElem?_eq_getElem hi, getD_at hi]
  simp
theorem psum_tot {d : Nat} {M : List Int} (h : 2 * d ≤ M.length) : psum d (M.length - d) (srt M) = tot d M := by
  unfold psum tot
  rw [show M.length - d - d = M.length - 2 * d by omega]
theorem psum_le {d : Nat} {L : List Int} (hL : ∀ x, x ∈ L → -1 ≤ x ∧ x ≤ 1000) : ∀ i, d ≤ i → i ≤ L.length → -(i : Int) ≤ psum d i L ∧ psum d i L ≤ 1000 * (i : Int) := by
  intro i
  induction i with
  | zero => intro h _; have : d = 0 := by omega
            subst this; rw [psum_zero]; omega
  | succ i ih =>
    intro hd hi
    by_cases e : d = i + 1
    · subst e; rw [psum_zero]; omega
    · have h1 := ih (by omega) (by omega)
      rw [psum_step (by omega) (by omega)]
      have h2 := hL (L.getD i 0) (by rw [getD_at (by omega)]; exact List.getElem_mem _)
      omega

end Go.Proofs.Ytffnlimgjnhmpaa
