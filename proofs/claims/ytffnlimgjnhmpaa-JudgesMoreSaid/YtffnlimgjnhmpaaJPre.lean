/-
  JPre: what Needs promises; a judging is a show.
-/
import Derived.Test.YtffnlimgjnhmpaaJLRank
import Derived.Test.YtffnlimgjnhmpaaJdg
namespace Go.Proofs.Ytffnlimgjnhmpaa
open Go.RowKit

theorem fstI_some {p : Int → Bool} : ∀ {m : Nat} {x n : Int}, fstI p m x = some n → x ≤ n ∧ n < x + m ∧ p n = true ∧ ∀ y, x ≤ y → y < n → p y = false := by
  intro m
  induction m with
  | zero => intro x n h; cases h
  | succ m ih =>
    intro x n h
    unfold fstI at h
    split at h
    · rename_i hp; cases h; exact ⟨Int.le_refl _, by omega, hp, fun y h1 h2 => by omega⟩
    · rename_i hp
      obtain ⟨a, b, c, d⟩ := ih h
      refine ⟨by omega, by omega, c, fun y h1 h2 => ?_⟩
      by_cases e : y = x
      · subst e; simpa using hp
      · exact d y (by omega) h2
theorem fstI_none {p : Int → Bool} : ∀ {m : Nat} {x : Int}, fstI p m x = none → ∀ y, x ≤ y → y < x + m → p y = false := by
  intro m
  induction m with
  | zero => intro x _ y h1 h2; omega
  | succ m ih =>
    intro x h y h1 h2
    unfold fstI at h
    split at h
    · cases h
    · rename_i hp
      by_cases e : y = x
      · subst e; simpa using hp
      · exact ih h y (by omega) (by omega)
theorem nd_some {S : JB} {k : Nat} {n : Int} (h : ndF S k = some n) : loT S k ≤ n ∧ n ≤ hiT S k ∧ nds S k n = true ∧ prz S k ≠ 2 ∧ (prz S k = 1 ↔ n = loT S k) := by
  have hlh := lo_hi S k
  obtain ⟨a, b, c, d⟩ := fstI_some h
  have hn : n ≤ hiT S k := by omega
  refine ⟨a, hn, c, fun h2 => ?_, fun h1 => ?_, fun h1 => ?_⟩
  · have := nds_never h2
    rw [nds_mono hn c] at this; cases this
  · by_cases e : n = loT S k
    · exact e
    · have h3 := d (loT S k) (Int.le_refl _) (by omega)
      rw [nds_low, decide_eq_true h1] at h3; cases h3
  · rw [h1, nds_low] at c
    exact of_decide_eq_true c
theorem nd_none {S : JB} {k : Nat} (h : ndF S k = none) : prz S k ≠ 1 := fun h1 => by
  have hlh := lo_hi S k
  have := fstI_none h (loT S k) (Int.le_refl _) (by omega)
  rw [nds_low, decide_eq_true h1] at this; cases this
theorem jgs_good {S : JB} {m : Nat → List Int} (h : GoodS S) (hj : ∀ i, i < S.np → Jdg (S.pts i) (m i)) : GoodS (JGS S m) :=
  ⟨h.J1, h.J5, h.D0, h.DJ, h.Z0, h.Z6, h.np, h.sz, fun i hi => by
    show ((m i).length : Int) = S.J
    rw [(hj i hi).1]; exact h.len i hi, fun i hi x hx => by
    obtain ⟨k, hk, rfl⟩ := List.getElem_of_mem (show x ∈ m i from hx)
    obtain ⟨hl, hc⟩ := hj i hi
    have hk' : k < (S.pts i).length := by rw [← hl]; exact hk
    have h1 := hc k hk' hk
    have h2 := h.pt i hi _ (List.getElem_mem hk')
    by_cases e : (S.pts i)[k] = -1
    · have := h1.1 e; omega
    · rw [h1.2 e]; exact h2⟩

end Go.Proofs.Ytffnlimgjnhmpaa
