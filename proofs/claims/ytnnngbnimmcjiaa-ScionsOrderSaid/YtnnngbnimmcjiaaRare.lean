/-
  Rare: the rarest first, in words of lists.
-/
import Derived.Test.YtnnngbnimmcjiaaAlone
import Derived.Test.YtnnngbnimmcjiaaLawFits
namespace Go.Proofs.Ytnnngbnimmcjiaa
open Go.RowKit

def aloneN (B : SB) (s : Nat) : Nat := cS B (bestL (fun g => cS B g s) (giftsL B)) s
theorem best_in {B : SB} (f : List Nat → Nat) : bestL f (giftsL B) ∈ giftsL B := by
  rcases bestL_mem f (giftsL B) with h | h
  · rw [h]; simp [giftsL]
  · exact h
theorem alone_ge {B : SB} {g : List Nat} (hg : g ∈ giftsL B) (s : Nat) : cS B g s ≤ aloneN B s := best_ge (f := fun g => cS B g s) _ g hg
theorem sumC_mono {c d : Nat → Nat} : ∀ n, (∀ i, i < n → c i ≤ d i) → sumC c n ≤ sumC d n := by
  intro n
  induction n with
  | zero => intro _; exact Nat.le_refl _
  | succ n ih => intro h; simp only [sumC]; have := ih (fun i hi => h i (by omega)); have := h n (by omega); omega
theorem safeC_mono {c d : Nat → Nat} : ∀ n, (∀ i, i < n → c i ≤ d i) → safeC c n ≤ safeC d n := by
  intro n
  induction n with
  | zero => intro _; exact Nat.le_refl _
  | succ n ih =>
    intro h
    simp only [safeC]
    have := ih (fun i hi => h i (by omega))
    have := h n (by omega)
    split <;> split <;> omega
theorem sum_pad {c : Nat → Nat} {n : Nat} (hc : ∀ i, n ≤ i → c i = 0) : ∀ m, sumC c (n + m) = sumC c n := by
  intro m
  induction m with
  | zero => rfl
  | succ m ih =>
    rw [← Nat.add_assoc]
    simp only [sumC]
    rw [hc (n + m) (by omega), ih]
    rfl
theorem sumG_ns {B : SB} (hG : GoodL B 4) {g : List Nat} (h : GOK B g) : sumG B g = sumC (cS B g) B.ns := by
  have h1 := sum_pad (n := B.ns) (h.cS0 hG) (4 - B.ns)
  have := hG.ns
  rw [show B.ns + (4 - B.ns) = 4 by omega] at h1
  exact h1
theorem rare_first {B : SB} (hG : GoodL B 4) (h0 : 0 < B.ns) : cS B (bestL (rankG B) (giftsL B)) 0 = aloneN B 0 := by
  have h1 := alone_ge (best_in (B := B) (rankG B)) 0
  have h2 := best_ge (f := rankG B) _ _ (best_in (B := B) (fun g => cS B g 0))
  rcases Nat.lt_or_ge (cS B (bestL (rankG B) (giftsL B)) 0) (aloneN B 0) with h | h
  · have ok1 := giftsL_ok (best_in (B := B) (rankG B))
    have ok2 := giftsL_ok (best_in (B := B) (fun g => cS B g 0))
    have hb : ∀ {g : List Nat}, GOK B g → ∀ i, cS B g i ≤ 4 := fun {g} hg i => by
      rcases Nat.lt_or_ge i B.ns with h | h
      · exact hg.cS4 hG i h
      · rw [hg.cS0 hG i h]; omega
    have := rank_lt (c := cS B (bestL (fun g => cS B g 0) (giftsL B))) (d := cS B (bestL (rankG B) (giftsL B))) (k := 0) 4 (fun i _ => ⟨hb ok2 i, hb ok1 i⟩) (by omega) (fun j hj => by omega) h
    unfold rankG at h2 this
    omega
  · omega
theorem rare_sum {B : SB} (hG : GoodL B 4) : sumC (cS B (bestL (rankG B) (giftsL B))) B.ns ≤ sumN B := by
  rw [← sumG_ns hG (giftsL_ok (best_in _))]
  exact best_ge (f := sumG B) _ _ (best_in _)
theorem rare_all {B : SB} (hG : GoodL B 4) : sumN B ≤ sumC (aloneN B) B.ns := by
  unfold sumN
  rw [sumG_ns hG (giftsL_ok (best_in _))]
  exact sumC_mono _ fun i _ => alone_ge (best_in _) i
theorem rare_safe {B : SB} (hG : GoodL B 4) : safeN B ≤ safeC (aloneN B) B.ns := by
  unfold safeN
  rw [safeG_ns hG (giftsL_ok (best_in _))]
  exact safeC_mono _ fun i _ => alone_ge (best_in _) i
theorem alone_le {B : SB} (hG : GoodL B 4) {s : Nat} (hs : s < B.ns) : (aloneN B s : Int) ≤ B.C s := by
  have h := giftsL_ok (best_in (B := B) (fun g => cS B g s))
  exact (fit_le hG _ (fun k hk => by have := h.lt k hk; have := h.top; omega) h.fit).1 s hs
theorem sumC_le4 {c : Nat → Nat} : ∀ n, (∀ i, i < n → c i ≤ 4) → sumC c n ≤ 4 * n := by
  intro n
  induction n with
  | zero => intro _; exact Nat.le_refl _
  | succ n ih => intro h; simp only [sumC]; have := ih (fun i hi => h i (by omega)); have := h n (by omega); omega

end Go.Proofs.Ytnnngbnimmcjiaa
