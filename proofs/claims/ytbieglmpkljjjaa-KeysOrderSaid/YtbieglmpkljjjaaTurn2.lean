/-
  Turn2: Short of a book whose marks and sorts come in another order.
-/
import Derived.Test.YtbieglmpkljjjaaTurn1
import Derived.Test.YtbieglmpkljjjaaShortR
namespace Go.Proofs.Ytbieglmpkljjjaa
open Go.RowKit

theorem turn_end {B C : KB} {s t p r : Nat → Nat} (H : Turn B C s t p r) (hG : GoodB B) {x : Nat → Int} (hx : x ∈ allX B) {y : Nat → Int} (h : walk C.D y = walk B.D x) : endOf C.D y = if endOf B.D x = -1 then -1 else ((p (endOf B.D x).toNat : Nat) : Int) := by
  obtain ⟨pre, k, _, hk, hm, hl, he⟩ := walk_last hG.D (all_good hx)
  have e1 : endOf C.D y = C.D.S k := by unfold endOf; rw [h, hl]
  rw [e1, he]
  by_cases h1 : B.D.S k = -1
  · rw [if_pos h1]; exact H.S0 k hk h1
  · rw [if_neg h1]
    rcases (hG.D.stop k hk hm).2 with e | ⟨e2, e3⟩
    · exact absurd e h1
    · have e : B.D.S k = ((B.D.S k).toNat : Nat) := by omega
      exact H.S1 k hk _ e
theorem turn_same {B C : KB} {s t p r : Nat → Nat} (H : Turn B C s t p r) (hG : GoodB B) {c c' : Nat → Int} (hc : ∀ m, m < B.nv → c' (s m) = c m) (h : sameZ B (cubeF B c) = true) : sameZ C (cubeF C c') = true := by
  have hGC := turn_good H hG
  have hb := turn_back H hG
  rw [sameZ_iff] at h ⊢
  have key : ∀ z, z ∈ cubeF C c' → ∃ y, y ∈ cubeF B c ∧ endZ C z = if endZ B y = -1 then -1 else ((p (endZ B y).toNat : Nat) : Int) := fun z hz => by
    obtain ⟨hz1, hz2⟩ := cubeF_mem.1 hz
    obtain ⟨x, hx, hw, hxs⟩ := turn_mem hb hGC (x := atL z) (List.mem_map.2 ⟨z, hz1, rfl⟩)
    obtain ⟨y, hy, rfl⟩ := List.mem_map.1 hx
    refine ⟨y, cubeF_mem.2 ⟨hy, fun m hm => ?_⟩, turn_end H hG hx hw.symm⟩
    have hsm := (H.hs m hm)
    have e := hxs (s m) (by rw [H.nv]; exact hsm.1)
    rw [hsm.2] at e
    rw [e, ← hc m hm]
    exact hz2 (s m) (by rw [H.nv]; exact hsm.1)
  intro z hz y hy
  obtain ⟨z1, h1, e1⟩ := key z hz
  obtain ⟨y1, h2, e2⟩ := key y hy
  rw [e1, e2, h z1 h1 y1 h2]
theorem bestM_spec (B : KB) (K : (Nat → Int) → Int) (c : Nat → Int) : ∀ n, bestM B K c n ≤ B.nv + 1 ∧ (∀ m, m < n → c m = -1 → bestM B K c n ≤ costM B K c m) ∧ ∀ x : Int, x ≤ B.nv + 1 → (∀ m, m < n → c m = -1 → x ≤ costM B K c m) → x ≤ bestM B K c n := by
  intro n
  induction n with
  | zero => exact ⟨Int.le_refl _, fun m hm => absurd hm (Nat.not_lt_zero m), fun x h _ => h⟩
  | succ n ih =>
    obtain ⟨h1, h2, h3⟩ := ih
    simp only [bestM]
    by_cases hn : c n = -1
    · rw [if_pos hn]
      refine ⟨by omega, fun m hm hcm => ?_, fun x hx hall => ?_⟩
      · rcases Nat.lt_succ_iff_lt_or_eq.1 hm with e | e
        · have := h2 m e hcm; omega
        · subst e; omega
      · have := h3 x hx fun m hm => hall m (by omega)
        have := hall n (by omega) hn
        omega
    · rw [if_neg hn]
      refine ⟨h1, fun m hm hcm => ?_, fun x hx hall => h3 x hx fun m hm => hall m (by omega)⟩
      rcases Nat.lt_succ_iff_lt_or_eq.1 hm with e | e
      · exact h2 m e hcm
      · subst e; exact absurd hcm hn
theorem turn_costC {B C : KB} {s t p r : Nat → Nat} (H : Turn B C s t p r) (hG : GoodB B) : ∀ f c c', (∀ m, m < B.nv → c' (s m) = c m) → costC C f c' = costC B f c := by
  have hGC := turn_good H hG
  have hb := turn_back H hG
  intro f
  induction f with
  | zero => intro c c' _; rfl
  | succ f ih =>
    intro c c' hc
    have hc' : ∀ m, m < C.nv → c (t m) = c' m := fun m hm => by
      rw [H.nv] at hm
      have := hc (t m) (H.ht m hm).1
      rw [(H.ht m hm).2] at this
      exact this.symm
    have hsame : sameZ C (cubeF C c') = sameZ B (cubeF B c) := by
      rw [Bool.eq_iff_iff]
      exact ⟨turn_same hb hGC hc', turn_same H hG hc⟩
    simp only [costC]
    rw [hsame]
    have hcost : ∀ m, m < B.nv → costM C (costC C f) c' (s m) = costM B (costC B f) c m := fun m hm => by
      unfold costM
      rw [H.V m hm]
      congr 1
      funext v
      refine ih _ _ fun k hk => ?_
      unfold upd
      by_cases e : k = m
      · subst e; rw [if_pos rfl, if_pos rfl]
      · rw [if_neg e, if_neg fun e2 => e (by have h1 := (H.hs k hk).2; rw [e2, (H.hs m hm).2] at h1; exact h1.symm)]
        exact hc k hk
    have hbest : bestM C (costC C f) c' C.nv = bestM B (costC B f) c B.nv := by
      obtain ⟨a1, a2, a3⟩ := bestM_spec B (costC B f) c B.nv
      obtain ⟨b1, b2, b3⟩ := bestM_spec C (costC C f) c' C.nv
      have en : (C.nv : Int) = (B.nv : Int) := by rw [H.nv]
      refine Int.le_antisymm (a3 _ (by omega) fun m hm h => ?_) (b3 _ (by omega) fun m hm h => ?_)
      · rw [← hcost m hm]
        exact b2 (s m) (by rw [H.nv]; exact (H.hs m hm).1) (by rw [hc m hm]; exact h)
      · have hm' := hm
        rw [H.nv] at hm'
        have ht := H.ht m hm'
        have := hcost (t m) ht.1
        rw [ht.2] at this
        rw [this]
        exact a2 (t m) ht.1 (by rw [hc' m hm]; exact h)
    rw [hbest]
theorem turn_eShort {B C : KB} {s t p r : Nat → Nat} (H : Turn B C s t p r) (hG : GoodB B) : eShort C = eShort B := by
  have e : costK5 C anyC = costK5 B anyC := turn_costC H hG 5 anyC anyC fun _ _ => rfl
  unfold eShort
  rw [ok_of_good hG, ok_of_good (turn_good H hG), e]

end Go.Proofs.Ytbieglmpkljjjaa
