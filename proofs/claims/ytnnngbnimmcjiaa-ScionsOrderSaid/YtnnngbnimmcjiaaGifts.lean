/-
  Gifts: the gifts of a list, in their order, in plain words.
-/
import Derived.Test.YtnnngbnimmcjiaaPure
namespace Go.Proofs.Ytnnngbnimmcjiaa

/-- the want that may come next -/
def nxG (g : List Nat) : Nat := match g.getLast? with | none => 0 | some k => k + 1
theorem nxG_nil : nxG [] = 0 := rfl
theorem nxG_snoc (g : List Nat) (k : Nat) : nxG (g ++ [k]) = k + 1 := by simp [nxG]

/-- ascending wants of a list, which fit -/
structure GOK (B : SB) (g : List Nat) : Prop where
  len : g.length ≤ nxG g
  top : nxG g ≤ B.nw
  lt : ∀ k, k ∈ g → k < nxG g
  fit : fitL B g = true
theorem GOK.nil (B : SB) : GOK B [] := ⟨Nat.le_refl _, Nat.zero_le _, fun _ h => (by cases h), rfl⟩
theorem GOK.snoc {B : SB} {g : List Nat} (h : GOK B g) {k : Nat} (hk : nxG g ≤ k) (hn : k < B.nw) (ha : addOK B g k = true) : GOK B (g ++ [k]) := by
  refine ⟨?_, ?_, fun m hm => ?_, ?_⟩
  · rw [nxG_snoc, List.length_append]; have := h.len; simp; omega
  · rw [nxG_snoc]; omega
  · rw [nxG_snoc]
    rcases List.mem_append.1 hm with h1 | h1
    · have := h.lt m h1; omega
    · rw [List.mem_singleton.1 h1]; omega
  · rw [fitL_snoc, h.fit, ha]; rfl

/-- one want on -/
theorem tailG_step (B : SB) (g : List Nat) {i : Nat} (hi : i < B.nw) : tailG B (B.nw - i) g = (if addOK B g i then (g ++ [i]) :: tailG B (B.nw - (i + 1)) (g ++ [i]) else []) ++ tailG B (B.nw - (i + 1)) g := by
  have e : B.nw - i = (B.nw - (i + 1)) + 1 := by omega
  have e2 : B.nw - (B.nw - (i + 1) + 1) = i := by omega
  rw [e, tailG, e2]
theorem tailG_end (B : SB) (g : List Nat) {i : Nat} (hi : ¬ i < B.nw) : tailG B (B.nw - i) g = [] := by
  rw [show B.nw - i = 0 by omega]; rfl

/-- all of them are ascending, and fit -/
theorem tailG_ok (B : SB) : ∀ (f : Nat) (g : List Nat), GOK B g → nxG g + f ≤ B.nw → ∀ x, x ∈ tailG B f g → GOK B x := by
  intro f
  induction f with
  | zero => intro g _ _ x hx; cases hx
  | succ f ih =>
    intro g hg hf x hx
    unfold tailG at hx
    rcases List.mem_append.1 hx with h1 | h1
    · cases ha : addOK B g (B.nw - (f + 1)) with
      | false => rw [ha] at h1; cases h1
      | true =>
        rw [ha] at h1
        have hs := hg.snoc (k := B.nw - (f + 1)) (by omega) (by omega) ha
        rcases List.mem_cons.1 h1 with h2 | h2
        · rw [h2]; exact hs
        · exact ih _ hs (by rw [nxG_snoc]; omega) x h2
    · exact ih g hg (by omega) x h1
theorem giftsL_ok {B : SB} {x : List Nat} (h : x ∈ giftsL B) : GOK B x := by
  rcases List.mem_cons.1 h with h1 | h1
  · rw [h1]; exact GOK.nil B
  · exact tailG_ok B _ _ (GOK.nil B) (by rw [nxG_nil]; omega) x h1

/-- all that go on from one are there -/
theorem tailG_all (B : SB) : ∀ (m : List Nat) (f : Nat) (g : List Nat), m ≠ [] → fitFrom B g m = true → (∀ k, k ∈ m → B.nw ≤ k + f ∧ k < B.nw) → m.Pairwise (· < ·) → g ++ m ∈ tailG B f g := by
  intro m
  induction m with
  | nil => intro f g h; exact absurd rfl h
  | cons k m ih =>
    intro f
    induction f with
    | zero =>
      intro g _ _ hk _
      have := hk k (by simp)
      omega
    | succ f ihf =>
      intro g hne hfit hk hp
      unfold tailG
      by_cases e : k = B.nw - (f + 1)
      · refine List.mem_append.2 (.inl ?_)
        simp only [fitFrom, Bool.and_eq_true] at hfit
        rw [← e, if_pos hfit.1]
        by_cases hm : m = []
        · subst hm; simp
        · refine List.mem_cons.2 (.inr ?_)
          have h := ih f (g ++ [k]) hm hfit.2 (fun j hj => ?_) (List.pairwise_cons.1 hp).2
          · simpa using h
          · have h1 := hk j (by simp [hj])
            have h2 := (List.pairwise_cons.1 hp).1 j hj
            omega
      · refine List.mem_append.2 (.inr (ihf g hne hfit (fun j hj => ?_) hp))
        have h1 := hk j hj
        refine ⟨?_, h1.2⟩
        have h0 := hk k (by simp)
        rcases List.mem_cons.1 hj with h2 | h2
        · subst h2; omega
        · have h3 := (List.pairwise_cons.1 hp).1 j h2
          omega
theorem giftsL_all {B : SB} {m : List Nat} (hfit : fitL B m = true) (hk : ∀ k, k ∈ m → k < B.nw) (hp : m.Pairwise (· < ·)) : m ∈ giftsL B := by
  by_cases hm : m = []
  · subst hm; exact List.mem_cons.2 (.inl rfl)
  · refine List.mem_cons.2 (.inr ?_)
    have := tailG_all B m B.nw [] hm hfit (fun k h => ⟨by omega, hk k h⟩) hp
    simpa using this

end Go.Proofs.Ytnnngbnimmcjiaa
