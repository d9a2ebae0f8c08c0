/-
  Fit: a gift fits just if neither sorts, nor places, nor frosts stand against it.
-/
import Derived.Test.YtnnngbnimmcjiaaGifts
namespace Go.Proofs.Ytnnngbnimmcjiaa

theorem cS_app (B : SB) (l m : List Nat) (s : Nat) : cS B (l ++ m) s = cS B l s + cS B m s := by simp [cS, List.countP_append]
theorem cG_app (B : SB) (l m : List Nat) (s : Nat) : cG B (l ++ m) s = cG B l s + cG B m s := by simp [cG, List.countP_append]

/-- what fits takes no more than there is -/
theorem fit_le {B : SB} {p : Nat} (hG : GoodL B p) : ∀ (l : List Nat), (∀ k, k ∈ l → k < B.nw) → fitL B l = true → (∀ s, s < B.ns → (cS B l s : Int) ≤ B.C s) ∧ (∀ a, a < B.ng → (cG B l a : Int) ≤ B.P a) := by
  intro l
  generalize hn : l.length = n
  induction n generalizing l with
  | zero =>
    intro _ _
    have : l = [] := List.length_eq_zero_iff.1 hn
    subst this
    exact ⟨fun s hs => by have := (hG.C s hs).1; simp [cS]; omega, fun a ha => by have := (hG.P a ha).1; simp [cG]; omega⟩
  | succ n ih =>
    intro hl hf
    obtain ⟨m, k, rfl⟩ : ∃ m k, l = m ++ [k] := ⟨l.dropLast, l.getLast (by intro e; rw [e] at hn; cases hn), (List.dropLast_concat_getLast _).symm⟩
    rw [fitL_snoc, Bool.and_eq_true] at hf
    have hm : m.length = n := by simpa using hn
    obtain ⟨h1, h2⟩ := ih m hm (fun j hj => hl j (List.mem_append.2 (.inl hj))) hf.1
    have hk := hl k (by simp)
    have ha := hf.2
    simp only [addOK, Bool.and_eq_true, decide_eq_true_eq] at ha
    refine ⟨fun s hs => ?_, fun a hs => ?_⟩
    · rw [cS_snoc]
      have := h1 s hs
      split
      · rename_i e; subst e; have := ha.1.1; omega
      · omega
    · rw [cG_snoc]
      have := h2 a hs
      split
      · rename_i e; subst e; have := ha.1.2; omega
      · omega

/-- one want more fits just if .. -/
theorem add_iff {B : SB} {p : Nat} (hG : GoodL B p) {l : List Nat} {k : Nat} (hl : ∀ j, j ∈ l → j < B.nw) (hk : k < B.nw) (hf : fitL B l = true) :
    addOK B l k = (decide ((cS B (l ++ [k]) (B.sN k) : Int) ≤ B.C (B.sN k)) && decide ((cG B (l ++ [k]) (B.gN k) : Int) ≤ B.P (B.gN k)) && !fr B l (B.sN k) (B.fN k)) := by
  obtain ⟨h1, h2⟩ := fit_le hG l hl hf
  have g1 := h1 _ (hG.sN hk).1
  have g2 := h2 _ (hG.gN hk).1
  unfold addOK
  rw [cS_snoc, cG_snoc, if_pos rfl, if_pos rfl]
  congr 2
  · exact decide_eq_decide.2 ⟨fun h => by omega, fun h => by omega⟩
  · exact decide_eq_decide.2 ⟨fun h => by omega, fun h => by omega⟩

end Go.Proofs.Ytnnngbnimmcjiaa
