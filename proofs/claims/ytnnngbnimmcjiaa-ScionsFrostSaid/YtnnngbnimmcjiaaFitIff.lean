/-
  FitIff: what fits, said without an order.
-/
import Derived.Test.YtnnngbnimmcjiaaRFits
namespace Go.Proofs.Ytnnngbnimmcjiaa

theorem cT_snoc2 (B : SB) (m : List Nat) (k s f : Nat) : cT B (m ++ [k]) s f = cT B m s f + (if B.sN k = s ∧ B.fN k = f then 1 else 0) := cT_snoc B m k s f

/-- a gift fits just if it takes of no sort and of no garden more than there is, and no sort comes twice to gardens of one frost -/
theorem fit_iff {B : SB} {p : Nat} (hG : GoodL B p) : ∀ (n : Nat) (l : List Nat), l.length = n → (∀ k, k ∈ l → k < B.nw) →
    (fitL B l = true ↔ (∀ s, s < B.ns → (cS B l s : Int) ≤ B.C s) ∧ (∀ a, a < B.ng → (cG B l a : Int) ≤ B.P a) ∧ ∀ s f, cT B l s f ≤ 1) := by
  intro n
  induction n with
  | zero =>
    intro l hl _
    rw [List.length_eq_zero_iff.1 hl]
    exact ⟨fun _ => ⟨fun s hs => by have := (hG.C s hs).1; simp [cS]; omega, fun a ha => by have := (hG.P a ha).1; simp [cG]; omega, fun s f => by simp [cT]⟩, fun _ => rfl⟩
  | succ n ih =>
    intro l hl hk
    constructor
    · intro hf
      exact ⟨(fit_le hG l hk hf).1, (fit_le hG l hk hf).2, fun s f => cT_one B s f _ l rfl hf⟩
    · intro ⟨h1, h2, h3⟩
      obtain ⟨m, k, rfl⟩ : ∃ m k, l = m ++ [k] := ⟨l.dropLast, l.getLast (by intro e; rw [e] at hl; cases hl), (List.dropLast_concat_getLast _).symm⟩
      have hm : m.length = n := by simpa using hl
      have hmk : ∀ j, j ∈ m → j < B.nw := fun j hj => hk j (List.mem_append.2 (.inl hj))
      have hkn := hk k (by simp)
      have hfm : fitL B m = true := (ih m hm hmk).2 ⟨fun s hs => by have := h1 s hs; rw [cS_app] at this; omega, fun a ha => by have := h2 a ha; rw [cG_app] at this; omega, fun s f => by have := h3 s f; rw [cT_snoc2] at this; omega⟩
      rw [fitL_snoc, hfm, Bool.true_and, add_iff hG hmk hkn hfm, decide_eq_true (h1 _ (hG.sN hkn).1), decide_eq_true (h2 _ (hG.gN hkn).1), Bool.true_and, Bool.true_and, cT_fr]
      have := h3 (B.sN k) (B.fN k)
      rw [cT_snoc2, if_pos ⟨rfl, rfl⟩] at this
      rw [decide_eq_false (by omega)]
      rfl

/-- a part of a gift that fits fits -/
theorem fit_sub {B : SB} {p : Nat} (hG : GoodL B p) {l m : List Nat} (hs : m.Sublist l) (hk : ∀ k, k ∈ l → k < B.nw) (hf : fitL B l = true) : fitL B m = true := by
  obtain ⟨h1, h2, h3⟩ := (fit_iff hG _ l rfl hk).1 hf
  refine (fit_iff hG _ m rfl fun k h => hk k (hs.subset h)).2 ⟨fun s h => ?_, fun a h => ?_, fun s f => ?_⟩
  · have := h1 s h; have : cS B m s ≤ cS B l s := hs.countP_le; omega
  · have := h2 a h; have : cG B m a ≤ cG B l a := hs.countP_le; omega
  · have := h3 s f; have : cT B m s f ≤ cT B l s f := hs.countP_le; omega

end Go.Proofs.Ytnnngbnimmcjiaa
