/-
  OneEnd: oneEnd of package keys.
-/
import Derived.Test.YtbieglmpkljjjaaShort0
import Derived.Test.YtbieglmpkljjjaaShortR
namespace Go.Proofs.Ytbieglmpkljjjaa
open Go.RowKit Go.Shelf

attribute [local go_sem] Oper.semAt_some

/-- the ends of some fruits, as a set -/
def endN (B : KB) (x : Nat → Int) : Nat := (endOf B.D x + 1).toNat % 8
def endsS (B : KB) (l : List (Nat → Int)) : Nat := l.foldl (fun s x => put1 s (endN B x)) 0
theorem endsS_snoc (B : KB) (l : List (Nat → Int)) (x : Nat → Int) : endsS B (l ++ [x]) = put1 (endsS B l) (endN B x) := by simp [endsS]
theorem endN_lt (B : KB) (x : Nat → Int) : endN B x < 8 := Nat.mod_lt _ (by omega)
theorem ends_lt' (B : KB) : ∀ (l : List (Nat → Int)) (s : Nat), s < 256 → l.foldl (fun s x => put1 s (endN B x)) s < 256 := by
  intro l
  induction l with
  | nil => intro s hs; exact hs
  | cons a l ih => intro s hs; exact ih _ (put1_lt hs (endN_lt B a))
theorem endsS_lt (B : KB) (l : List (Nat → Int)) : endsS B l < 256 := ends_lt' B l 0 (by omega)
theorem ends_bit' (B : KB) (j : Nat) : ∀ (l : List (Nat → Int)) (s : Nat), (l.foldl (fun s x => put1 s (endN B x)) s).testBit j = (s.testBit j || l.any fun x => decide (endN B x = j)) := by
  intro l
  induction l with
  | nil => intro s; simp
  | cons a l ih => intro s; simp only [List.foldl_cons]; rw [ih, put1_bit, List.any_cons, Bool.or_assoc]
theorem endsS_bit (B : KB) (l : List (Nat → Int)) (j : Nat) : (endsS B l).testBit j = l.any fun x => decide (endN B x = j) := by
  unfold endsS; rw [ends_bit']; simp
theorem cnt_oneC {p : Nat → Bool} : ∀ {n : Nat}, cnt n p = 1 → ∀ i j, i < n → j < n → p i = true → p j = true → i = j := by
  intro n
  induction n with
  | zero => intro h; simp [cnt] at h
  | succ n ih =>
    intro h i j hi hj h1 h2
    simp only [cnt] at h
    by_cases hp : p n = true
    · rw [if_pos hp] at h
      have h0 := cnt_noneC (p := p) (n := n) (by omega)
      have hin : i = n := by
        by_cases e : i = n
        · exact e
        · have := h0 i (by omega); rw [h1] at this; cases this
      have hjn : j = n := by
        by_cases e : j = n
        · exact e
        · have := h0 j (by omega); rw [h2] at this; cases this
      omega
    · rw [if_neg hp] at h
      have hin : i ≠ n := fun e => hp (e ▸ h1)
      have hjn : j ≠ n := fun e => hp (e ▸ h2)
      exact ih (by omega) i j (by omega) (by omega) h1 h2
theorem cnt_single {p : Nat → Bool} {k : Nat} (hk : ∀ j, p j = decide (j = k)) : ∀ n, cnt n p = if k < n then 1 else 0 := by
  intro n
  induction n with
  | zero => simp [cnt]
  | succ n ih =>
    simp only [cnt]
    rw [ih, hk n]
    by_cases e : n = k
    · subst e; simp
    · by_cases h : k < n
      · simp [h, e]; omega
      · simp [h, e]; omega
/-- one end is one bit -/
theorem ends_one {B : KB} {l : List (Nat → Int)} (h0 : l ≠ []) (h : ∀ x, x ∈ l → (0 ≤ endOf B.D x + 1 ∧ endOf B.D x + 1 < 8)) : (decide (many (endsS B l) = 1)) = true ↔ ∀ x, x ∈ l → ∀ y, y ∈ l → endOf B.D x = endOf B.D y := by
  rw [decide_eq_true_eq]
  unfold many
  constructor
  · intro h1 x hx y hy
    have hx1 := h x hx
    have hy1 := h y hy
    have := cnt_oneC h1 (endN B x) (endN B y) (endN_lt B x) (endN_lt B y) (by rw [endsS_bit, List.any_eq_true]; exact ⟨x, hx, by simp⟩) (by rw [endsS_bit, List.any_eq_true]; exact ⟨y, hy, by simp⟩)
    unfold endN at this
    omega
  · intro h1
    obtain ⟨x, l', rfl⟩ := List.exists_cons_of_ne_nil h0
    rw [cnt_single (k := endN B x) fun j => ?_, if_pos (endN_lt B x)]
    rw [endsS_bit, Bool.eq_iff_iff, List.any_eq_true, decide_eq_true_eq]
    constructor
    · rintro ⟨y, hy, e⟩
      rw [decide_eq_true_eq] at e
      rw [← e]
      unfold endN
      rw [h1 x (by simp) y hy]
    · intro e
      exact ⟨x, by simp, by rw [e]; simp⟩

/-- the fruits of a cube, and its list -/
theorem endOf_cong {B : KB} (hG : GoodB B) {x y : Nat → Int} (hx : GoodX B.nv B.V B.nv x) (h : ∀ i, i < B.nv → x i = y i) : endOf B.D x = endOf B.D y := by
  unfold endOf
  rw [walk_congr hG.D hx h]

end Go.Proofs.Ytbieglmpkljjjaa
