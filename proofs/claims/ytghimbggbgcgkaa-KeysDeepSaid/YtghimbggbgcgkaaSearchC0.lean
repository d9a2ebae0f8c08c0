/-
  SearchC0: the search of package keys over cubes, without memory.
-/
import Derived.Test.YtghimbggbgcgkaaContC
namespace Go.Proofs.Ytghimbggbgcgkaa
open Go.RowKit Go.Maps

theorem CubeOk.small {B : KB} (hG : GoodB B) {c : Nat → Int} (h : CubeOk B c) : SmallC c := fun i _ => by
  by_cases hi : i < B.nv
  · have hV := (hG.V i hi).2
    rcases h.val i hi with e | ⟨h1, h2⟩ <;> omega
  · rw [h.out i (by omega)]; omega
theorem CubeOk.eq {B : KB} (h5 : B.nv ≤ 5) {c d : Nat → Int} (hc : CubeOk B c) (hd : CubeOk B d) (h : ∀ i, i < 5 → c i = d i) : c = d := by
  funext i
  by_cases hi : i < 5
  · exact h i hi
  · rw [hc.out i (by omega), hd.out i (by omega)]
theorem CubeOk.parts {B : KB} {c : Nat → Int} (h : CubeOk B c) {m : Nat} (hm : m < B.nv) {y : Nat} (hy : y < partQ B c m) (hV : 0 ≤ B.V m) : CubeOk B (partC c m y) := by
  unfold partC
  unfold partQ at hy
  split
  · rename_i e
    rw [if_pos e] at hy
    exact h.part hm (by omega)
  · exact h
theorem costK5_bd {B : KB} (h5 : B.nv ≤ 5) (c : Nat → Int) : 0 ≤ costK5 B c ∧ costK5 B c ≤ B.nv := by
  have h1 := freeC_le B c
  have h2 := costC_bd (B := B) 5 c (by omega)
  unfold costK5; omega
theorem costK5_one {B : KB} {c : Nat → Int} (h : sameZ B (cubeF B c) = true) : costK5 B c = 0 := by
  unfold costK5; simp only [costC]; rw [if_pos h]
theorem costK5_eq {B : KB} (h5 : B.nv ≤ 5) {c : Nat → Int} (h : sameZ B (cubeF B c) = false) : costK5 B c = bestM B (costK5 B) c B.nv := by
  have e : costK5 B c = bestM B (costC B 4) c B.nv := by unfold costK5; simp only [costC]; rw [if_neg (by rw [h]; simp)]
  rw [e]
  refine bestM_congr (fun m hm hc v => ?_) _ (Nat.le_refl _)
  have h1 := freeC_part (B := B) (v := v) hm hc
  have h2 := freeC_le B c
  exact costC_five h5 (by omega) (by omega)
theorem worst_maxC {f : Nat → Int} (h : ∀ v, 0 ≤ f v) : ∀ n, worstTo f (n + 1) = 1 + maxF f n := by
  intro n
  induction n with
  | zero => simp only [worstTo, maxF]; have := h 0; omega
  | succ n ih =>
    have : worstTo f (n + 1 + 1) = max (worstTo f (n + 1)) (f (n + 1) + 1) := rfl
    rw [this, ih]
    simp only [maxF]
    omega
theorem bestM_none {B : KB} {K : (Nat → Int) → Int} {c : Nat → Int} : ∀ n, (∀ i, i < n → c i ≠ -1) → bestM B K c n = B.nv + 1 := by
  intro n
  induction n with
  | zero => intro _; rfl
  | succ n ih => intro h; simp only [bestM]; rw [if_neg (h n (by omega)), ih fun i hi => h i (by omega)]
def costQ (B : KB) (c : Nat → Int) (m : Nat) : Int := costM B (costK5 B) c m
theorem costQ_bd {B : KB} (h5 : B.nv ≤ 5) {c : Nat → Int} {m : Nat} (hm : m < B.nv) (hc : c m = -1) : 0 ≤ costQ B c m ∧ costQ B c m ≤ B.nv := by
  unfold costQ costM
  refine worst_bd (by omega) _ fun v _ => ?_
  have h1 := freeC_part (B := B) (v := v) hm hc
  have h2 := freeC_le B c
  have h3 := freeC_le B (upd c m (v : Int))
  have h4 := costC_bd (B := B) 5 (upd c m (v : Int)) (by omega)
  unfold costK5; omega
/-- what question has found among the first m marks -/
def AskC (B : KB) (c : Nat → Int) (m : Nat) (mk k : Int) : Prop := (mk = -1 ∧ k = 0 ∧ ∀ i, i < m → c i ≠ -1) ∨ (mk ≠ -1 ∧ k = bestM B (costK5 B) c m)
theorem AskC.zero (B : KB) (c : Nat → Int) : AskC B c 0 (-1) 0 := .inl ⟨rfl, rfl, fun i h => absurd h (Nat.not_lt_zero i)⟩
theorem AskC.skip {B : KB} {c : Nat → Int} {m : Nat} {mk k : Int} (h : AskC B c m mk k) (hs : c m ≠ -1) : AskC B c (m + 1) mk k := by
  rcases h with ⟨h1, h2, h3⟩ | ⟨h1, h2⟩
  · refine .inl ⟨h1, h2, fun i hi => ?_⟩
    by_cases e : i = m
    · rw [e]; exact hs
    · exact h3 i (by omega)
  · refine .inr ⟨h1, ?_⟩
    simp only [bestM]; rw [if_neg hs]; exact h2
theorem AskC.take {B : KB} (h5 : B.nv ≤ 5) {c : Nat → Int} {m : Nat} {mk k : Int} (h : AskC B c m mk k) (hm : m < B.nv) (hs : c m = -1) (hc : mk = -1 ∨ costQ B c m < k) : AskC B c (m + 1) m (costQ B c m) := by
  refine .inr ⟨by omega, ?_⟩
  have hb := costQ_bd h5 hm hs
  simp only [bestM]; rw [if_pos hs]
  show costQ B c m = min _ (costQ B c m)
  rcases h with ⟨h1, h2, h3⟩ | ⟨h1, h2⟩
  · rw [bestM_none m h3]; omega
  · rcases hc with hc | hc
    · exact absurd hc h1
    · rw [← h2]; omega
theorem AskC.keep {B : KB} {c : Nat → Int} {m : Nat} {mk k : Int} (h : AskC B c m mk k) (hs : c m = -1) (hm : mk ≠ -1) (hc : ¬ costQ B c m < k) : AskC B c (m + 1) mk k := by
  rcases h with ⟨h1, h2, h3⟩ | ⟨h1, h2⟩
  · exact absurd h1 hm
  · refine .inr ⟨h1, ?_⟩
    simp only [bestM]; rw [if_pos hs]
    show k = min _ (costQ B c m)
    rw [← h2]; omega
theorem AskC.found {B : KB} (h5 : B.nv ≤ 5) {c : Nat → Int} {mk k : Int} (h : AskC B c B.nv mk k) (hs : sameZ B (cubeF B c) = false) : k = costK5 B c := by
  rcases h with ⟨h1, h2, h3⟩ | ⟨h1, h2⟩
  · have h0 : freeC B c = 0 := by
      unfold freeC
      have key : ∀ n, n ≤ B.nv → cnt n (fun i => decide (c i = -1)) = 0 := by
        intro n
        induction n with
        | zero => intro _; rfl
        | succ n ihn =>
          intro hn
          simp only [cnt]
          rw [ihn (by omega), if_neg]
          rw [decide_eq_true_eq]
          exact h3 n (by omega)
      exact key _ (Nat.le_refl _)
    have := same_full h0
    rw [hs] at this; cases this
  · rw [costK5_eq h5 hs]; exact h2
/-- whether the parts of a cube hold the cube itself -/
theorem whole_cube {B : KB} (hG : GoodB B) {c : Nat → Int} {m : Nat} (hm : m < B.nv) : (anyB (partQ B c m) fun j => sameC (partC c m j) c) = decide (c m ≠ -1) := by
  have hm5 : m < 5 := by have := hG.nv; omega
  rw [Bool.eq_iff_iff, anyB_true, decide_eq_true_eq]
  unfold partQ partC sameC
  by_cases e : c m = -1
  · rw [if_pos e]
    constructor
    · rintro ⟨j, hj, h⟩
      simp only [e, if_true] at h
      rw [allB_true] at h
      have := of_decide_eq_true (h m hm5)
      rw [upd_same] at this
      omega
    · intro h; exact absurd e h
  · rw [if_neg e]
    refine ⟨fun _ => e, fun _ => ⟨0, by omega, ?_⟩⟩
    simp only [e, if_false]
    rw [allB_true]
    intro i _
    simp

end Go.Proofs.Ytghimbggbgcgkaa
