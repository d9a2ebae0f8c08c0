/-
  Short0: what Short says, without memory.
-/
import Derived.Test.YtbieglmpkljjjaaLess
import Derived.Test.YtbieglmpkljjjaaDeep
namespace Go.Proofs.Ytbieglmpkljjjaa
open Go.RowKit

/-- a cube of a book: of each mark one value, or any -/
structure CubeOk (B : KB) (c : Nat → Int) : Prop where
  val : ∀ i, i < B.nv → c i = -1 ∨ (0 ≤ c i ∧ c i < B.V i)
  out : ∀ i, B.nv ≤ i → c i = -1
def inCb (n : Nat) (c : Nat → Int) (z : List Int) : Bool := allB n fun i => decide (c i = -1) || decide (atL z i = c i)
def cubeF (B : KB) (c : Nat → Int) : List (List Int) := (allF B).filter (inCb B.nv c)
def endZ (B : KB) (z : List Int) : Int := endOf B.D (atL z)
def sameZ (B : KB) (zs : List (List Int)) : Bool := zs.all fun z => decide (endZ B z = endZ B (zs.headD []))
def freeC (B : KB) (c : Nat → Int) : Nat := cnt B.nv fun i => decide (c i = -1)
def costM (B : KB) (K : (Nat → Int) → Int) (c : Nat → Int) (m : Nat) : Int := worstTo (fun v => K (upd c m (v : Int))) (B.V m).toNat
def bestM (B : KB) (K : (Nat → Int) → Int) (c : Nat → Int) : Nat → Int
  | 0 => B.nv + 1
  | m + 1 => if c m = -1 then min (bestM B K c m) (costM B K c m) else bestM B K c m
def costC (B : KB) : Nat → (Nat → Int) → Int
  | 0, _ => 0
  | f + 1, c => if sameZ B (cubeF B c) then 0 else bestM B (costC B f) c B.nv

theorem cubeF_mem {B : KB} {c : Nat → Int} {z : List Int} : z ∈ cubeF B c ↔ z ∈ allF B ∧ ∀ i, i < B.nv → c i = -1 ∨ atL z i = c i := by
  unfold cubeF inCb
  rw [List.mem_filter, allB_true]
  simp only [Bool.or_eq_true, decide_eq_true_eq]
theorem sameZ_iff {B : KB} {zs : List (List Int)} : sameZ B zs = true ↔ ∀ z, z ∈ zs → ∀ y, y ∈ zs → endZ B z = endZ B y := by
  unfold sameZ
  rw [List.all_eq_true]
  constructor
  · intro h z hz y hy
    rw [of_decide_eq_true (h z hz), of_decide_eq_true (h y hy)]
  · intro h z hz
    refine decide_eq_true (h z hz _ ?_)
    cases zs with
    | nil => cases hz
    | cons a l => simp
/-- the fruits of a cube with a value of a mark -/
theorem cubeF_part {B : KB} {c : Nat → Int} {m : Nat} (hm : m < B.nv) (hc : c m = -1) (v : Nat) : (cubeF B c).filter (fun z => decide (atL z m = (v : Int))) = cubeF B (upd c m (v : Int)) := by
  unfold cubeF
  rw [List.filter_filter]
  refine List.filter_congr fun z _ => ?_
  rw [Bool.eq_iff_iff, Bool.and_eq_true, decide_eq_true_eq]
  unfold inCb
  rw [allB_true, allB_true]
  simp only [Bool.or_eq_true, decide_eq_true_eq]
  constructor
  · rintro ⟨h1, h2⟩ i hi
    by_cases e : i = m
    · subst e; rw [upd_same]; exact .inr h1
    · rw [upd_other _ _ e]; exact h2 i hi
  · intro h
    have h1 := h m hm
    rw [upd_same] at h1
    have h1 : atL z m = (v : Int) := by rcases h1 with h1 | h1 <;> omega
    refine ⟨h1, fun i hi => ?_⟩
    by_cases e : i = m
    · subst e; exact .inl hc
    · have := h i hi; rwa [upd_other _ _ e] at this
theorem CubeOk.part {B : KB} {c : Nat → Int} (h : CubeOk B c) {m v : Nat} (hm : m < B.nv) (hv : (v : Int) < B.V m) : CubeOk B (upd c m (v : Int)) := by
  refine ⟨fun i hi => ?_, fun i hi => ?_⟩
  · by_cases e : i = m
    · subst e; rw [upd_same]; exact .inr ⟨by omega, hv⟩
    · rw [upd_other _ _ e]; exact h.val i hi
  · rw [upd_other _ _ (by omega)]; exact h.out i hi
theorem cnt_updC {c : Nat → Int} {m : Nat} {v : Int} (hc : c m = -1) (hv : v ≠ -1) : ∀ n, m < n → cnt n (fun i => decide (upd c m v i = -1)) + 1 = cnt n (fun i => decide (c i = -1)) := by
  have key : ∀ n, n ≤ m → cnt n (fun i => decide (upd c m v i = -1)) = cnt n (fun i => decide (c i = -1)) := by
    intro n
    induction n with
    | zero => intro _; rfl
    | succ n ih =>
      intro h
      simp only [cnt]
      have e1 : upd c m v n = c n := upd_other _ _ (by omega)
      rw [ih (by omega)]
      simp only [e1]
  intro n
  induction n with
  | zero => intro h; omega
  | succ n ih =>
    intro h
    simp only [cnt]
    by_cases e : n = m
    · subst e
      have e1 : upd c n v n = v := upd_same _ _ _
      rw [key n (Nat.le_refl _)]
      simp [e1, hc, hv]
    · have := ih (by omega)
      have e1 : upd c m v n = c n := upd_other _ _ e
      simp only [e1]
      omega
theorem freeC_part {B : KB} {c : Nat → Int} {m v : Nat} (hm : m < B.nv) (hc : c m = -1) : freeC B (upd c m (v : Int)) + 1 = freeC B c := cnt_updC hc (by omega) _ hm
theorem cnt_noneC {p : Nat → Bool} : ∀ {n : Nat}, cnt n p = 0 → ∀ i, i < n → p i = false := by
  intro n
  induction n with
  | zero => intro _ i hi; omega
  | succ n ih =>
    intro h i hi
    simp only [cnt] at h
    by_cases e : i = n
    · subst e; cases hp : p i with | false => rfl | true => rw [hp] at h; simp at h
    · exact ih (by omega) i (by omega)
/-- a cube without a free mark is one fruit -/
theorem same_full {B : KB} {c : Nat → Int} (h : freeC B c = 0) : sameZ B (cubeF B c) = true := by
  rw [sameZ_iff]
  intro z hz y hy
  obtain ⟨z1, z2⟩ := cubeF_mem.1 hz
  obtain ⟨y1, y2⟩ := cubeF_mem.1 hy
  have hlz := ((allF_mem B z).1 z1).1
  have hly := ((allF_mem B y).1 y1).1
  have : z = y := by
    refine List.ext_getElem (by rw [hlz, hly]) fun i h1 h2 => ?_
    have hn : i < B.nv := by rw [hlz] at h1; exact h1
    have hf := cnt_noneC h i hn
    rw [decide_eq_false_iff_not] at hf
    have e1 := (z2 i hn).resolve_left hf
    have e2 := (y2 i hn).resolve_left hf
    have e3 : atL z i = z[i] := by simp [atL, h1]
    have e4 : atL y i = y[i] := by simp [atL, h2]
    rw [← e3, ← e4, e1, e2]
  rw [this]
theorem bestM_congr {B : KB} {K K' : (Nat → Int) → Int} {c : Nat → Int} (h : ∀ m, m < B.nv → c m = -1 → ∀ v : Nat, K (upd c m (v : Int)) = K' (upd c m (v : Int))) : ∀ n, n ≤ B.nv → bestM B K c n = bestM B K' c n := by
  intro n
  induction n with
  | zero => intro _; rfl
  | succ n ih =>
    intro hn
    simp only [bestM]
    rw [ih (by omega)]
    split
    · rename_i hc
      have : costM B K c n = costM B K' c n := by
        unfold costM
        congr 1
        funext v
        exact h n (by omega) hc v
      rw [this]
    · rfl
theorem costC_more {B : KB} : ∀ (f : Nat) (c : Nat → Int), freeC B c ≤ f → costC B (f + 1) c = costC B f c := by
  intro f
  induction f with
  | zero => intro c h; simp only [costC]; rw [if_pos (same_full (by omega))]
  | succ f ih =>
    intro c h
    show (if sameZ B (cubeF B c) then 0 else bestM B (costC B (f + 1)) c B.nv) = if sameZ B (cubeF B c) then 0 else bestM B (costC B f) c B.nv
    split
    · rfl
    · exact bestM_congr (fun m hm hc v => ih _ (by have := freeC_part (v := v) hm hc; omega)) _ (Nat.le_refl _)
theorem freeC_le (B : KB) (c : Nat → Int) : freeC B c ≤ B.nv := cnt_le _ _
theorem costC_up {B : KB} {f : Nat} {c : Nat → Int} (h : freeC B c ≤ f) : ∀ k, costC B (f + k) c = costC B f c := by
  intro k
  induction k with
  | zero => rfl
  | succ k ih => rw [← ih]; exact costC_more (f + k) c (by omega)
/-- what a cube costs -/
def costK5 (B : KB) (c : Nat → Int) : Int := costC B 5 c
theorem costC_five {B : KB} (h5 : B.nv ≤ 5) {f : Nat} {c : Nat → Int} (h : freeC B c ≤ f) (hf : f ≤ 5) : costC B f c = costK5 B c := by
  have := costC_up h (5 - f)
  rw [show f + (5 - f) = 5 by omega] at this
  exact this.symm
theorem worst_bd {f : Nat → Int} {b : Int} (hb : 0 ≤ b) : ∀ n, (∀ v, v < n → 0 ≤ f v ∧ f v + 1 ≤ b) → 0 ≤ worstTo f n ∧ worstTo f n ≤ b := by
  intro n
  induction n with
  | zero => intro _; exact ⟨Int.le_refl _, hb⟩
  | succ n ih =>
    intro h
    have h1 := ih fun v hv => h v (by omega)
    have h2 := h n (by omega)
    simp only [worstTo]
    omega
theorem bestM_le {B : KB} {K : (Nat → Int) → Int} {c : Nat → Int} {n m : Nat} (hm : m < n) (hc : c m = -1) : bestM B K c n ≤ costM B K c m := by
  induction n with
  | zero => omega
  | succ n ih =>
    simp only [bestM]
    by_cases e : m = n
    · subst e; rw [if_pos hc]; omega
    · have := ih (by omega)
      split <;> omega
theorem bestM_low {B : KB} {K : (Nat → Int) → Int} {c : Nat → Int} (h : ∀ m, m < B.nv → c m = -1 → 0 ≤ costM B K c m) : ∀ n, n ≤ B.nv → 0 ≤ bestM B K c n := by
  intro n
  induction n with
  | zero => intro _; simp only [bestM]; omega
  | succ n ih =>
    intro hn
    simp only [bestM]
    have h1 := ih (by omega)
    split
    · rename_i hc; have := h n (by omega) hc; omega
    · exact h1
theorem costC_bd {B : KB} : ∀ (f : Nat) (c : Nat → Int), freeC B c ≤ f → 0 ≤ costC B f c ∧ costC B f c ≤ freeC B c := by
  intro f
  induction f with
  | zero => intro c h; simp only [costC]; omega
  | succ f ih =>
    intro c h
    have hK : ∀ m, m < B.nv → c m = -1 → 0 ≤ costM B (costC B f) c m ∧ costM B (costC B f) c m ≤ freeC B c := fun m hm hc => by
      unfold costM
      refine worst_bd (by omega) _ fun v _ => ?_
      have h1 := freeC_part (v := v) hm hc
      have := ih (upd c m (v : Int)) (by omega)
      omega
    simp only [costC]
    split
    · omega
    · rename_i hs
      refine ⟨bestM_low (fun m hm hc => (hK m hm hc).1) _ (Nat.le_refl _), ?_⟩
      have : ∃ m, m < B.nv ∧ c m = -1 := by
        by_cases h0 : freeC B c = 0
        · exact absurd (same_full h0) hs
        · by_cases he : ∃ m, m < B.nv ∧ c m = -1
          · exact he
          · exfalso; apply h0
            unfold freeC
            have key : ∀ n, n ≤ B.nv → cnt n (fun i => decide (c i = -1)) = 0 := by
              intro n
              induction n with
              | zero => intro _; rfl
              | succ n ihn =>
                intro hn
                simp only [cnt]
                rw [ihn (by omega), if_neg]
                rw [decide_eq_true_eq]
                exact fun h' => he ⟨n, by omega, h'⟩
            exact key _ (Nat.le_refl _)
      obtain ⟨m, hm, hc⟩ := this
      exact Int.le_trans (bestM_le hm hc) (hK m hm hc).2

end Go.Proofs.Ytbieglmpkljjjaa
