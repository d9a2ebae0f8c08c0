/-
  Made1: no key that names all sorts is better than the best: the mathematics.
-/
import Derived.Test.YtbieglmpkljjjaaLess
import Derived.Test.YtbieglmpkljjjaaNames
namespace Go.Proofs.Ytbieglmpkljjjaa
open Go.RowKit

/-- sorts that all differ, with values that can be -/
structure GrpOk (B : KB) (g : List Nat) : Prop where
  nd : g.Nodup
  dif : DifM B g
  X : ∀ s, s ∈ g → ∀ m, m < B.nv → 0 ≤ B.X s m ∧ B.X s m < B.V m
theorem GrpOk.hav {B : KB} {g : List Nat} (h : GrpOk B g) (m : Nat) (y : Int) : GrpOk B (havL B g m y) := ⟨h.nd.filter _, h.dif.hav m y, fun s hs => h.X s (havL_mem hs)⟩
theorem GrpOk.pos {B : KB} {g : List Nat} (h : GrpOk B g) (mean : Bool) {f : Nat} (hf : g.length ≤ f) : 0 ≤ leastL B mean f g := leastL_pos B mean f g hf h.nd (difM_diffG h.dif h.nd)
theorem ne_nil_of {l : List Nat} (h : ¬ l.length ≤ 1) : l ≠ [] := fun e => by rw [e] at h; simp at h
theorem GrpOk.parts {B : KB} {g : List Nat} (h : GrpOk B g) (mean : Bool) {f m : Nat} (hf : g.length ≤ f + 1) (h1 : ¬ g.length ≤ 1) (hs : splitL B g m = true) (y : Int) : (havL B g m y).length ≤ f ∧ 0 ≤ leastL B mean f (havL B g m y) := by
  have := havL_lt (ne_nil_of h1) hs y
  exact ⟨by omega, (h.hav m y).pos mean (by omega)⟩
theorem least_le {B : KB} {g : List Nat} (h : GrpOk B g) (mean : Bool) {f m : Nat} (hf : g.length ≤ f + 1) (h1 : ¬ g.length ≤ 1) (hm : m < B.nv) (hs : splitL B g m = true) : leastL B mean (f + 1) g ≤ costL B mean g m (leastL B mean f) := by
  rw [leastL, if_neg h1]
  exact ((bestTo_min (fun m _ hsp => costL_sign fun y => (h.parts mean hf h1 hsp y).2) B.nv (Nat.le_refl _)).2 m hm hs).2
theorem least_eq {B : KB} {g : List Nat} (h : GrpOk B g) (mean : Bool) {f : Nat} (hf : g.length ≤ f + 1) (h1 : ¬ g.length ≤ 1) : ∃ m, m < B.nv ∧ splitL B g m = true ∧ leastL B mean (f + 1) g = costL B mean g m (leastL B mean f) := by
  have hc := bestTo_min (mean := mean) (L := leastL B mean f) (fun m _ hsp => costL_sign fun y => (h.parts mean hf h1 hsp y).2) B.nv (Nat.le_refl _)
  obtain ⟨m0, hm0, hsp0⟩ := diff_split (difM_diffG h.dif h.nd) (by omega)
  obtain ⟨m, hm, hsp, e⟩ := hc.1 (hc.2 m0 hm0 hsp0).1
  exact ⟨m, hm, hsp, by rw [leastL, if_neg h1, e]⟩
theorem worstTo_le {f : Nat → Int} {c : Int} (hc : 0 ≤ c) : ∀ n, (∀ v, v < n → f v + 1 ≤ c) → worstTo f n ≤ c := by
  intro n
  induction n with
  | zero => intro _; simpa [worstTo] using hc
  | succ n ih => intro h; have h1 := ih fun v hv => h v (by omega); have h2 := h n (by omega); simp only [worstTo]; omega
theorem totalTo_le {a : Int} {f g : Nat → Int} : ∀ n, (∀ v, v < n → f v ≤ g v) → totalTo a f n ≤ totalTo a g n := by
  intro n
  induction n with
  | zero => intro _; exact Int.le_refl _
  | succ n ih => intro h; have h1 := ih fun v hv => h v (by omega); have h2 := h n (by omega); simp only [totalTo]; omega

def sumF (F : Nat → Int) : List Nat → Int
  | [] => 0
  | a :: l => F a + sumF F l
theorem sumF_le {F G : Nat → Int} : ∀ l, (∀ a, a ∈ l → F a ≤ G a) → sumF F l ≤ sumF G l := by
  intro l
  induction l with
  | nil => intro _; exact Int.le_refl _
  | cons a l ih => intro h; have h1 := ih fun b hb => h b (List.mem_cons_of_mem _ hb); have h2 := h a (List.mem_cons_self ..); simp only [sumF]; omega
theorem sumF_const (c : Int) : ∀ l, sumF (fun _ => c) l = (l.length : Int) * c := by
  intro l
  induction l with
  | nil => simp [sumF]
  | cons a l ih => simp only [sumF, ih, List.length_cons]; rw [Int.natCast_succ, Int.add_mul]; omega
theorem sumF_less (F : Nat → Int) : ∀ l, sumF (fun i => F i - 1) l = sumF F l - (l.length : Int) := by
  intro l
  induction l with
  | nil => simp [sumF]
  | cons a l ih => simp only [sumF, ih, List.length_cons]; omega
theorem sumF_pos {F : Nat → Int} : ∀ l, (∀ a, a ∈ l → 0 ≤ F a) → 0 ≤ sumF F l := by
  intro l
  induction l with
  | nil => intro _; exact Int.le_refl _
  | cons a l ih => intro h; have h1 := ih fun b hb => h b (List.mem_cons_of_mem _ hb); have h2 := h a (List.mem_cons_self ..); simp only [sumF]; omega
theorem sumF_filter (F : Nat → Int) (x : Nat → Int) (n : Nat) : ∀ l : List Nat, sumF F (l.filter fun s => decide (x s < (n : Int))) + sumF F (l.filter fun s => decide (x s = (n : Int))) = sumF F (l.filter fun s => decide (x s < ((n + 1 : Nat) : Int))) := by
  intro l
  induction l with
  | nil => rfl
  | cons a l ih =>
    simp only [List.filter_cons]
    by_cases h1 : x a < (n : Int)
    · have h2 : ¬ x a = (n : Int) := by omega
      have h3 : x a < ((n + 1 : Nat) : Int) := by omega
      simp only [h1, h2, h3, decide_true, decide_false, if_true, if_false, sumF, Bool.false_eq_true]
      omega
    · by_cases h2 : x a = (n : Int)
      · have h3 : x a < ((n + 1 : Nat) : Int) := by omega
        simp only [h1, h3, decide_false, if_false, Bool.false_eq_true, decide_eq_true h2, decide_true, if_true, sumF]
        omega
      · have h3 : ¬ x a < ((n + 1 : Nat) : Int) := by omega
        simp only [h1, h2, h3, decide_false, if_false, Bool.false_eq_true]
        exact ih
/-- a list is its parts -/
theorem total_parts {B : KB} {g : List Nat} (h : GrpOk B g) {m : Nat} (hm : m < B.nv) (a : Int) (F : Nat → Int) : totalTo a (fun v => sumF F (havL B g m v)) (B.V m).toNat = a + sumF F g := by
  have key : ∀ n : Nat, totalTo a (fun v => sumF F (havL B g m v)) n = a + sumF F (g.filter fun s => decide (B.X s m < (n : Int))) := by
    intro n
    induction n with
    | zero =>
      have e : (g.filter fun s => decide (B.X s m < ((0 : Nat) : Int))) = [] := List.filter_eq_nil_iff.2 fun s hs => by have := (h.X s hs m hm).1; simp; omega
      rw [e]; simp [totalTo, sumF]
    | succ n ih =>
      have := sumF_filter F (fun s => B.X s m) n g
      simp only [totalTo, ih]
      have e : havL B g m (n : Nat) = g.filter fun s => decide (B.X s m = (n : Int)) := rfl
      rw [e]; omega
  rw [key]
  congr 1
  rw [List.filter_eq_self.2 fun s hs => by have := h.X s hs m hm; simp; omega]

/-- the best is at most the mean -/
theorem best_mean {B : KB} : ∀ f g, GrpOk B g → g.length ≤ f → leastL B false f g ≤ leastL B true f g := by
  intro f
  induction f with
  | zero => intro g _ _; simp [leastL]
  | succ f ih =>
    intro g h hf
    by_cases h1 : g.length ≤ 1
    · rw [leastL_small _ _ _ _ h1, leastL_small _ _ _ _ h1]; exact Int.le_refl _
    obtain ⟨m, hm, hs, e⟩ := least_eq h true hf h1
    rw [e]
    refine Int.le_trans (least_le h false hf h1 hm hs) ?_
    have ht := totalTo_from (g.length : Int) (fun v => leastL B true f (havL B g m v)) (fun v => (h.parts true hf h1 hs v).2) (B.V m).toNat
    have e1 : costL B true g m (leastL B true f) = totalTo g.length (fun v => leastL B true f (havL B g m v)) (B.V m).toNat := rfl
    have e2 : costL B false g m (leastL B false f) = worstTo (fun v => leastL B false f (havL B g m v)) (B.V m).toNat := rfl
    rw [e1, e2]
    refine worstTo_le (by omega) _ fun v hv => ?_
    have h2 := ht.2 v hv
    have h3 := ih _ (h.hav m v) (h.parts true hf h1 hs v).1
    omega
/-- the mean is at most the best for each sort -/
theorem mean_best {B : KB} : ∀ f g, GrpOk B g → g.length ≤ f → leastL B true f g ≤ (g.length : Int) * leastL B false f g := by
  intro f
  induction f with
  | zero => intro g _ _; simp [leastL]
  | succ f ih =>
    intro g h hf
    by_cases h1 : g.length ≤ 1
    · rw [leastL_small _ _ _ _ h1, leastL_small _ _ _ _ h1]; simp
    obtain ⟨m, hm, hs, e⟩ := least_eq h false hf h1
    obtain ⟨b, hb⟩ : ∃ b, leastL B false (f + 1) g = b := ⟨_, rfl⟩
    rw [hb] at e ⊢
    refine Int.le_trans (least_le h true hf h1 hm hs) ?_
    have e1 : costL B true g m (leastL B true f) = totalTo g.length (fun v => leastL B true f (havL B g m v)) (B.V m).toNat := rfl
    have e2 : costL B false g m (leastL B false f) = worstTo (fun v => leastL B false f (havL B g m v)) (B.V m).toNat := rfl
    rw [e1]
    rw [e2] at e
    have hw := (worstTo_from (fun v => leastL B false f (havL B g m v)) (B.V m).toNat).2
    rw [← e] at hw
    have ht : totalTo g.length (fun v => leastL B true f (havL B g m v)) (B.V m).toNat ≤ totalTo g.length (fun v => sumF (fun _ => b - 1) (havL B g m v)) (B.V m).toNat := totalTo_le _ fun v hv => by
      rw [sumF_const]
      refine Int.le_trans (ih _ (h.hav m v) (h.parts true hf h1 hs v).1) ?_
      have := hw v hv
      exact Int.mul_le_mul_of_nonneg_left (by omega) (by omega)
    refine Int.le_trans ht ?_
    rw [total_parts h hm, sumF_const, Int.mul_sub]
    omega

/-- who asks marks that tell all sorts asks enough -/
theorem best_tell {B : KB} : ∀ (ms : List Nat) (f : Nat) (g : List Nat), GrpOk B g → g.length ≤ f → (∀ m, m ∈ ms → m < B.nv) → (∀ a, a ∈ g → ∀ b, b ∈ g → a ≠ b → ∃ m, m ∈ ms ∧ B.X a m ≠ B.X b m) → leastL B false f g ≤ (ms.length : Int) := by
  intro ms
  induction ms with
  | nil =>
    intro f g h hf _ ht
    have h1 : g.length ≤ 1 := by
      match g, h.nd, ht with
      | [], _, _ => simp
      | [a], _, _ => simp
      | a :: b :: r, hn, ht =>
        have hab : a ≠ b := fun e => by rw [e] at hn; simp at hn
        obtain ⟨m, hm, _⟩ := ht a (by simp) b (by simp) hab
        cases hm
    rw [leastL_small _ _ _ _ h1]; simp
  | cons m ms ih =>
    intro f g h hf hms ht
    by_cases h1 : g.length ≤ 1
    · rw [leastL_small _ _ _ _ h1]; omega
    have hm := hms m (List.mem_cons_self ..)
    obtain ⟨f', rfl⟩ : ∃ f', f = f' + 1 := ⟨f - 1, by omega⟩
    rw [List.length_cons]
    cases hs : splitL B g m with
    | true =>
      refine Int.le_trans (least_le h false hf h1 hm hs) ?_
      have e2 : costL B false g m (leastL B false f') = worstTo (fun v => leastL B false f' (havL B g m v)) (B.V m).toNat := rfl
      rw [e2]
      refine worstTo_le (by omega) _ fun v _ => ?_
      have := ih f' (havL B g m v) (h.hav m v) (h.parts false hf h1 hs v).1 (fun k hk => hms k (List.mem_cons_of_mem _ hk)) fun a ha b hb hne => by
        obtain ⟨k, hk, hd⟩ := ht a (havL_mem ha) b (havL_mem hb) hne
        rcases List.mem_cons.1 hk with rfl | hk
        · exact absurd ((of_decide_eq_true (List.mem_filter.1 ha).2).trans (of_decide_eq_true (List.mem_filter.1 hb).2).symm) hd
        · exact ⟨k, hk, hd⟩
      omega
    | false =>
      have hw := havL_whole hs
      have := ih (f' + 1) g h hf (fun k hk => hms k (List.mem_cons_of_mem _ hk)) fun a ha b hb hne => by
        obtain ⟨k, hk, hd⟩ := ht a ha b hb hne
        rcases List.mem_cons.1 hk with rfl | hk
        · rw [← hw] at ha hb
          exact absurd ((of_decide_eq_true (List.mem_filter.1 ha).2).trans (of_decide_eq_true (List.mem_filter.1 hb).2).symm) hd
        · exact ⟨k, hk, hd⟩
      omega

/-- the questions from node p on -/
def queF (B : KB) (D : Nd) (p i : Nat) : Int := ((wk D (B.X i) p).length : Int) - 1
/-- no node from which all the sorts of g are found does better -/
theorem none_better {B : KB} (hG : GoodB B) {D : Nd} (hD : GoodN B.nv B.V B.ns D) : ∀ (n p : Nat), D.n - p ≤ n → p < D.n → ∀ (f : Nat) (g : List Nat), GrpOk B g → g.length ≤ f → (∀ i, i ∈ g → i < B.ns) → (∀ i, i ∈ g → D.S (lastOf (wk D (B.X i) p)) = (i : Int)) →
    (∀ c : Int, 0 ≤ c → (∀ i, i ∈ g → queF B D p i ≤ c) → leastL B false f g ≤ c) ∧ leastL B true f g ≤ sumF (queF B D p) g := by
  have hq : ∀ p i, p < D.n → i < B.ns → 0 ≤ queF B D p i := fun p i hp hi => by
    obtain ⟨pre, k, e, _⟩ := wk_last hD (hG.X i hi) D.n p (by omega) hp
    unfold queF; rw [e]; simp
  intro n
  induction n with
  | zero => intro p h hp; omega
  | succ n ih =>
    intro p hn hp f g h hf hg hend
    by_cases h1 : g.length ≤ 1
    · rw [leastL_small _ _ _ _ h1, leastL_small _ _ _ _ h1]
      exact ⟨fun c hc _ => hc, sumF_pos g fun i hi => hq p i hp (hg i hi)⟩
    obtain ⟨f', rfl⟩ : ∃ f', f = f' + 1 := ⟨f - 1, by omega⟩
    have hM : D.M p ≠ -1 := fun e => by
      match g, h.nd, h1, hend with
      | [], _, h1, _ => simp at h1
      | [a], _, h1, _ => simp at h1
      | a :: b :: r, hnd, _, hend =>
        have ha := hend a (by simp)
        have hb := hend b (by simp)
        rw [wk_stop hD hp e] at ha hb
        have : (a : Int) = (b : Int) := by rw [← ha, ← hb]
        have hab : a = b := by omega
        rw [hab] at hnd; simp at hnd
    obtain ⟨hm0, hmn, _, hqq, hT⟩ := hD.ask p hp hM
    obtain ⟨m, hm⟩ : ∃ m : Nat, D.M p = m := ⟨(D.M p).toNat, by omega⟩
    have hmt : (D.M p).toNat = m := by rw [hm]; rfl
    have hmv : m < B.nv := by omega
    rw [hmt] at hqq
    -- one question more
    have hstep : ∀ i, i ∈ g → ∀ v : Nat, B.X i m = v → (D.T p v).toNat < D.n ∧ p < (D.T p v).toNat ∧ queF B D p i = queF B D (D.T p v).toNat i + 1 ∧ lastOf (wk D (B.X i) p) = lastOf (wk D (B.X i) (D.T p v).toNat) := fun i hi v hv => by
      have hx := hG.X i (hg i hi)
      obtain ⟨g1, g2, _⟩ := nxt_ok hD hx hp hM
      have en : nxt D (B.X i) p = (D.T p v).toNat := by unfold nxt; rw [hmt, hv]; rfl
      rw [en] at g1 g2
      have hgo := wk_go hD hx hp hM
      rw [en] at hgo
      have hne : wk D (B.X i) (D.T p v).toNat ≠ [] := by
        obtain ⟨pre, k, e, _⟩ := wk_last hD hx D.n (D.T p v).toNat (by omega) g2
        rw [e]; simp
      refine ⟨g2, g1, ?_, ?_⟩
      · unfold queF; rw [hgo, List.length_cons]; omega
      · rw [hgo]
        cases e : wk D (B.X i) (D.T p v).toNat with
        | nil => exact absurd e hne
        | cons a r => simp [lastOf, List.getLastD]
    cases hs : splitL B g m with
    | true =>
      have hpart : ∀ v : Nat, v < (B.V m).toNat → ∀ i, i ∈ havL B g m v → D.S (lastOf (wk D (B.X i) (D.T p v).toNat)) = (i : Int) := fun v _ i hi => by
        rw [← (hstep i (havL_mem hi) v (of_decide_eq_true (List.mem_filter.1 hi).2)).2.2.2]; exact hend i (havL_mem hi)
      have hTv : ∀ v : Nat, v < (B.V m).toNat → p < (D.T p v).toNat ∧ (D.T p v).toNat < D.n := fun v hv => by
        have := hT v (by omega)
        omega
      have hI := fun (v : Nat) (hv : v < (B.V m).toNat) => ih (D.T p v).toNat (by have := hTv v hv; omega) (hTv v hv).2 f' (havL B g m v) (h.hav m v) (h.parts false hf h1 hs v).1 (fun i hi => hg i (havL_mem hi)) (hpart v hv)
      refine ⟨fun c hc hle => ?_, ?_⟩
      · refine Int.le_trans (least_le h false hf h1 hmv hs) ?_
        have e2 : costL B false g m (leastL B false f') = worstTo (fun v => leastL B false f' (havL B g m v)) (B.V m).toNat := rfl
        rw [e2]
        refine worstTo_le hc _ fun v hv => ?_
        have hc1 : 0 ≤ c - 1 := by
          obtain ⟨a, ha⟩ := List.exists_mem_of_ne_nil g (ne_nil_of h1)
          have hXa := h.X a ha m hmv
          obtain ⟨g2, _, g3, _⟩ := hstep a ha (B.X a m).toNat (Int.toNat_of_nonneg hXa.1).symm
          have := hq _ a g2 (hg a ha)
          have := hle a ha
          omega
        have := (hI v hv).1 (c - 1) hc1 fun i hi => by
          have := (hstep i (havL_mem hi) v (of_decide_eq_true (List.mem_filter.1 hi).2)).2.2.1
          have := hle i (havL_mem hi)
          omega
        omega
      · refine Int.le_trans (least_le h true hf h1 hmv hs) ?_
        have e1 : costL B true g m (leastL B true f') = totalTo g.length (fun v => leastL B true f' (havL B g m v)) (B.V m).toNat := rfl
        rw [e1]
        have ht : totalTo g.length (fun v => leastL B true f' (havL B g m v)) (B.V m).toNat ≤ totalTo g.length (fun v => sumF (fun i => queF B D p i - 1) (havL B g m v)) (B.V m).toNat := totalTo_le _ fun v hv => by
          refine Int.le_trans (hI v hv).2 (sumF_le _ fun i hi => ?_)
          have := (hstep i (havL_mem hi) v (of_decide_eq_true (List.mem_filter.1 hi).2)).2.2.1
          omega
        refine Int.le_trans ht ?_
        rw [total_parts h hmv, sumF_less]
        omega
    | false =>
      have hw := havL_whole hs
      have ha : g.getD 0 0 ∈ g := getD_mem (by omega)
      have hXa := h.X _ ha m hmv
      obtain ⟨v, hv⟩ : ∃ v : Nat, B.X (g.getD 0 0) m = v := ⟨(B.X (g.getD 0 0) m).toNat, by omega⟩
      rw [hv] at hw
      have hall : ∀ i, i ∈ g → B.X i m = v := fun i hi => by
        rw [← hw] at hi
        exact of_decide_eq_true (List.mem_filter.1 hi).2
      obtain ⟨g2, g1, _, _⟩ := hstep _ ha v hv
      have hI := ih (D.T p v).toNat (by omega) g2 (f' + 1) g h hf hg fun i hi => by rw [← (hstep i hi v (hall i hi)).2.2.2]; exact hend i hi
      refine ⟨fun c hc hle => ?_, ?_⟩
      · refine hI.1 c hc fun i hi => ?_
        have := (hstep i hi v (hall i hi)).2.2.1
        have := hle i hi
        omega
      · refine Int.le_trans hI.2 (sumF_le _ fun i hi => ?_)
        have := (hstep i hi v (hall i hi)).2.2.1
        omega

end Go.Proofs.Ytbieglmpkljjjaa
