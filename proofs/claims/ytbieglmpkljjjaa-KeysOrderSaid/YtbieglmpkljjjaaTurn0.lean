/-
  Turn0: a book whose marks and sorts come in another order: walks, validity.
-/
import Derived.Test.YtbieglmpkljjjaaMade1
namespace Go.Proofs.Ytbieglmpkljjjaa
open Go.RowKit

/-- C is B, but that mark m is called s m (and mark m of C is t m of B), and sort i is called p i -/
structure Turn (B C : KB) (s t p r : Nat → Nat) : Prop where
  nv : C.nv = B.nv
  ns : C.ns = B.ns
  dn : C.D.n = B.D.n
  hs : ∀ m, m < B.nv → s m < B.nv ∧ t (s m) = m
  ht : ∀ m, m < B.nv → t m < B.nv ∧ s (t m) = m
  hp : ∀ i, i < B.ns → p i < B.ns ∧ r (p i) = i
  hr : ∀ i, i < B.ns → r i < B.ns ∧ p (r i) = i
  V : ∀ m, m < B.nv → C.V (s m) = B.V m
  L : ∀ i, i < B.ns → C.L (p i) = B.L i
  X : ∀ i, i < B.ns → ∀ m, m < B.nv → C.X (p i) (s m) = B.X i m
  q : ∀ i, i < B.D.n → C.D.q i = B.D.q i
  T : ∀ i j, i < B.D.n → C.D.T i j = B.D.T i j
  M0 : ∀ i, i < B.D.n → B.D.M i = -1 → C.D.M i = -1
  M1 : ∀ i, i < B.D.n → ∀ m : Nat, B.D.M i = m → C.D.M i = (s m : Nat)
  S0 : ∀ i, i < B.D.n → B.D.S i = -1 → C.D.S i = -1
  S1 : ∀ i, i < B.D.n → ∀ k : Nat, B.D.S i = k → C.D.S i = (p k : Nat)

theorem Turn.V' {B C : KB} {s t p r : Nat → Nat} (H : Turn B C s t p r) (m : Nat) (h : m < B.nv) : C.V m = B.V (t m) := by
  have := H.V (t m) (H.ht m h).1
  rwa [(H.ht m h).2] at this
theorem Turn.X' {B C : KB} {s t p r : Nat → Nat} (H : Turn B C s t p r) (i m : Nat) (hi : i < B.ns) (h : m < B.nv) : C.X i m = B.X (r i) (t m) := by
  have := H.X (r i) (H.hr i hi).1 (t m) (H.ht m h).1
  rwa [(H.ht m h).2, (H.hr i hi).2] at this
theorem Turn.L' {B C : KB} {s t p r : Nat → Nat} (H : Turn B C s t p r) (i : Nat) (hi : i < B.ns) : C.L i = B.L (r i) := by
  have := H.L (r i) (H.hr i hi).1
  rwa [(H.hr i hi).2] at this

/-- a valid book stays one -/
theorem turn_good {B C : KB} {s t p r : Nat → Nat} (H : Turn B C s t p r) (hG : GoodB B) : GoodB C where
  nv1 := by rw [H.nv]; exact hG.nv1
  nv := by rw [H.nv]; exact hG.nv
  V := fun m hm => by rw [H.nv] at hm; rw [H.V' m hm]; exact hG.V _ (H.ht m hm).1
  ns := by rw [H.ns]; exact hG.ns
  X := fun i hi => by
    rw [H.ns] at hi
    have h := hG.X (r i) (H.hr i hi).1
    refine ⟨by rw [H.L' i hi, H.nv]; exact h.n, fun m hm => ?_⟩
    rw [H.nv] at hm
    rw [H.X' i m hi hm, H.V' m hm]
    exact h.x _ (H.ht m hm).1
  nn := by rw [H.dn]; exact hG.nn
  D := by
    have e : ∀ i, i < B.D.n → (B.D.M i = -1 ∨ ∃ m : Nat, B.D.M i = m ∧ m < B.nv) := fun i hi => by
      by_cases h : B.D.M i = -1
      · exact .inl h
      · obtain ⟨h1, h2, _⟩ := hG.D.ask i hi h
        exact .inr ⟨(B.D.M i).toNat, by omega, by omega⟩
    refine ⟨by rw [H.dn]; exact hG.D.n1, fun i hi hM => ?_, fun i hi hM => ?_⟩
    · rw [H.dn] at hi
      rcases e i hi with h | ⟨m, h, h'⟩
      · obtain ⟨h1, h2⟩ := hG.D.stop i hi h
        rw [H.q i hi]
        refine ⟨h1, ?_⟩
        rcases h2 with h2 | ⟨h2, h3⟩
        · exact .inl (H.S0 i hi h2)
        · right
          obtain ⟨k, hk⟩ : ∃ k : Nat, B.D.S i = k := ⟨(B.D.S i).toNat, by omega⟩
          have := (H.hp k (by omega)).1
          rw [H.S1 i hi k hk, H.ns]; omega
      · rw [H.M1 i hi m h] at hM; omega
    · rw [H.dn] at hi
      rcases e i hi with h | ⟨m, h, h'⟩
      · exact absurd (H.M0 i hi h) hM
      · obtain ⟨h1, h2, h3, h4, h5⟩ := hG.D.ask i hi (by omega)
        have hs := (H.hs m h').1
        have em : (B.D.M i).toNat = m := by omega
        rw [H.M1 i hi m h, H.nv, H.q i hi, show ((s m : Nat) : Int).toNat = s m from rfl, H.V m h', ← em, H.S0 i hi h3, H.dn]
        rw [em]
        rw [em] at h4
        exact ⟨by omega, by omega, rfl, h4, fun j hj => by rw [H.T i j hi]; exact h5 j hj⟩

theorem ok_of_good {B : KB} (hG : GoodB B) : okKB B = true := by
  have hN : okN B.nv B.V B.ns B.D 20 = true := by
    simp only [okN, Bool.and_eq_true, decide_eq_true_eq, allB_true]
    refine ⟨⟨hG.D.n1, hG.nn⟩, fun i hi => ?_⟩
    simp only [okNode, okAsk, okEnd, Bool.and_eq_true, Bool.or_eq_true, decide_eq_true_eq, allB_true]
    by_cases h : B.D.M i = -1
    · obtain ⟨h1, h2⟩ := hG.D.stop i hi h
      exact .inr ⟨⟨h, h2⟩, h1⟩
    · obtain ⟨h1, h2, h3, h4, h5⟩ := hG.D.ask i hi h
      exact .inl ⟨⟨⟨⟨h1, h2⟩, h3⟩, h4⟩, h5⟩
  simp only [okKB, okV, okS, okX, Bool.and_eq_true, decide_eq_true_eq, allB_true]
  exact ⟨⟨⟨⟨hG.nv1, hG.nv⟩, hG.V⟩, hG.ns, fun i hi => ⟨(hG.X i hi).n, fun j hj => (hG.X i hi).x j (by have := (hG.X i hi).n; omega)⟩⟩, hN⟩

/-- the other way around -/
theorem turn_back {B C : KB} {s t p r : Nat → Nat} (H : Turn B C s t p r) (hG : GoodB B) : Turn C B t s r p := by
  have hGC := turn_good H hG
  have eM : ∀ i, i < B.D.n → (B.D.M i = -1 ∧ C.D.M i = -1) ∨ ∃ m : Nat, m < B.nv ∧ B.D.M i = m ∧ C.D.M i = (s m : Nat) := fun i hi => by
    by_cases h : B.D.M i = -1
    · exact .inl ⟨h, H.M0 i hi h⟩
    · obtain ⟨h1, h2, _⟩ := hG.D.ask i hi h
      have e : B.D.M i = ((B.D.M i).toNat : Nat) := by omega
      exact .inr ⟨(B.D.M i).toNat, by omega, e, H.M1 i hi _ e⟩
  have eS : ∀ i, i < B.D.n → (B.D.S i = -1 ∧ C.D.S i = -1) ∨ ∃ k : Nat, k < B.ns ∧ B.D.S i = k ∧ C.D.S i = (p k : Nat) := fun i hi => by
    by_cases h : B.D.S i = -1
    · exact .inl ⟨h, H.S0 i hi h⟩
    · have h2 : 0 ≤ B.D.S i ∧ B.D.S i < B.ns := by
        by_cases hm : B.D.M i = -1
        · rcases (hG.D.stop i hi hm).2 with e | e
          · exact absurd e h
          · exact e
        · exact absurd (hG.D.ask i hi hm).2.2.1 h
      have e : B.D.S i = ((B.D.S i).toNat : Nat) := by omega
      exact .inr ⟨(B.D.S i).toNat, by omega, e, H.S1 i hi _ e⟩
  exact {
    nv := H.nv.symm
    ns := H.ns.symm
    dn := H.dn.symm
    hs := fun m hm => by rw [H.nv] at hm ⊢; exact H.ht m hm
    ht := fun m hm => by rw [H.nv] at hm ⊢; exact H.hs m hm
    hp := fun i hi => by rw [H.ns] at hi ⊢; exact H.hr i hi
    hr := fun i hi => by rw [H.ns] at hi ⊢; exact H.hp i hi
    V := fun m hm => by rw [H.nv] at hm; exact (H.V' m hm).symm
    L := fun i hi => by rw [H.ns] at hi; exact (H.L' i hi).symm
    X := fun i hi m hm => by rw [H.ns] at hi; rw [H.nv] at hm; exact (H.X' i m hi hm).symm
    q := fun i hi => by rw [H.dn] at hi; exact (H.q i hi).symm
    T := fun i j hi => by rw [H.dn] at hi; exact (H.T i j hi).symm
    M0 := fun i hi h => by
      rw [H.dn] at hi
      rcases eM i hi with ⟨e, _⟩ | ⟨m, _, _, e⟩
      · exact e
      · omega
    M1 := fun i hi m h => by
      rw [H.dn] at hi
      rcases eM i hi with ⟨_, e⟩ | ⟨k, hk, e1, e2⟩
      · omega
      · obtain rfl : m = s k := by omega
        rw [(H.hs k hk).2]; exact e1
    S0 := fun i hi h => by
      rw [H.dn] at hi
      rcases eS i hi with ⟨e, _⟩ | ⟨m, _, _, e⟩
      · exact e
      · omega
    S1 := fun i hi m h => by
      rw [H.dn] at hi
      rcases eS i hi with ⟨_, e⟩ | ⟨k, hk, e1, e2⟩
      · omega
      · obtain rfl : m = p k := by omega
        rw [(H.hp k hk).2]; exact e1 }

/-- a fruit of B, as one of C -/
def fr' (t : Nat → Nat) (x : Nat → Int) : Nat → Int := fun m => x (t m)
theorem turn_fruit {B C : KB} {s t p r : Nat → Nat} (H : Turn B C s t p r) {x : Nat → Int} (hx : GoodX B.nv B.V B.nv x) : GoodX C.nv C.V C.nv (fr' t x) := by
  refine ⟨rfl, fun m hm => ?_⟩
  rw [H.nv] at hm
  rw [H.V' m hm]
  exact hx.x _ (H.ht m hm).1
/-- it walks as it walked -/
theorem turn_wk {B C : KB} {s t p r : Nat → Nat} (H : Turn B C s t p r) (hG : GoodB B) {x : Nat → Int} (hx : GoodX B.nv B.V B.nv x) : ∀ n i, B.D.n - i ≤ n → i < B.D.n → wk C.D (fr' t x) i = wk B.D x i := by
  have hGC := turn_good H hG
  have hx' := turn_fruit H hx
  intro n
  induction n with
  | zero => intro i h hi; omega
  | succ n ih =>
    intro i h hi
    have hiC : i < C.D.n := by rw [H.dn]; exact hi
    by_cases hm : B.D.M i = -1
    · rw [wk_stop hG.D hi hm, wk_stop hGC.D hiC (H.M0 i hi hm)]
    · obtain ⟨h1, h2, _⟩ := hG.D.ask i hi hm
      obtain ⟨m, em⟩ : ∃ m : Nat, B.D.M i = m := ⟨(B.D.M i).toNat, by omega⟩
      have eC := H.M1 i hi m em
      have hmC : C.D.M i ≠ -1 := by rw [eC]; omega
      rw [wk_go hG.D hx hi hm, wk_go hGC.D hx' hiC hmC]
      have en : nxt C.D (fr' t x) i = nxt B.D x i := by
        unfold nxt fr'
        rw [eC, em, show ((s m : Nat) : Int).toNat = s m from rfl, show ((m : Nat) : Int).toNat = m from rfl, (H.hs m (by omega)).2, H.T i _ hi]
      obtain ⟨g1, g2, _⟩ := nxt_ok hG.D hx hi hm
      rw [en, ih _ (by omega) g2]
theorem turn_walk {B C : KB} {s t p r : Nat → Nat} (H : Turn B C s t p r) (hG : GoodB B) {x : Nat → Int} (hx : GoodX B.nv B.V B.nv x) : walk C.D (fr' t x) = walk B.D x := by
  rw [walk_wk, walk_wk]; exact turn_wk H hG hx B.D.n 0 (by omega) hG.D.n1
theorem turn_quest {B C : KB} {s t p r : Nat → Nat} (H : Turn B C s t p r) (hG : GoodB B) {x : Nat → Int} (hx : GoodX B.nv B.V B.nv x) : quest C (fr' t x) = quest B x := by
  unfold quest; rw [turn_walk H hG hx]

/-! ### Best and Mean -/

theorem havL_mem' {B : KB} {g : List Nat} {m : Nat} {y : Int} {i : Nat} : i ∈ havL B g m y ↔ i ∈ g ∧ B.X i m = y := by unfold havL; rw [List.mem_filter, decide_eq_true_eq]
theorem split_of {B : KB} {g : List Nat} {m a b : Nat} (ha : a ∈ g) (hb : b ∈ g) (h : B.X a m ≠ B.X b m) : splitL B g m = true := by
  refine decide_eq_true ?_
  rcases Nat.lt_or_ge (havL B g m (B.X (g.getD 0 0) m)).length g.length with h1 | h1
  · exact h1
  · have h2 : (havL B g m (B.X (g.getD 0 0) m)).Sublist g := List.filter_sublist
    have e := h2.eq_of_length_le h1
    rw [← e] at ha hb
    exact absurd ((havL_mem'.1 ha).2.trans (havL_mem'.1 hb).2.symm) h
theorem of_split {B : KB} {g : List Nat} {m : Nat} (hg : g ≠ []) (h : splitL B g m = true) : ∃ a, a ∈ g ∧ ∃ b, b ∈ g ∧ B.X a m ≠ B.X b m := by
  have h1 := of_decide_eq_true h
  have h0 : g.getD 0 0 ∈ g := getD_mem (List.length_pos_iff.2 hg)
  apply Classical.byContradiction
  intro hc
  have hall : ∀ a, a ∈ g → B.X a m = B.X (g.getD 0 0) m := fun a ha => Classical.byContradiction fun hne => hc ⟨a, ha, _, h0, hne⟩
  have : havL B g m (B.X (g.getD 0 0) m) = g := List.filter_eq_self.2 fun a ha => decide_eq_true (hall a ha)
  rw [this] at h1; omega
theorem nodup_len : ∀ (l l' : List Nat), l.Nodup → (∀ a, a ∈ l → a ∈ l') → l.length ≤ l'.length := by
  intro l
  induction l with
  | nil => intro l' _ _; exact Nat.zero_le _
  | cons a l ih =>
    intro l' hn hs
    have ha := hs a (List.mem_cons_self ..)
    have hal : a ∉ l := (List.nodup_cons.1 hn).1
    have := ih (l'.erase a) (List.nodup_cons.1 hn).2 fun b hb => by
      have hne : b ≠ a := fun e => hal (e ▸ hb)
      exact (List.mem_erase_of_ne hne).2 (hs b (List.mem_cons_of_mem _ hb))
    rw [List.length_erase_of_mem ha] at this
    have := List.length_pos_of_mem ha
    rw [List.length_cons]; omega
/-- the same sorts, in another order and under other numbers, cost no more -/
theorem turn_least {B C : KB} {s t p r : Nat → Nat} (H : Turn B C s t p r) (mean : Bool) : ∀ f (g g' : List Nat), GrpOk B g → GrpOk C g' → g.length ≤ f → g'.length ≤ g.length → (∀ i, i ∈ g → i < B.ns) → (∀ i, i < B.ns → (p i ∈ g' ↔ i ∈ g)) → (∀ i, i ∈ g' → i < B.ns) →
    leastL C mean f g' ≤ leastL B mean f g := by
  intro f
  induction f with
  | zero => intro g g' _ _ _ _ _ _ _; simp [leastL]
  | succ f ih =>
    intro g g' h h' hf hl hg hp hg'
    by_cases h1' : g'.length ≤ 1
    · rw [leastL_small _ _ _ _ h1']; exact h.pos mean hf
    have h1 : ¬ g.length ≤ 1 := by omega
    obtain ⟨m, hm, hs, e⟩ := least_eq h mean hf h1
    obtain ⟨a, ha, b, hb, hab⟩ := of_split (ne_nil_of h1) hs
    have hsC : splitL C g' (s m) = true := split_of ((hp a (hg a ha)).2 ha) ((hp b (hg b hb)).2 hb) (by rw [H.X a (hg a ha) m hm, H.X b (hg b hb) m hm]; exact hab)
    have hsm : s m < C.nv := by rw [H.nv]; exact (H.hs m hm).1
    rw [e]
    refine Int.le_trans (least_le h' mean (by omega) h1' hsm hsC) ?_
    have hpart : ∀ y, leastL C mean f (havL C g' (s m) y) ≤ leastL B mean f (havL B g m y) := fun y => by
      have hiff : ∀ i, i < B.ns → (p i ∈ havL C g' (s m) y ↔ i ∈ havL B g m y) := fun i hi => by
        rw [havL_mem', havL_mem', hp i hi, H.X i hi m hm]
      refine ih _ _ (h.hav m y) (h'.hav (s m) y) (h.parts mean hf h1 hs y).1 ?_ (fun i hi => hg i (havL_mem hi)) hiff (fun i hi => hg' i (havL_mem hi))
      have hlen := nodup_len ((havL C g' (s m) y).map r) (havL B g m y) ?_ fun i hi => ?_
      · rwa [List.length_map] at hlen
      · have hn := (h'.hav (s m) y).nd
        refine List.Pairwise.map _ (S := fun a b => a ≠ b) (R := fun a b => a ∈ havL C g' (s m) y ∧ b ∈ havL C g' (s m) y ∧ a ≠ b) (fun a b hab => ?_) ?_
        · obtain ⟨q1, q2, q3⟩ := hab
          intro e
          have e1 := (H.hr a (hg' a (havL_mem q1))).2
          have e2 := (H.hr b (hg' b (havL_mem q2))).2
          rw [e, e2] at e1
          exact q3 e1.symm
        · exact List.Pairwise.imp_of_mem (fun ha hb hne => ⟨ha, hb, hne⟩) hn
      · obtain ⟨j, hj, rfl⟩ := List.mem_map.1 hi
        have hjn := hg' j (havL_mem hj)
        have := (hiff (r j) (H.hr j hjn).1)
        rw [(H.hr j hjn).2] at this
        exact this.1 hj
    unfold costL
    rw [H.V m hm]
    split
    · exact totalTo_mono (by omega) (fun v => hpart v) _
    · exact worstTo_mono (fun v => hpart v) _
end Go.Proofs.Ytbieglmpkljjjaa
