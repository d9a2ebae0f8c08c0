/-
  Twice1: nodes of which one is passed over; what idle questions are.
-/
import Derived.Test.YtbieglmpkljjjaaLEach
namespace Go.Proofs.Ytbieglmpkljjjaa

/-- nodes in which whoever would come to one goes on to another one at once -/
def redir (D : Nd) (a t : Nat) : Nd := { D with T := fun k j => if k < a ∧ D.T k j = (a : Int) then (t : Int) else D.T k j }

theorem redir_good {nv : Nat} {V : Nat → Int} {ns : Nat} {D : Nd} {a t : Nat} (h : GoodN nv V ns D) (h1 : a < t) (h2 : t < D.n) : GoodN nv V ns (redir D a t) := by
  refine ⟨h.n1, h.stop, fun i hi hm => ?_⟩
  obtain ⟨b1, b2, b3, b4, b5⟩ := h.ask i hi hm
  refine ⟨b1, b2, b3, b4, fun j hj => ?_⟩
  have := b5 j hj
  show (i : Int) < (if i < a ∧ D.T i j = (a : Int) then (t : Int) else D.T i j) ∧ (if i < a ∧ D.T i j = (a : Int) then (t : Int) else D.T i j) < (D.n : Int)
  split
  · omega
  · exact this
theorem redir_nxt {nv : Nat} {V : Nat → Int} {ns : Nat} {D : Nd} {n a t : Nat} {x : Nat → Int} (h : GoodN nv V ns D) (hx : GoodX nv V n x) {i : Nat} (hi : i < D.n) (hm : D.M i ≠ -1) : nxt (redir D a t) x i = if nxt D x i = a then t else nxt D x i := by
  obtain ⟨h1, h2, h3, h4, h5⟩ := nxt_ok h hx hi hm
  show (if i < a ∧ D.T i (x (D.M i).toNat).toNat = (a : Int) then (t : Int) else D.T i (x (D.M i).toNat).toNat).toNat = _
  by_cases e : nxt D x i = a
  · rw [if_pos e, if_pos ⟨by omega, by rw [h5, e]⟩]; omega
  · rw [if_neg e, if_neg (fun hh => e (by have := hh.2; rw [h5] at this; omega))]; rfl

theorem redir_wk {nv : Nat} {V : Nat → Int} {ns : Nat} {D : Nd} {n a t : Nat} {x : Nat → Int} (h : GoodN nv V ns D) (hx : GoodX nv V n x) (h1 : a < t) (h2 : t < D.n) (hma : D.M a ≠ -1) (hto : a ∈ walk D x → nxt D x a = t) :
    ∀ (f i : Nat), D.n - i ≤ f → i < D.n → i ≠ a → (∀ j ∈ wk D x i, j ∈ walk D x) → wk (redir D a t) x i = (wk D x i).filter (fun j => decide (j ≠ a)) := by
  have hg := redir_good h h1 h2
  intro f
  induction f with
  | zero => intro i _ _; omega
  | succ f ih =>
    intro i hf hi hia hsub
    by_cases hm : D.M i = -1
    · rw [wk_stop h hi hm, wk_stop hg hi hm]; simp [hia]
    · have e1 := wk_go h hx hi hm
      have e2 := wk_go hg hx (i := i) hi hm
      obtain ⟨b1, b2, _⟩ := nxt_ok h hx hi hm
      rw [redir_nxt h hx hi hm] at e2
      rw [e1, e2]
      rw [e1] at hsub
      by_cases e : nxt D x i = a
      · rw [if_pos e]
        have e3 := wk_go h hx (i := a) (by omega) hma
        rw [e, e3] at hsub ⊢
        have ht := hto (hsub a (by simp))
        rw [ht] at hsub ⊢
        rw [ih t (by omega) h2 (by omega) (fun j hj => hsub j (by simp [hj]))]
        simp [hia]
      · rw [if_neg e, ih _ (by omega) b2 e (fun j hj => hsub j (by simp [hj]))]
        simp [hia]
theorem redir_walk {nv : Nat} {V : Nat → Int} {ns : Nat} {D : Nd} {n a t : Nat} {x : Nat → Int} (h : GoodN nv V ns D) (hx : GoodX nv V n x) (h0 : a ≠ 0) (h1 : a < t) (h2 : t < D.n) (hma : D.M a ≠ -1) (hto : a ∈ walk D x → nxt D x a = t) :
    walk (redir D a t) x = (walk D x).filter (fun j => decide (j ≠ a)) := by
  rw [walk_wk, walk_wk]
  exact redir_wk h hx h1 h2 hma hto D.n 0 (by omega) h.n1 (fun e => h0 e.symm) (fun j hj => by rw [walk_wk]; exact hj)

theorem cnt_mono (p : Nat → Bool) : ∀ {a b : Nat}, a ≤ b → cnt a p ≤ cnt b p := by
  intro a b h
  induction b with
  | zero => rw [show a = 0 by omega]; exact Nat.le_refl _
  | succ b ih =>
    by_cases e : a = b + 1
    · rw [e]; exact Nat.le_refl _
    · have := ih (by omega); simp only [cnt]; split <;> omega
theorem cnt_lt {p : Nat → Bool} {a b : Nat} (h : a < b) (hp : p a = true) : cnt a p < cnt b p := by
  have h1 := cnt_mono p (a := a + 1) (b := b) h
  rw [cnt_hit hp] at h1; omega
theorem rank_inj {p : Nat → Bool} {a b : Nat} (ha : p a = true) (hb : p b = true) (h : cnt a p = cnt b p) : a = b := by
  rcases Nat.lt_trichotomy a b with e | e | e
  · have := cnt_lt e ha; omega
  · exact e
  · have := cnt_lt e hb; omega
theorem rank_ex (p : Nat → Bool) : ∀ (n c : Nat), c < cnt n p → ∃ j, j < n ∧ p j = true ∧ cnt j p = c := by
  intro n
  induction n with
  | zero => intro c h; simp [cnt] at h
  | succ n ih =>
    intro c h
    cases hp : p n with
    | true =>
      rw [cnt_hit hp] at h
      by_cases e : c = cnt n p
      · exact ⟨n, by omega, hp, e.symm⟩
      · obtain ⟨j, h1, h2, h3⟩ := ih c (by omega); exact ⟨j, by omega, h2, h3⟩
    | false =>
      rw [cnt_miss hp] at h
      obtain ⟨j, h1, h2, h3⟩ := ih c h; exact ⟨j, by omega, h2, h3⟩
theorem sel_length (p : Nat → Bool) : ∀ n, (sel p n).length = cnt n p := by
  intro n
  induction n with
  | zero => rfl
  | succ n ih =>
    cases hp : p n with
    | true => rw [sel_hit hp, cnt_hit hp, List.length_append, ih]; rfl
    | false => rw [sel_miss hp, cnt_miss hp, ih]
theorem sel_get (p : Nat → Bool) : ∀ (n j : Nat), j < n → p j = true → (sel p n)[cnt j p]? = some (j : Int) := by
  intro n
  induction n with
  | zero => intro j h; omega
  | succ n ih =>
    intro j hj hpj
    by_cases e : j = n
    · subst e
      rw [sel_hit hpj, List.getElem?_append_right (by rw [sel_length]; exact Nat.le_refl _), sel_length]
      simp
    · have h1 := ih j (by omega) hpj
      cases hp : p n with
      | true =>
        rw [sel_hit hp, List.getElem?_append_left (by exact (List.getElem?_eq_some_iff.1 h1).1)]
        exact h1
      | false => rw [sel_miss hp]; exact h1

theorem cnt_one {p : Nat → Bool} : ∀ {n : Nat}, cnt n p = 1 → ∃ v, v < n ∧ p v = true ∧ ∀ u, u < n → p u = true → u = v := by
  intro n h
  obtain ⟨v, h1, h2, h3⟩ := rank_ex p n 0 (by omega)
  refine ⟨v, h1, h2, fun u hu hp => ?_⟩
  have a := cnt_mono p (a := u + 1) (b := n) hu
  rw [cnt_hit hp] at a
  exact rank_inj hp h2 (by omega)

/-- an idle question: fruits come to it, all with one value -/
theorem idle_value {B : KB} (hG : GoodB B) {i : Nat} (hi : i < B.D.n) (h : idleP B i = true) : B.D.M i ≠ -1 ∧ (∃ z ∈ allF B, i ∈ walk B.D (atL z)) ∧
    ∃ v : Nat, ∀ x, GoodX B.nv B.V B.nv x → i ∈ walk B.D x → (x (B.D.M i).toNat).toNat = v := by
  obtain ⟨v, hv, hp, hu⟩ := cnt_one (of_decide_eq_true h)
  have hp' := hp
  unfold hasV at hp
  simp only [List.any_eq_true, Bool.and_eq_true, decide_eq_true_eq, List.contains_iff_mem] at hp
  obtain ⟨z, hz, ⟨h1, h2⟩, h3⟩ := hp
  obtain ⟨m0, m1, _⟩ := hG.D.ask i hi h2
  refine ⟨h2, ⟨z, hz, h1⟩, v, fun x hx hix => ?_⟩
  have hat : ∀ k, k < B.nv → atL (fromF B.nv x) k = x k := fun k hk => by simp [atL, fromF, hk]
  have hin : InC anyC B.V B.nv (atL (fromF B.nv x)) := fun k hk => by
    rw [hat k hk]; exact ⟨(hx.x k hk).1, (hx.x k hk).2, fun h => absurd rfl h⟩
  have hb := hx.x (B.D.M i).toNat (by omega)
  have hV := hG.V (B.D.M i).toNat (by omega)
  refine hu _ (by omega) ?_
  unfold hasV
  simp only [List.any_eq_true, Bool.and_eq_true, decide_eq_true_eq, List.contains_iff_mem]
  refine ⟨fromF B.nv x, (allF_mem B _).2 ⟨by simp [fromF], hin⟩, ⟨?_, h2⟩, ?_⟩
  · rw [← walk_congr hG.D hx (fun k hk => (hat k hk).symm)]; exact hix
  · rw [hat _ (by omega)]
theorem idle_not0 {B : KB} (hG : GoodB B) : idleP B 0 = false := by
  cases h : idleP B 0 with
  | false => rfl
  | true =>
    exfalso
    obtain ⟨h1, _, v, h3⟩ := idle_value hG hG.D.n1 h
    obtain ⟨m0, m1, _⟩ := hG.D.ask 0 hG.D.n1 h1
    have hx : ∀ c : Int, 0 ≤ c → c ≤ 1 → GoodX B.nv B.V B.nv (fun _ => c) := fun c a b => ⟨rfl, fun i hi => by have := hG.V i hi; omega⟩
    have hm : ∀ x, GoodX B.nv B.V B.nv x → 0 ∈ walk B.D x := fun x hx => by
      have := (wk_mark hG.D hx B.D.n 0 (by omega) hG.D.n1).2
      rw [← walk_wk] at this
      exact getD_mem'.2 ⟨0, by omega, this.1⟩
    have a := h3 _ (hx 0 (by omega) (by omega)) (hm _ (hx 0 (by omega) (by omega)))
    have b := h3 _ (hx 1 (by omega) (by omega)) (hm _ (hx 1 (by omega) (by omega)))
    simp at a b
    omega

/-- idle questions from the rank c on -/
def fromR (p : Nat → Bool) (c j : Nat) : Bool := p j && decide (c ≤ cnt j p)
theorem fromR_step {p : Nat → Bool} {a j : Nat} (ha : p a = true) : fromR p (cnt a p) j = (fromR p (cnt a p + 1) j || decide (j = a)) := by
  unfold fromR
  rw [Bool.eq_iff_iff]
  simp only [Bool.and_eq_true, Bool.or_eq_true, decide_eq_true_eq]
  constructor
  · rintro ⟨h1, h2⟩
    by_cases e : cnt j p = cnt a p
    · exact .inr (rank_inj h1 ha e)
    · exact .inl ⟨h1, by omega⟩
  · rintro (⟨h1, h2⟩ | rfl)
    · exact ⟨h1, by omega⟩
    · exact ⟨ha, Nat.le_refl _⟩

/-- nodes in which the questions of P are passed over -/
structure Skip (B : KB) (D : Nd) (P : Nat → Bool) : Prop where
  n : D.n = B.D.n
  M : D.M = B.D.M
  S : D.S = B.D.S
  q : D.q = B.D.q
  good : GoodN B.nv B.V B.ns D
  walk : ∀ x, GoodX B.nv B.V B.nv x → walk D x = (Go.Proofs.Ytbieglmpkljjjaa.walk B.D x).filter (fun j => !P j)

theorem Skip.start {B : KB} (hG : GoodB B) {P : Nat → Bool} (hP : ∀ j, j < B.D.n → P j = false) : Skip B B.D P :=
  ⟨rfl, rfl, rfl, rfl, hG.D, fun x hx => by
    rw [List.filter_eq_self.2 fun j hj => ?_]
    obtain ⟨i, hi, e⟩ := getD_mem'.1 hj
    have := (walkF hG hx).lt i hi
    rw [e] at this
    rw [hP j this]; rfl⟩
theorem Skip.step {B : KB} (hG : GoodB B) {D : Nd} {P Q : Nat → Bool} (h : Skip B D P) {a t : Nat} (hna : P a = false) (ha0 : a ≠ 0) (hma : B.D.M a ≠ -1) (h1 : a < t) (h2 : t < B.D.n) (hto : ∀ x, GoodX B.nv B.V B.nv x → a ∈ Go.Proofs.Ytbieglmpkljjjaa.walk B.D x → nxt D x a = t)
    (hQ : ∀ j, Q j = (P j || decide (j = a))) : Skip B (redir D a t) Q := by
  refine ⟨h.n, h.M, h.S, h.q, redir_good h.good h1 (by rw [h.n]; exact h2), fun x hx => ?_⟩
  rw [redir_walk h.good hx ha0 h1 (by rw [h.n]; exact h2) (by rw [h.M]; exact hma) (fun hm => hto x hx (by
    rw [h.walk x hx] at hm; exact (List.mem_filter.1 hm).1)), h.walk x hx, List.filter_filter]
  congr 1
  funext j
  rw [hQ, Bool.eq_iff_iff]
  simp [and_comm]

theorem Skip.end {B : KB} (hG : GoodB B) {D : Nd} {P : Nat → Bool} (h : Skip B D P) (hP : ∀ j, P j = true → B.D.M j ≠ -1) {x : Nat → Int} (hx : GoodX B.nv B.V B.nv x) : endOf D x = endOf B.D x ∧ (Go.Proofs.Ytbieglmpkljjjaa.walk D x).length ≤ (Go.Proofs.Ytbieglmpkljjjaa.walk B.D x).length := by
  obtain ⟨pre, k, e, hk, hm, hl, he⟩ := walk_last hG.D hx
  have hw := h.walk x hx
  have hPk : P k = false := by
    cases hp : P k with
    | false => rfl
    | true => exact absurd hm (hP k hp)
  rw [hw]
  refine ⟨?_, List.length_filter_le _ _⟩
  rw [he]
  unfold endOf
  rw [hw, e, List.filter_append]
  simp [hPk, lastOf, h.S]

theorem Skip.end' {B : KB} (hG : GoodB B) {D : Nd} {P : Nat → Bool} (h : Skip B D P) (hP : ∀ j, P j = true → j < B.D.n → B.D.M j ≠ -1) {x : Nat → Int} (hx : GoodX B.nv B.V B.nv x) : endOf D x = endOf B.D x ∧ (Go.Proofs.Ytbieglmpkljjjaa.walk D x).length ≤ (Go.Proofs.Ytbieglmpkljjjaa.walk B.D x).length := by
  obtain ⟨pre, k, e, hk, hm, hl, he⟩ := walk_last hG.D hx
  have hw := h.walk x hx
  have hPk : P k = false := by
    cases hp : P k with
    | false => rfl
    | true => exact absurd hm (hP k hp hk)
  rw [hw]
  refine ⟨?_, List.length_filter_le _ _⟩
  rw [he]
  unfold endOf
  rw [hw, e, List.filter_append]
  simp [hPk, lastOf, h.S]

end Go.Proofs.Ytbieglmpkljjjaa
