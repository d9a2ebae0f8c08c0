/-
  Made0: a key that a maker made names all sorts.
-/
import Derived.Test.YtghimbggbgcgkaaMk8
import Derived.Test.YtghimbggbgcgkaaNames
namespace Go.Proofs.Ytghimbggbgcgkaa
open Go.RowKit

theorem maxF_ge (f : Nat → Int) : ∀ n i, i ≤ n → f i ≤ maxF f n
  | 0, i, h => by obtain rfl : i = 0 := by omega
                  exact Int.le_refl _
  | n + 1, i, h => by
    simp only [maxF]
    by_cases e : i = n + 1
    · subst e; omega
    · have := maxF_ge f n i (by omega); omega
theorem lastOf_cons (p : Nat) (l : List Nat) (h : l ≠ []) : lastOf (p :: l) = lastOf l := by
  cases l with
  | nil => exact absurd rfl h
  | cons a t => simp [lastOf, List.getLastD]
theorem list_get {l : List NR} {p : Nat} (hp : p < l.length) : l[p]? = some (getR l p) := by simp [getR, List.getD, hp]

/-- what a node that stands at place p says -/
theorem node_at {B : KB} {s : Nat} {l : List NR} {ss : List Nat} (K : KeyR B s l ss) {p : Nat} (hp : p < l.length) :
    ∃ t, ss[l.length - 1 - p]? = some t ∧ SetOk B t ∧ NodeOk B ss (l.length - 1 - p) t (getR l (l.length - 1 - p)) := by
  have h1 : l.length - 1 - p < ss.length := by rw [K.slen]; omega
  obtain ⟨h2, h3⟩ := K.good (l.length - 1 - p) ss[l.length - 1 - p] _ (List.getElem?_eq_getElem h1) (list_get (by omega))
  exact ⟨_, List.getElem?_eq_getElem h1, h2, h3⟩
theorem endSort_ok {B : KB} {t : Nat} (h : SetOk B t) (h1 : (mems t).length ≤ 1) : (mems t = [] ∧ endSort t = -1) ∨ ∃ a, mems t = [a] ∧ a < B.ns ∧ endSort t = (a : Int) := by
  unfold endSort
  cases e : mems t with
  | nil => exact .inl ⟨rfl, rfl⟩
  | cons a r =>
    rw [e] at h1
    cases r with
    | nil => exact .inr ⟨a, rfl, h.mem a (by rw [e]; exact List.mem_cons_self ..), rfl⟩
    | cons b q => simp at h1
/-- the nodes are nodes -/
theorem key_okN {B : KB} (hG : GoodB B) {s : Nat} {l : List NR} {ss : List Nat} (K : KeyR B s l ss) : okN B.nv B.V B.ns (ndOf l) 40 = true := by
  simp only [okN, Bool.and_eq_true, decide_eq_true_eq, allB_true]
  refine ⟨⟨K.one, K.few⟩, fun p hp => ?_⟩
  have hp : p < l.length := hp
  obtain ⟨t, _, h2, h3⟩ := node_at K hp
  obtain ⟨r, hr⟩ : ∃ r, getR l (l.length - 1 - p) = r := ⟨_, rfl⟩
  rw [hr] at h3
  have eM : (ndOf l).M p = r.ma := by show (getR l (l.length - 1 - p)).ma = _; rw [hr]
  have eS : (ndOf l).S p = r.so := by show (getR l (l.length - 1 - p)).so = _; rw [hr]
  have eq : (ndOf l).q p = r.nx.length := by show (getR l (l.length - 1 - p)).nx.length = _; rw [hr]
  have eT : ∀ y, (ndOf l).T p y = ((l.length - 1 : Nat) : Int) - ((r.nx.getD y 0 : Nat) : Int) := fun y => by show ((l.length - 1 : Nat) : Int) - (((getR l (l.length - 1 - p)).nx.getD y 0 : Nat) : Int) = _; rw [hr]
  have eN : (ndOf l).n = l.length := rfl
  unfold okNode okAsk okEnd
  simp only [Bool.or_eq_true, Bool.and_eq_true, decide_eq_true_eq, allB_true]
  rw [eM, eS, eq, eN]
  rcases h3 with ⟨h4, h5, h6, h7⟩ | ⟨_, m, h5, h6, h7, h8, _, _, h9⟩
  · right
    rw [h6]
    refine ⟨⟨h5, ?_⟩, rfl⟩
    rcases endSort_ok h2 h4 with ⟨_, e⟩ | ⟨a, _, ha, e⟩
    · left; rw [h7, e]
    · right; rw [h7, e]; omega
  · left
    have hV := hG.V m h5
    have hm : r.ma.toNat = m := by rw [h6]; rfl
    rw [hm]
    refine ⟨⟨⟨⟨by omega, by omega⟩, h7⟩, by omega⟩, fun y hy => ?_⟩
    obtain ⟨j, j1, j2, _⟩ := h9 y (by omega)
    have ej : r.nx.getD y 0 = j := by rw [List.getD_eq_getElem?_getD, j2]; rfl
    rw [eT, ej]
    omega

/-- from the node of a set each sort of it is found, with no more questions than the set costs -/
theorem key_walk {B : KB} (hG : GoodB B) {s : Nat} {l : List NR} {ss : List Nat} (K : KeyR B s l ss) : ∀ n i, i < n → i < l.length → ∀ t, ss[i]? = some t → ∀ a, a ∈ mems t →
    ((wk (ndOf l) (B.X a) (l.length - 1 - i)).length : Int) - 1 ≤ costK B false t ∧ (ndOf l).S (lastOf (wk (ndOf l) (B.X a) (l.length - 1 - i))) = (a : Int) := by
  have hD := (goodN (key_okN hG K)).1
  intro n
  induction n with
  | zero => intro i h; omega
  | succ n ih =>
    intro i hin hil t ht a ha
    have hp : l.length - 1 - i < l.length := by omega
    have hpn : l.length - 1 - i < (ndOf l).n := hp
    have ei : l.length - 1 - (l.length - 1 - i) = i := by omega
    obtain ⟨t', h1, h2, h3⟩ := node_at K hp
    rw [ei] at h1 h3
    obtain rfl : t' = t := by rw [ht] at h1; injection h1 with h1; exact h1.symm
    obtain ⟨r, hr⟩ : ∃ r, getR l i = r := ⟨_, rfl⟩
    rw [hr] at h3
    have eM : (ndOf l).M (l.length - 1 - i) = r.ma := by show (getR l (l.length - 1 - (l.length - 1 - i))).ma = _; rw [ei, hr]
    have eS : (ndOf l).S (l.length - 1 - i) = r.so := by show (getR l (l.length - 1 - (l.length - 1 - i))).so = _; rw [ei, hr]
    have eT : ∀ y, (ndOf l).T (l.length - 1 - i) y = ((l.length - 1 : Nat) : Int) - ((r.nx.getD y 0 : Nat) : Int) := fun y => by show ((l.length - 1 : Nat) : Int) - (((getR l (l.length - 1 - (l.length - 1 - i))).nx.getD y 0 : Nat) : Int) = _; rw [ei, hr]
    have hx := hG.X a (h2.mem a ha)
    rcases h3 with ⟨h4, h5, h6, h7⟩ | ⟨hbig, m, h5, h6, h7, h8, _, hc, h9⟩
    · rw [wk_stop hD hpn (by rw [eM, h5])]
      refine ⟨?_, ?_⟩
      · rw [costK_small h4]; simp
      · show (ndOf l).S (l.length - 1 - i) = _
        rw [eS, h7]
        rcases endSort_ok h2 h4 with ⟨e, _⟩ | ⟨b, e, _, e2⟩
        · rw [e] at ha; cases ha
        · rw [e] at ha
          rw [e2, List.mem_singleton.1 ha]
    · have hm : (ndOf l).M (l.length - 1 - i) ≠ -1 := by rw [eM, h6]; omega
      have hV := hG.V m h5
      have hxm := hx.x m h5
      obtain ⟨j, j1, j2, j3⟩ := h9 (B.X a m).toNat (by omega)
      have ej : r.nx.getD (B.X a m).toNat 0 = j := by rw [List.getD_eq_getElem?_getD, j2]; rfl
      have hnx : nxt (ndOf l) (B.X a) (l.length - 1 - i) = l.length - 1 - j := by
        unfold nxt
        rw [eM, h6, eT, show ((m : Int)).toNat = m from rfl, ej]; omega
      have eX : (((B.X a m).toNat : Nat) : Int) = B.X a m := Int.toNat_of_nonneg hxm.1
      have ha2 : a ∈ mems (partF B t' m ((B.X a m).toNat : Nat)) := by
        rw [mems_mem (partF_lt _ _ _ _), partF_bit _ _ _ _ (by have := h2.mem a ha; have := hG.ns; omega), (mems_mem h2.lt).1 ha, eX]
        simp
      obtain ⟨g1, g2⟩ := ih j (by omega) (by omega) _ j3 a ha2
      have hgo := wk_go hD hx hpn hm
      rw [hnx] at hgo
      have hne : wk (ndOf l) (B.X a) (l.length - 1 - j) ≠ [] := by
        obtain ⟨pre, k, e, _⟩ := wk_last hD hx (ndOf l).n (l.length - 1 - j) (by omega) (by show _ < l.length; omega)
        rw [e]; simp
      rw [hgo]
      refine ⟨?_, by rw [lastOf_cons _ _ hne]; exact g2⟩
      have hmx := maxF_ge (fun y => costK B false (partF B t' m (y : Nat))) ((B.V m).toNat - 1) (B.X a m).toNat (by omega)
      have hcs : costS B false t' m = 1 + maxF (fun y => costK B false (partF B t' m (y : Nat))) ((B.V m).toNat - 1) := rfl
      rw [← hc, hcs]
      simp only [List.length_cons]
      have hmx' : costK B false (partF B t' m ((B.X a m).toNat : Nat)) ≤ maxF (fun y => costK B false (partF B t' m (y : Nat))) ((B.V m).toNat - 1) := hmx
      omega

/-- the key that is made names all sorts, with no more questions than the least -/
theorem made_names {B : KB} (hG : GoodB B) {l : List NR} {ss : List Nat} (K : KeyR B (setF (fun _ => true) B.ns) l ss) : isK B (ndOf l) B.ns = true ∧ (worstN B (ndOf l) B.ns : Int) ≤ max 0 (leastL B false 8 (List.range B.ns)) := by
  have hone := K.one
  have key : ∀ i, i < B.ns → (questN (ndOf l) (B.X i) : Int) ≤ leastL B false 8 (List.range B.ns) ∧ endOf (ndOf l) (B.X i) = (i : Int) := fun i hi => by
    have h := key_walk hG K l.length (l.length - 1) (by omega) (by omega) _ K.last i (by rw [mems_all hG.ns]; exact List.mem_range.2 hi)
    rw [show l.length - 1 - (l.length - 1) = 0 by omega, ← walk_wk, costK_all hG] at h
    refine ⟨?_, h.2⟩
    have hD := (goodN (key_okN hG K)).1
    obtain ⟨pre, k', e, _⟩ := walk_last hD (hG.X i hi)
    have hl : 1 ≤ (walk (ndOf l) (B.X i)).length := by rw [e]; simp
    have := h.1
    unfold questN; omega
  refine ⟨?_, ?_⟩
  · unfold isK; rw [allB_true]; exact fun i hi => decide_eq_true (key i hi).2
  · have : ∀ k, k ≤ B.ns → (worstN B (ndOf l) k : Int) ≤ max 0 (leastL B false 8 (List.range B.ns)) := by
      intro k
      induction k with
      | zero => intro _; simp only [worstN]; omega
      | succ k ih =>
        intro h
        have h1 := ih (by omega)
        have h2 := (key k (by omega)).1
        simp only [worstN]; omega
    exact this _ (Nat.le_refl _)

end Go.Proofs.Ytghimbggbgcgkaa
