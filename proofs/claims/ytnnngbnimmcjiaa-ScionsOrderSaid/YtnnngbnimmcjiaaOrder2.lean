/-
  Order0: gifts of a list, and those of another one in which things have other numbers, in words of lists.
  Order1: a list in which gardens, wants, frosts and sorts come from other numbers on.
  Order2: lists that are rewritten place by place; an argument with four numbers.
-/
import Derived.Test.YtnnngbnimmcjiaaEach1
import Derived.Test.YtnnngbnimmcjiaaRPlace
import Derived.Test.YtnnngbnimmcjiaaDataK
namespace Go.Proofs.Ytnnngbnimmcjiaa
open Go.RowKit

/-- wants, sorts, gardens and frosts of one list, and their numbers in another one -/
structure Mp (B B' : SB) (D : Nat → Prop) (σ τ π ρ : Nat → Nat) : Prop where
  lt : ∀ k, k < B.nw → D k → σ k < B'.nw
  inj : ∀ j k, j < B.nw → k < B.nw → D j → D k → σ j = σ k → j = k
  s : ∀ k, k < B.nw → D k → B'.sN (σ k) = τ (B.sN k)
  g : ∀ k, k < B.nw → D k → B'.gN (σ k) = π (B.gN k)
  f : ∀ k, k < B.nw → D k → B'.fN (σ k) = ρ (B.fN k)
  ns : B'.ns = B.ns
  τl : ∀ s, s < B.ns → τ s < B.ns
  τi : ∀ r s, r < B.ns → s < B.ns → τ r = τ s → r = s
  τs : ∀ s', s' < B.ns → ∃ s, s < B.ns ∧ τ s = s'
  πi : ∀ r s, r < B.ng → s < B.ng → π r = π s → r = s
  πs : ∀ a', a' < B'.ng → ∃ a, a < B.ng ∧ π a = a'
  ρi : ∀ r s, r < 4 → s < 4 → ρ r = ρ s → r = s
  C : ∀ s, s < B.ns → B.C s ≤ B'.C (τ s)
  P : ∀ a, a < B.ng → B.P a ≤ B'.P (π a)

def img (n : Nat) (σ : Nat → Nat) (g : List Nat) : List Nat := (List.range n).filter fun j => (g.map σ).contains j

section
variable {B B' : SB} {D : Nat → Prop} {σ τ π ρ : Nat → Nat}
theorem img_perm (m : Mp B B' D σ τ π ρ) {g : List Nat} (hk : ∀ k, k ∈ g → k < B.nw ∧ D k) (hp : g.Pairwise (· < ·)) : (img B'.nw σ g).Perm (g.map σ) := by
  refine (List.perm_ext_iff_of_nodup ?_ ?_).2 fun a => ?_
  · exact List.Pairwise.filter _ List.nodup_range
  · unfold List.Nodup
    rw [List.pairwise_map]
    refine hp.imp_of_mem fun ha hb hab e => ?_
    have := m.inj _ _ (hk _ ha).1 (hk _ hb).1 (hk _ ha).2 (hk _ hb).2 e
    omega
  · unfold img
    rw [List.mem_filter, List.mem_range, List.contains_iff_mem]
    constructor
    · exact And.right
    · intro h
      refine ⟨?_, h⟩
      obtain ⟨k, hkg, rfl⟩ := List.mem_map.1 h
      exact m.lt k (hk k hkg).1 (hk k hkg).2
theorem img_count (m : Mp B B' D σ τ π ρ) {g : List Nat} (hk : ∀ k, k ∈ g → k < B.nw ∧ D k) (hp : g.Pairwise (· < ·)) {p q : Nat → Bool} (h : ∀ k, k ∈ g → p (σ k) = q k) : (img B'.nw σ g).countP p = g.countP q := by
  rw [(img_perm m hk hp).countP_eq, List.countP_map]
  exact count_congr h

theorem img_gift {p : Nat} (hG : GoodL B p) (hG' : GoodL B' p) (m : Mp B B' D σ τ π ρ) {g : List Nat} (h : g ∈ giftsL B) (hD : ∀ k, k ∈ g → D k) :
    img B'.nw σ g ∈ giftsL B' ∧ (img B'.nw σ g).length = g.length ∧ (∀ s, s < B.ns → cS B' (img B'.nw σ g) (τ s) = cS B g s) ∧ ∀ a, a < B.ng → cG B' (img B'.nw σ g) (π a) = cG B g a := by
  obtain ⟨hf, hk, hp⟩ := gifts_iff.1 h
  obtain ⟨h1, h2, h3⟩ := (fit_iff hG _ g rfl hk).1 hf
  have hkD : ∀ k, k ∈ g → k < B.nw ∧ D k := fun k hkg => ⟨hk k hkg, hD k hkg⟩
  have hc : ∀ s, s < B.ns → cS B' (img B'.nw σ g) (τ s) = cS B g s := fun s hs => img_count m hkD hp fun k hkg => by
    show (B'.sN (σ k) == τ s) = (B.sN k == s)
    rw [m.s k (hk k hkg) (hD k hkg), Bool.eq_iff_iff, beq_iff_eq, beq_iff_eq]
    exact ⟨fun e => m.τi _ _ (hG.sN (hk k hkg)).1 hs e, fun e => by rw [e]⟩
  have hg : ∀ a, a < B.ng → cG B' (img B'.nw σ g) (π a) = cG B g a := fun a ha => img_count m hkD hp fun k hkg => by
    show (B'.gN (σ k) == π a) = (B.gN k == a)
    rw [m.g k (hk k hkg) (hD k hkg), Bool.eq_iff_iff, beq_iff_eq, beq_iff_eq]
    exact ⟨fun e => m.πi _ _ (hG.gN (hk k hkg)).1 ha e, fun e => by rw [e]⟩
  have hT : ∀ s' f', cT B' (img B'.nw σ g) s' f' ≤ 1 := fun s' f' => by
    by_cases hex : ∃ k, k ∈ g ∧ B'.sN (σ k) = s' ∧ B'.fN (σ k) = f'
    · obtain ⟨k, hkg, rfl, rfl⟩ := hex
      have e : cT B' (img B'.nw σ g) (B'.sN (σ k)) (B'.fN (σ k)) = cT B g (B.sN k) (B.fN k) := img_count m hkD hp fun j hj => by
        show (B'.sN (σ j) == B'.sN (σ k) && B'.fN (σ j) == B'.fN (σ k)) = (B.sN j == B.sN k && B.fN j == B.fN k)
        rw [m.s k (hk k hkg) (hD k hkg), m.s j (hk j hj) (hD j hj), m.f k (hk k hkg) (hD k hkg), m.f j (hk j hj) (hD j hj), Bool.eq_iff_iff]
        simp only [Bool.and_eq_true, beq_iff_eq]
        exact ⟨fun e => ⟨m.τi _ _ (hG.sN (hk j hj)).1 (hG.sN (hk k hkg)).1 e.1, m.ρi _ _ (hG.fN (hk j hj)).1 (hG.fN (hk k hkg)).1 e.2⟩, fun e => ⟨by rw [e.1], by rw [e.2]⟩⟩
      rw [e]; exact h3 _ _
    · have e : cT B' (img B'.nw σ g) s' f' = 0 := by
        unfold cT
        rw [(img_perm m hkD hp).countP_eq, List.countP_map, List.countP_eq_zero]
        intro k hkg he
        simp only [Function.comp, Bool.and_eq_true, beq_iff_eq] at he
        exact hex ⟨k, hkg, he⟩
      omega
  have hmem : ∀ k, k ∈ img B'.nw σ g → k < B'.nw := fun k hk => List.mem_range.1 (List.mem_filter.1 hk).1
  refine ⟨gifts_iff.2 ⟨(fit_iff hG' _ _ rfl hmem).2 ⟨fun s' hs' => ?_, fun a' ha' => ?_, hT⟩, hmem, List.Pairwise.filter _ List.pairwise_lt_range⟩, ?_, hc, hg⟩
  · rw [m.ns] at hs'
    obtain ⟨s, hs, rfl⟩ := m.τs s' hs'
    rw [hc s hs]
    have := h1 s hs
    have := m.C s hs
    omega
  · obtain ⟨a, ha, rfl⟩ := m.πs a' ha'
    rw [hg a ha]
    have := h2 a ha
    have := m.P a ha
    omega
  · rw [(img_perm m hkD hp).length_eq, List.length_map]

theorem safeC_count (c : Nat → Nat) : ∀ n, safeC c n = (List.range n).countP fun i => decide (2 ≤ c i) := by
  intro n
  induction n with
  | zero => rfl
  | succ n ih =>
    rw [List.range_succ, List.countP_append, ← ih]
    simp only [safeC, List.countP_cons, List.countP_nil, Nat.zero_add, decide_eq_true_eq]
theorem turn_range {n : Nat} {τ : Nat → Nat} (hl : ∀ s, s < n → τ s < n) (hi : ∀ r s, r < n → s < n → τ r = τ s → r = s) (hs : ∀ s', s' < n → ∃ s, s < n ∧ τ s = s') : ((List.range n).map τ).Perm (List.range n) := by
  refine (List.perm_ext_iff_of_nodup ?_ List.nodup_range).2 fun a => ?_
  · unfold List.Nodup
    rw [List.pairwise_map]
    refine List.pairwise_lt_range.imp_of_mem fun ha hb hab e => ?_
    have := hi _ _ (List.mem_range.1 ha) (List.mem_range.1 hb) e
    omega
  · rw [List.mem_map, List.mem_range]
    constructor
    · rintro ⟨s, h, rfl⟩; exact hl s (List.mem_range.1 h)
    · intro h
      obtain ⟨s, h1, h2⟩ := hs a h
      exact ⟨s, List.mem_range.2 h1, h2⟩
theorem img_safe (hG : GoodL B 4) (hG' : GoodL B' 4) (m : Mp B B' D σ τ π ρ) {g : List Nat} (h : g ∈ giftsL B) (hD : ∀ k, k ∈ g → D k) : safeG B' (img B'.nw σ g) = safeG B g := by
  obtain ⟨h1, _, h3, _⟩ := img_gift hG hG' m h hD
  rw [safeG_ns hG' (giftsL_ok h1), safeG_ns hG (giftsL_ok h), m.ns, safeC_count, safeC_count, ← (turn_range m.τl m.τi m.τs).countP_eq, List.countP_map]
  refine count_congr fun s hs => ?_
  show decide (2 ≤ cS B' (img B'.nw σ g) (τ s)) = _
  rw [h3 s (List.mem_range.1 hs)]

theorem mp_sum {p : Nat} (hG : GoodL B p) (hG' : GoodL B' p) (m : Mp B B' (fun _ => True) σ τ π ρ) : sumN B ≤ sumN B' := by
  obtain ⟨g, hg, e⟩ := sumN_is hG
  obtain ⟨h1, h2, _⟩ := img_gift hG hG' m hg fun _ _ => trivial
  have := sumN_ge hG' h1
  omega
theorem mp_safe (hG : GoodL B 4) (hG' : GoodL B' 4) (m : Mp B B' (fun _ => True) σ τ π ρ) : safeN B ≤ safeN B' := by
  have hg := best_in (B := B) (safeG B)
  have h1 := img_safe hG hG' m hg fun _ _ => trivial
  have h2 := safeN_ge (img_gift hG hG' m hg fun _ _ => trivial).1
  show safeG B _ ≤ _
  omega
theorem mp_alone {p : Nat} (hG : GoodL B p) (hG' : GoodL B' p) (m : Mp B B' (fun _ => True) σ τ π ρ) {s : Nat} (hs : s < B.ns) : aloneN B s ≤ aloneN B' (τ s) := by
  have hg := best_in (B := B) (fun g => cS B g s)
  obtain ⟨h1, _, h3, _⟩ := img_gift hG hG' m hg fun _ _ => trivial
  have := alone_ge h1 (τ s)
  rw [h3 s hs] at this
  exact this
theorem mp_rank (hG : GoodL B 4) (hG' : GoodL B' 4) (m : Mp B B' (fun _ => True) σ τ π ρ) (hτ : ∀ s, s < B.ns → τ s = s) : rankG B (bestL (rankG B) (giftsL B)) ≤ rankG B' (bestL (rankG B') (giftsL B')) := by
  have hg := best_in (B := B) (rankG B)
  obtain ⟨h1, _, h3, _⟩ := img_gift hG hG' m hg fun _ _ => trivial
  have h2 := best_ge (f := rankG B') _ _ h1
  have e : rankG B' (img B'.nw σ (bestL (rankG B) (giftsL B))) = rankG B (bestL (rankG B) (giftsL B)) := by
    show rankC _ 4 = rankC _ 4
    refine rank_eq 4 fun j _ => ?_
    rcases Nat.lt_or_ge j B.ns with h | h
    · have := h3 j h; rw [hτ j h] at this; exact this
    · rw [(giftsL_ok h1).cS0 hG' j (by rw [m.ns]; exact h), (giftsL_ok hg).cS0 hG j h]
  omega
end

theorem rank_inj {c d : Nat → Nat} (n : Nat) (hb : ∀ i, i < n → c i ≤ 4 ∧ d i ≤ 4) (h : rankC c n = rankC d n) : ∀ j, j < n → c j = d j := by
  intro j
  induction j using Nat.strongRecOn with
  | _ j ih =>
    intro hj
    rcases Nat.lt_trichotomy (c j) (d j) with h1 | h1 | h1
    · have := rank_lt (c := d) (d := c) n (fun i hi => (hb i hi).symm) hj (fun i hi => (ih i hi (by omega)).symm) h1
      omega
    · exact h1
    · have := rank_lt (c := c) (d := d) n hb hj (fun i hi => ih i hi (by omega)) h1
      omega
/-- the same best counts -/
theorem same_best {B B' : SB} (hG : GoodL B 4) (hG' : GoodL B' 4) (hns : B'.ns = B.ns) (h : rankG B (bestL (rankG B) (giftsL B)) = rankG B' (bestL (rankG B') (giftsL B'))) : cntL B' (bestL (rankG B') (giftsL B')) = cntL B (bestL (rankG B) (giftsL B)) := by
  have ok1 := giftsL_ok (best_in (B := B) (rankG B))
  have ok2 := giftsL_ok (best_in (B := B') (rankG B'))
  have h4 := hG.ns
  have hb : ∀ i, i < 4 → cS B (bestL (rankG B) (giftsL B)) i ≤ 4 ∧ cS B' (bestL (rankG B') (giftsL B')) i ≤ 4 := fun i _ => by
    constructor
    · rcases Nat.lt_or_ge i B.ns with h | h
      · exact ok1.cS4 hG i h
      · rw [ok1.cS0 hG i h]; omega
    · rcases Nat.lt_or_ge i B'.ns with h | h
      · exact ok2.cS4 hG' i h
      · rw [ok2.cS0 hG' i h]; omega
  have hj := rank_inj 4 hb h
  unfold cntL fromF
  rw [hns]
  refine List.map_congr_left fun i hi => ?_
  rw [hj i (by have := List.mem_range.1 hi; omega)]

/-- without the wants of a garden: gifts that give nothing to it -/
theorem keptL_mem {x : Nat → Int} {d : Int} : ∀ (k i : Nat), i ∈ keptL x d k ↔ i < k ∧ x i ≠ d := by
  intro k
  induction k with
  | zero => intro i; simp [keptL]
  | succ k ih =>
    intro i
    unfold keptL
    split
    · rename_i h
      rw [ih]
      constructor
      · rintro ⟨h1, h2⟩; exact ⟨by omega, h2⟩
      · rintro ⟨h1, h2⟩
        refine ⟨?_, h2⟩
        rcases Nat.lt_succ_iff_lt_or_eq.1 h1 with h3 | h3
        · exact h3
        · rw [h3] at h2; exact absurd h h2
    · rename_i h
      rw [List.mem_append, ih, List.mem_singleton]
      constructor
      · rintro (⟨h1, h2⟩ | h1)
        · exact ⟨by omega, h2⟩
        · rw [h1]; exact ⟨by omega, h⟩
      · rintro ⟨h1, h2⟩
        rcases Nat.lt_succ_iff_lt_or_eq.1 h1 with h3 | h3
        · exact .inl ⟨h3, h2⟩
        · exact .inr h3
theorem keptL_up (x : Nat → Int) (d : Int) : ∀ n, (keptL x d n).Pairwise (· < ·) := by
  intro n
  induction n with
  | zero => exact List.Pairwise.nil
  | succ n ih =>
    unfold keptL
    split
    · exact ih
    · rw [List.pairwise_append]
      exact ⟨ih, List.pairwise_singleton _ _, fun a ha c hc => by rw [List.mem_singleton.1 hc]; exact ((keptL_mem n a).1 ha).1⟩
theorem getD_get {l : List Nat} {i : Nat} (h : i < l.length) : l.getD i 0 = l[i] := by simp [List.getD, List.getElem?_eq_getElem h]
theorem del_out {B : SB} (hG : GoodL B 4) (d : Int) : Mp (delB B d) B (fun _ => True) (fun i => (keptL B.G d B.nw).getD i 0) id id id := by
  have hin : ∀ i, i < (keptL B.G d B.nw).length → (keptL B.G d B.nw).getD i 0 ∈ keptL B.G d B.nw := fun i hi => by rw [getD_get hi]; exact List.getElem_mem hi
  have hu := keptL_up B.G d B.nw
  refine ⟨fun k hk _ => ((keptL_mem _ _).1 (hin k hk)).1, fun j k hj hk _ _ e => ?_, fun _ _ _ => rfl, fun _ _ _ => rfl, fun _ _ _ => rfl, rfl, fun s h => h, fun _ _ _ _ e => e, fun s h => ⟨s, h, rfl⟩, fun _ _ _ _ e => e, fun s h => ⟨s, h, rfl⟩, fun _ _ _ _ e => e, fun _ _ => Int.le_refl _, fun _ _ => Int.le_refl _⟩
  have hj' : j < (keptL B.G d B.nw).length := hj
  have hk' : k < (keptL B.G d B.nw).length := hk
  simp only [getD_get hj', getD_get hk'] at e
  have h1 := List.pairwise_iff_getElem.1 hu
  rcases Nat.lt_trichotomy j k with h | h | h
  · have := h1 j k hj' hk' h; omega
  · exact h
  · have := h1 k j hk' hj' h; omega
theorem del_in {B : SB} (hG : GoodL B 4) (d : Int) : Mp B (delB B d) (fun k => B.G k ≠ d) (fun k => (keptL B.G d B.nw).idxOf k) id id id := by
  have hm : ∀ k, k < B.nw → B.G k ≠ d → k ∈ keptL B.G d B.nw := fun k hk h => (keptL_mem _ _).2 ⟨hk, h⟩
  have hg : ∀ k, k < B.nw → B.G k ≠ d → (keptL B.G d B.nw).getD ((keptL B.G d B.nw).idxOf k) 0 = k := fun k hk h => by
    have hl := List.idxOf_lt_length_of_mem (hm k hk h)
    rw [getD_get hl, List.getElem_idxOf hl]
  have hs : ∀ k, k < B.nw → B.G k ≠ d → (delB B d).sN ((keptL B.G d B.nw).idxOf k) = B.sN k := fun k hk h => by
    show (B.S ((keptL B.G d B.nw).getD _ 0)).toNat = _
    rw [hg k hk h]; rfl
  have hgn : ∀ k, k < B.nw → B.G k ≠ d → (delB B d).gN ((keptL B.G d B.nw).idxOf k) = B.gN k := fun k hk h => by
    show (B.G ((keptL B.G d B.nw).getD _ 0)).toNat = _
    rw [hg k hk h]; rfl
  refine ⟨fun k hk h => List.idxOf_lt_length_of_mem (hm k hk h), fun j k hj hk h1 h2 e => ?_, hs, hgn, fun k hk h => ?_, rfl, fun s h => h, fun _ _ _ _ e => e, fun s h => ⟨s, h, rfl⟩, fun _ _ _ _ e => e, fun s h => ⟨s, h, rfl⟩, fun _ _ _ _ e => e, fun _ _ => Int.le_refl _, fun _ _ => Int.le_refl _⟩
  · rw [← hg j hj h1, ← hg k hk h2]
    show (keptL B.G d B.nw).getD ((keptL B.G d B.nw).idxOf j) 0 = _
    have e' : (keptL B.G d B.nw).idxOf j = (keptL B.G d B.nw).idxOf k := e
    rw [e']
  · show (B.F ((delB B d).gN _)).toNat = _
    rw [hgn k hk h]; rfl
/-- what comes of a gift that gives nothing to a garden, in a list in which things have other numbers -/
theorem mp_weak {B B' : SB} {σ τ π ρ : Nat → Nat} (hG : GoodL B 4) (hG' : GoodL B' 4) (m : Mp B B' (fun _ => True) σ τ π ρ) {a : Nat} (ha : a < B.ng) : safeN (delB B a) ≤ safeN (delB B' (π a)) := by
  have hGd := delB_good hG (a : Int)
  have hGd' := delB_good hG' ((π a : Nat) : Int)
  have h0 := best_in (B := delB B a) (safeG (delB B a))
  obtain ⟨g0, hg0⟩ : ∃ g, bestL (safeG (delB B a)) (giftsL (delB B a)) = g := ⟨_, rfl⟩
  have e0 : safeN (delB B a) = safeG (delB B a) g0 := by rw [← hg0]; rfl
  rw [hg0] at h0
  obtain ⟨h1, _, _, h1g⟩ := img_gift hGd hG (del_out hG a) h0 fun _ _ => trivial
  have s1 := img_safe hGd hG (del_out hG a) h0 fun _ _ => trivial
  obtain ⟨g1, hg1⟩ : ∃ g, img B.nw (fun i => (keptL B.G a B.nw).getD i 0) g0 = g := ⟨_, rfl⟩
  rw [hg1] at h1 s1 h1g
  -- nothing to this garden
  have hz0 : cG (delB B a) g0 a = 0 := by
    unfold cG
    rw [List.countP_eq_zero]
    intro k hk he
    have hkn : k < (keptL B.G a B.nw).length := (gifts_iff.1 h0).2.1 k hk
    have hmem : (keptL B.G a B.nw).getD k 0 ∈ keptL B.G a B.nw := by rw [getD_get hkn]; exact List.getElem_mem hkn
    obtain ⟨hlt, hne⟩ := (keptL_mem _ _).1 hmem
    have e1 : (delB B a).gN k = B.gN ((keptL B.G a B.nw).getD k 0) := rfl
    have e2 := (hG.gN hlt).2
    rw [e1, beq_iff_eq] at he
    rw [he] at e2
    exact hne e2
  have hz1 : cG B g1 a = 0 := by
    have := h1g a ha
    rw [hz0] at this
    exact this
  obtain ⟨h2, _, _, h2g⟩ := img_gift hG hG' m h1 fun _ _ => trivial
  have s2 := img_safe hG hG' m h1 fun _ _ => trivial
  obtain ⟨g2, hg2⟩ : ∃ g, img B'.nw σ g1 = g := ⟨_, rfl⟩
  rw [hg2] at h2 s2 h2g
  have hz2 : cG B' g2 (π a) = 0 := by rw [h2g a ha]; exact hz1
  have hD : ∀ k, k ∈ g2 → B'.G k ≠ ((π a : Nat) : Int) := fun k hk e => by
    unfold cG at hz2
    rw [List.countP_eq_zero] at hz2
    refine hz2 k hk ?_
    rw [beq_iff_eq]
    unfold SB.gN
    rw [e, Int.toNat_natCast]
  have h3 := (img_gift hG' hGd' (del_in hG' ((π a : Nat) : Int)) h2 hD).1
  have s3 := img_safe hG' hGd' (del_in hG' ((π a : Nat) : Int)) h2 hD
  have := safeN_ge h3
  omega

end Go.Proofs.Ytnnngbnimmcjiaa

namespace Go.Proofs.Ytnnngbnimmcjiaa
open Go.RowKit

def rot (n x i : Nat) : Nat := (i + x) % n
def unr (n x j : Nat) : Nat := (j + (n - x % n)) % n
theorem rot_lt {n : Nat} (hn : 0 < n) (x i : Nat) : rot n x i < n := Nat.mod_lt _ hn
theorem unr_lt {n : Nat} (hn : 0 < n) (x i : Nat) : unr n x i < n := Nat.mod_lt _ hn
theorem unr_rot {n i : Nat} (x : Nat) (hi : i < n) : unr n x (rot n x i) = i := by
  unfold unr rot
  have h1 : (i + x) % n = (i + x % n) % n := (Nat.add_mod_mod i x n).symm
  have hr : x % n < n := Nat.mod_lt _ (by omega)
  rw [h1]
  generalize x % n = r at hr
  by_cases h : i + r < n
  · rw [Nat.mod_eq_of_lt h, show i + r + (n - r) = i + n by omega, Nat.add_mod_right, Nat.mod_eq_of_lt hi]
  · have e : (i + r) % n = i + r - n := by rw [Nat.mod_eq_sub_mod (by omega), Nat.mod_eq_of_lt (by omega)]
    rw [e, show i + r - n + (n - r) = i by omega, Nat.mod_eq_of_lt hi]
theorem rot_unr {n j : Nat} (x : Nat) (hj : j < n) : rot n x (unr n x j) = j := by
  unfold unr rot
  have hr : x % n < n := Nat.mod_lt _ (by omega)
  have h1 : ∀ k, (k + x) % n = (k + x % n) % n := fun k => (Nat.add_mod_mod k x n).symm
  rw [h1]
  generalize x % n = r at hr
  by_cases h : j + (n - r) < n
  · rw [Nat.mod_eq_of_lt h, show j + (n - r) + r = j + n by omega, Nat.add_mod_right, Nat.mod_eq_of_lt hj]
  · have e : (j + (n - r)) % n = j + (n - r) - n := by rw [Nat.mod_eq_sub_mod (by omega), Nat.mod_eq_of_lt (by omega)]
    rw [e, show j + (n - r) - n + r = j by omega, Nat.mod_eq_of_lt hj]
theorem rot_inj {n x i j : Nat} (hi : i < n) (hj : j < n) (h : rot n x i = rot n x j) : i = j := by
  rw [← unr_rot x hi, ← unr_rot x hj, h]
theorem unr_inj {n x i j : Nat} (hi : i < n) (hj : j < n) (h : unr n x i = unr n x j) : i = j := by
  rw [← rot_unr x hi, ← rot_unr x hj, h]
/-- i comes to j just if j came from i -/
theorem rot_eq {n x i j : Nat} (hi : i < n) (hj : j < n) : rot n x i = j ↔ i = unr n x j :=
  ⟨fun h => by rw [← h, unr_rot x hi], fun h => by rw [h, rot_unr x hj]⟩

/-- from which garden, want, frost and sort on the others come -/
def turnB (B : SB) (xg xw xf xs : Nat) : SB :=
  { B with
    C := fun j => B.C (unr B.ns xs j)
    P := fun j => B.P (unr B.ng xg j)
    F := fun j => ((rot 4 xf (B.F (unr B.ng xg j)).toNat : Nat) : Int)
    G := fun j => ((rot B.ng xg (B.G (unr B.nw xw j)).toNat : Nat) : Int)
    S := fun j => ((rot B.ns xs (B.S (unr B.nw xw j)).toNat : Nat) : Int) }

section
variable {B : SB} {xg xw xf xs p : Nat}
theorem turn_sN (j : Nat) : (turnB B xg xw xf xs).sN j = rot B.ns xs (B.sN (unr B.nw xw j)) := rfl
theorem turn_gN (j : Nat) : (turnB B xg xw xf xs).gN j = rot B.ng xg (B.gN (unr B.nw xw j)) := rfl
theorem turn_good (hG : GoodL B p) (hs : 0 < B.ns) (hg : 0 < B.ng) : GoodL (turnB B xg xw xf xs) p := by
  refine ⟨hG.ns, hG.ng, hG.nw, fun i _ => hG.C _ (unr_lt hs _ _), fun i _ => hG.P _ (unr_lt hg _ _), fun i _ => ?_, fun i _ => ?_, fun i _ => ?_, fun i k hi hk h => ?_⟩
  · show 0 ≤ ((rot 4 xf _ : Nat) : Int) ∧ ((rot 4 xf _ : Nat) : Int) < 4
    have := rot_lt (n := 4) (by omega) xf (B.F (unr B.ng xg i)).toNat
    omega
  · show 0 ≤ ((rot B.ng xg _ : Nat) : Int) ∧ ((rot B.ng xg _ : Nat) : Int) < B.ng
    have := rot_lt hg xg (B.G (unr B.nw xw i)).toNat
    omega
  · show 0 ≤ ((rot B.ns xs _ : Nat) : Int) ∧ ((rot B.ns xs _ : Nat) : Int) < B.ns
    have := rot_lt hs xs (B.S (unr B.nw xw i)).toNat
    omega
  · have hi' : i < B.nw := hi
    have hk' : k < B.nw := by omega
    have hw : 0 < B.nw := by omega
    obtain ⟨h1, h2⟩ := h
    have h1' : ((rot B.ng xg (B.gN (unr B.nw xw k)) : Nat) : Int) = ((rot B.ng xg (B.gN (unr B.nw xw i)) : Nat) : Int) := h1
    have h2' : ((rot B.ns xs (B.sN (unr B.nw xw k)) : Nat) : Int) = ((rot B.ns xs (B.sN (unr B.nw xw i)) : Nat) : Int) := h2
    have gk := hG.gN (unr_lt hw xw k)
    have gi := hG.gN (unr_lt hw xw i)
    have sk := hG.sN (unr_lt hw xw k)
    have si := hG.sN (unr_lt hw xw i)
    have e1 := rot_inj gk.1 gi.1 (Int.ofNat.inj h1')
    have e2 := rot_inj sk.1 si.1 (Int.ofNat.inj h2')
    have f1 : B.G (unr B.nw xw k) = B.G (unr B.nw xw i) := by rw [gk.2, gi.2, e1]
    have f2 : B.S (unr B.nw xw k) = B.S (unr B.nw xw i) := by rw [sk.2, si.2, e2]
    rcases Nat.lt_trichotomy (unr B.nw xw k) (unr B.nw xw i) with h | h | h
    · exact hG.once _ _ (unr_lt hw xw i) h ⟨f1, f2⟩
    · have := unr_inj hk' hi' h; omega
    · exact hG.once _ _ (unr_lt hw xw k) h ⟨f1.symm, f2.symm⟩
theorem turn_to (hG : GoodL B p) (hs : 0 < B.ns) (hg : 0 < B.ng) : Mp B (turnB B xg xw xf xs) (fun _ => True) (rot B.nw xw) (rot B.ns xs) (rot B.ng xg) (rot 4 xf) := by
  have hgn : ∀ k, k < B.nw → (turnB B xg xw xf xs).gN (rot B.nw xw k) = rot B.ng xg (B.gN k) := fun k hk => by rw [turn_gN, unr_rot xw hk]
  refine ⟨fun k hk _ => rot_lt (by omega) _ _, fun j k hj hk _ _ e => rot_inj hj hk e, fun k hk _ => by rw [turn_sN, unr_rot xw hk], fun k hk _ => hgn k hk, fun k hk _ => ?_, rfl, fun s _ => rot_lt hs _ _, fun r s hr hs e => rot_inj hr hs e, fun s' h => ⟨_, unr_lt hs xs s', rot_unr xs h⟩, fun r s hr hs e => rot_inj hr hs e, fun a' h => ⟨_, unr_lt hg xg a', rot_unr xg h⟩, fun r s hr hs e => rot_inj hr hs e, fun s h => ?_, fun a h => ?_⟩
  · show Int.toNat ((rot 4 xf (B.F (unr B.ng xg ((turnB B xg xw xf xs).gN (rot B.nw xw k)))).toNat : Nat) : Int) = _
    rw [hgn k hk, unr_rot xg (hG.gN hk).1, Int.toNat_natCast]
    rfl
  · show B.C s ≤ B.C (unr B.ns xs (rot B.ns xs s))
    rw [unr_rot xs h]; exact Int.le_refl _
  · show B.P a ≤ B.P (unr B.ng xg (rot B.ng xg a))
    rw [unr_rot xg h]; exact Int.le_refl _
theorem turn_back (hG : GoodL B p) (hs : 0 < B.ns) (hg : 0 < B.ng) : Mp (turnB B xg xw xf xs) B (fun _ => True) (unr B.nw xw) (unr B.ns xs) (unr B.ng xg) (unr 4 xf) := by
  have hw : ∀ {k}, k < (turnB B xg xw xf xs).nw → unr B.nw xw k < B.nw := fun {k} hk => unr_lt (show 0 < B.nw by have : k < B.nw := hk; omega) _ _
  have hgn : ∀ k, k < (turnB B xg xw xf xs).nw → B.gN (unr B.nw xw k) = unr B.ng xg ((turnB B xg xw xf xs).gN k) := fun k hk => by rw [turn_gN, unr_rot xg (hG.gN (hw hk)).1]
  refine ⟨fun k hk _ => hw hk, fun j k hj hk _ _ e => unr_inj hj hk e, fun k hk _ => by rw [turn_sN, unr_rot xs (hG.sN (hw hk)).1], fun k hk _ => hgn k hk, fun k hk _ => ?_, rfl, fun s _ => unr_lt hs _ _, fun r s hr hs e => unr_inj hr hs e, fun s' h => ⟨_, rot_lt hs xs s', unr_rot xs h⟩, fun r s hr hs e => unr_inj hr hs e, fun a' h => ⟨_, rot_lt hg xg a', unr_rot xg h⟩, fun r s hr hs e => unr_inj hr hs e, fun s h => Int.le_refl _, fun a h => Int.le_refl _⟩
  show _ = unr 4 xf (Int.toNat ((rot 4 xf (B.F (unr B.ng xg ((turnB B xg xw xf xs).gN k))).toNat : Nat) : Int))
  rw [← hgn k hk, Int.toNat_natCast]
  exact (unr_rot xf (hG.fN (hw hk)).1).symm
theorem turn_sum (hG : GoodL B 4) (hs : 0 < B.ns) (hg : 0 < B.ng) : sumN (turnB B xg xw xf xs) = sumN B :=
  Nat.le_antisymm (mp_sum (turn_good hG hs hg) hG (turn_back hG hs hg)) (mp_sum hG (turn_good hG hs hg) (turn_to hG hs hg))
theorem turn_safe (hG : GoodL B 4) (hs : 0 < B.ns) (hg : 0 < B.ng) : safeN (turnB B xg xw xf xs) = safeN B :=
  Nat.le_antisymm (mp_safe (turn_good hG hs hg) hG (turn_back hG hs hg)) (mp_safe hG (turn_good hG hs hg) (turn_to hG hs hg))
theorem turn_alone (hG : GoodL B 4) (hs : 0 < B.ns) (hg : 0 < B.ng) {s : Nat} (h : s < B.ns) : aloneN (turnB B xg xw xf xs) (rot B.ns xs s) = aloneN B s := by
  refine Nat.le_antisymm ?_ (mp_alone hG (turn_good hG hs hg) (turn_to hG hs hg) h)
  have := mp_alone (turn_good (xg := xg) (xw := xw) (xf := xf) (xs := xs) hG hs hg) hG (turn_back hG hs hg) (rot_lt hs xs s)
  rw [unr_rot xs h] at this
  exact this
theorem turn_weak (hG : GoodL B 4) (hs : 0 < B.ns) (hg : 0 < B.ng) {a : Nat} (h : a < B.ng) : weakP (turnB B xg xw xf xs) (rot B.ng xg a) = weakP B a := by
  have h1 := mp_weak hG (turn_good (xg := xg) (xw := xw) (xf := xf) (xs := xs) hG hs hg) (turn_to hG hs hg) h
  have h2 := mp_weak (turn_good (xg := xg) (xw := xw) (xf := xf) (xs := xs) hG hs hg) hG (turn_back hG hs hg) (rot_lt hg xg a)
  rw [unr_rot xg h] at h2
  have e : safeN (delB (turnB B xg xw xf xs) ((rot B.ng xg a : Nat) : Int)) = safeN (delB B (a : Int)) := Nat.le_antisymm h2 h1
  unfold weakP
  rw [e, turn_safe hG hs hg]
theorem rot_zero {n i : Nat} (h : i < n) : rot n 0 i = i := by unfold rot; rw [Nat.add_zero, Nat.mod_eq_of_lt h]
theorem unr_zero {n i : Nat} (h : i < n) : unr n 0 i = i := by
  have := unr_rot 0 h
  rw [rot_zero h] at this
  exact this
theorem turn_best (hG : GoodL B 4) (hs : 0 < B.ns) (hg : 0 < B.ng) : cntL (turnB B xg xw xf 0) (bestL (rankG (turnB B xg xw xf 0)) (giftsL (turnB B xg xw xf 0))) = cntL B (bestL (rankG B) (giftsL B)) :=
  same_best hG (turn_good hG hs hg) rfl (Nat.le_antisymm (mp_rank hG (turn_good hG hs hg) (turn_to hG hs hg) fun s h => rot_zero h) (mp_rank (turn_good hG hs hg) hG (turn_back hG hs hg) fun s h => unr_zero h))
end

theorem okL_of {B : SB} (h : GoodL B 4) : okL B = true := by
  simp only [okL, okP, near, okC, okG, okGd, okW, okW1, twice, Bool.and_eq_true, decide_eq_true_eq, allB_true, Bool.not_eq_true', anyB_false, Bool.and_eq_false_iff, decide_eq_false_iff_not]
  refine ⟨⟨⟨⟨⟨h.ns, h.ng⟩, h.nw⟩, h.C⟩, fun i hi => ⟨h.P i hi, h.F i hi⟩⟩, fun i hi => ⟨⟨h.G i hi, h.S i hi⟩, fun k hk => ?_⟩⟩
  by_cases e : B.G k = B.G i
  · exact .inr fun e2 => h.once i k hi hk ⟨e, e2⟩
  · exact .inl e

/-- only what lies within its lengths matters -/
theorem BookAt.congr {N : Nat} {w : World} {v : Value} {B B' : SB} (h : BookAt N w v B) (hs : B'.ns = B.ns) (hg : B'.ng = B.ng) (hw : B'.nw = B.nw) (hC : ∀ i, i < B.ns → B'.C i = B.C i) (hP : ∀ i, i < B.ng → B'.P i = B.P i ∧ B'.F i = B.F i) (hW : ∀ i, i < B.nw → B'.G i = B.G i ∧ B'.S i = B.S i) : BookAt N w v B' := by
  obtain ⟨h0, a1, c1, a2, c2, a3, c3, rfl, i1, i2, i3⟩ := h
  refine ⟨h0, a1, c1, a2, c2, a3, c3, by rw [hs, hg, hw], ?_, ?_, ?_⟩
  · rw [hs]
    exact ListAt.mono i1 (Below.refl _ _) (Nat.le_refl _) fun i r hi e => by rw [hC i hi]; exact e
  · rw [hg]
    obtain ⟨ao, cap, e, k1, k2, k3⟩ := i2
    cases e
    refine ⟨_, _, rfl, k1, k2, fun h0 => ?_⟩
    obtain ⟨b, off, e, hb, hr⟩ := k3 h0
    exact ⟨b, off, e, hb, fun i hi => by rw [(hP i hi).1, (hP i hi).2]; exact hr i hi⟩
  · rw [hw]
    obtain ⟨ao, cap, e, k1, k2, k3⟩ := i3
    cases e
    refine ⟨_, _, rfl, k1, k2, fun h0 => ?_⟩
    obtain ⟨b, off, e, hb, hr⟩ := k3 h0
    exact ⟨b, off, e, hb, fun i hi => by rw [(hW i hi).1, (hW i hi).2]; exact hr i hi⟩

end Go.Proofs.Ytnnngbnimmcjiaa

namespace Go.Proofs.Ytnnngbnimmcjiaa
open Go.RowKit Go.WideShapes Go.ChangeShapes Go.Joins Go.Deep

/-- nothing but block g was written since A -/
def Kp (g : Nat) (A W : World) : Prop := Below g A W ∧ ∀ k, k ≠ g → k < A.heap.size → W.heap[k]? = A.heap[k]?
theorem Kp.refl (g : Nat) (A : World) : Kp g A A := ⟨Below.refl _ _, fun _ _ _ => rfl⟩
theorem Kp.set {g : Nat} {A W : World} (h : Kp g A W) (off : Nat) (v : Value) : Kp g A (W.setCell ⟨g, off, none⟩ v) :=
  ⟨h.1.setCell (p := ⟨g, off, none⟩) (Nat.le_refl _) v, fun k hk hl => (Below.heap_setCell _ _ _ _ (by exact hk)).trans (h.2 k hk hl)⟩
theorem Kp.go {g : Nat} {A W W' : World} (h : Kp g A W) (hg : g < W.heap.size) (k : Below W.heap.size W W') : Kp g A W' :=
  ⟨h.1.trans (k.mono (Nat.le_of_lt hg)), fun i hi hl => (k.block i (Nat.lt_of_lt_of_le hl h.1.size)).trans (h.2 i hi hl)⟩
theorem Kp.drew {g : Nat} {A W : World} (h : Kp g A W) : Kp g A W.drew := ⟨h.1.drew, h.2⟩
theorem Kp.heap {g : Nat} {A W : World} (h : Kp g A W) {k : Nat} {o : Obj} (hk : A.heap[k]? = some o) (hne : k ≠ g) : W.heap[k]? = some o := (h.2 k hne (heap_lt hk)).trans hk
theorem Kp.below {g n : Nat} {Z A W : World} (h : Kp g A W) (hb : Below n Z A) (hn : n ≤ g) : Below n Z W := hb.trans (h.1.mono hn)

theorem PB.congr {lo : Nat} {W : World} {v : Value} {n : Nat} {x y x' y' : Nat → Int} (h : PB lo W v n x y) (e : ∀ i, i < n → x' i = x i ∧ y' i = y i) : PB lo W v n x' y' := by
  rcases h with h | ⟨h0, g, cap, cur, t, rfl, h1, h2, h3, h4⟩
  · exact .inl h
  · exact .inr ⟨h0, g, cap, cur, t, rfl, h1, h2, h3, fun i hi => by rw [(e i hi).1, (e i hi).2]; exact h4 i hi⟩
theorem IB.congr {lo : Nat} {W : World} {v : Value} {n : Nat} {x x' : Nat → Int} (h : IB lo W v n x) (e : ∀ i, i < n → x' i = x i) : IB lo W v n x' := by
  rcases h with h | ⟨h0, g, cap, cur, t, rfl, h1, h2, h3, h4⟩
  · exact .inl h
  · exact .inr ⟨h0, g, cap, cur, t, rfl, h1, h2, h3, fun i hi => by rw [e i hi]; exact h4 i hi⟩
/-- a pair is stored -/
theorem PB.set2 {lo : Nat} {W : World} {g n cap : Nat} {x y : Nat → Int} (h : PB lo W (.slice (some ⟨g, 0, none⟩) n cap) n x y) {i : Nat} (hi : i < n) (a b : Int) :
    PB lo ((W.setCell ⟨g, i * 2, none⟩ (.int .i64 a)).setCell ⟨g, i * 2 + 1, none⟩ (.int .i64 b)) (.slice (some ⟨g, 0, none⟩) n cap) n (fun j => if j = i then a else x j) (fun j => if j = i then b else y j) := by
  rcases h with ⟨h0, _⟩ | ⟨h0, g', cap', cur, t, e, h1, h2, h3, h4⟩
  · omega
  · cases e
    refine .inr ⟨h0, g, cap, _, t, rfl, h1, h2, blk_set (blk_set h3 (i * 2) _) (i * 2 + 1) _, fun j hj => ?_⟩
    obtain ⟨k1, k2⟩ := h4 j hj
    have hs : i * 2 < cur.size := (Array.getElem?_eq_some_iff.1 (h4 i hi).1).1
    have hs1 : i * 2 + 1 < cur.size := (Array.getElem?_eq_some_iff.1 (h4 i hi).2).1
    by_cases e : j = i
    · subst e
      constructor
      · rw [Array.getElem?_setIfInBounds, if_neg (by omega), Array.getElem?_setIfInBounds, if_pos rfl, if_pos hs]; simp
      · rw [Array.getElem?_setIfInBounds, if_pos rfl, if_pos (by simpa using hs1)]; simp
    · constructor
      · rw [Array.getElem?_setIfInBounds, if_neg (by omega), Array.getElem?_setIfInBounds, if_neg (by omega)]
        show cur[j * 2]? = some (Value.int .i64 (if j = i then a else x j))
        rw [if_neg e]; exact k1
      · rw [Array.getElem?_setIfInBounds, if_neg (by omega), Array.getElem?_setIfInBounds, if_neg (by omega)]
        show cur[j * 2 + 1]? = some (Value.int .i64 (if j = i then b else y j))
        rw [if_neg e]; exact k2
/-- the second of a pair is stored -/
theorem PB.setY {lo : Nat} {W : World} {g n cap : Nat} {x y : Nat → Int} (h : PB lo W (.slice (some ⟨g, 0, none⟩) n cap) n x y) {i : Nat} (hi : i < n) (b : Int) :
    PB lo (W.setCell ⟨g, i * 2 + 1, none⟩ (.int .i64 b)) (.slice (some ⟨g, 0, none⟩) n cap) n x (fun j => if j = i then b else y j) := by
  rcases h with ⟨h0, _⟩ | ⟨h0, g', cap', cur, t, e, h1, h2, h3, h4⟩
  · omega
  · cases e
    refine .inr ⟨h0, g, cap, _, t, rfl, h1, h2, blk_set h3 (i * 2 + 1) _, fun j hj => ?_⟩
    obtain ⟨k1, k2⟩ := h4 j hj
    have hs1 : i * 2 + 1 < cur.size := (Array.getElem?_eq_some_iff.1 (h4 i hi).2).1
    constructor
    · rw [Array.getElem?_setIfInBounds, if_neg (by omega)]; exact k1
    · by_cases e : j = i
      · subst e
        rw [Array.getElem?_setIfInBounds, if_pos rfl, if_pos hs1]; simp
      · rw [Array.getElem?_setIfInBounds, if_neg (by omega)]
        show cur[j * 2 + 1]? = some (Value.int .i64 (if j = i then b else y j))
        rw [if_neg e]; exact k2
theorem IB.set' {lo : Nat} {W : World} {g n cap : Nat} {x : Nat → Int} (h : IB lo W (.slice (some ⟨g, 0, none⟩) n cap) n x) {i : Nat} (hi : i < n) (z : Int) :
    IB lo (W.setCell ⟨g, i, none⟩ (.int .i64 z)) (.slice (some ⟨g, 0, none⟩) n cap) n (fun j => if j = i then z else x j) := by
  rcases h with ⟨h0, _⟩ | ⟨h0, g', cap', cur, t, e, h1, h2, h3, h4⟩
  · omega
  · cases e
    refine .inr ⟨h0, g, cap, cur.setIfInBounds i (.int .i64 z), t, rfl, h1, h2, blk_set h3 i _, fun j hj => ?_⟩
    have k1 := h4 j hj
    have hs : i < cur.size := (Array.getElem?_eq_some_iff.1 (h4 i hi)).1
    rw [Array.getElem?_setIfInBounds]
    by_cases e : j = i
    · subst e; simp [hs]
    · rw [if_neg (by omega)]
      show cur[j]? = some (Value.int .i64 (if j = i then z else x j))
      rw [if_neg e]; exact k1
theorem PB.two {lo : Nat} {W : World} {g n cap : Nat} {x y : Nat → Int} (h : PB lo W (.slice (some ⟨g, 0, none⟩) n cap) n x y) {i : Nat} (hi : i < n) : W.cell? ⟨g, i * 2, none⟩ = some (.int .i64 (x i)) ∧ W.cell? ⟨g, i * 2 + 1, none⟩ = some (.int .i64 (y i)) := by
  rcases h with ⟨h0, _⟩ | ⟨h0, g', cap', cur, t, e, h1, h2, h3, h4⟩
  · omega
  · cases e
    exact ⟨cell_blk h3 _ (h4 i hi).1, cell_blk h3 _ (h4 i hi).2⟩
theorem PB.fr {lo : Nat} {W : World} {g n cap : Nat} {x y : Nat → Int} (h : PB lo W (.slice (some ⟨g, 0, none⟩) n cap) n x y) (hn : 0 < n) (i : Nat) : W.frozen? ⟨g, i, none⟩ = false := by
  rcases h with ⟨h0, _⟩ | ⟨h0, g', cap', cur, t, e, h1, h2, h3, h4⟩
  · omega
  · cases e; exact free_blk h3 i
theorem PB.lt {lo : Nat} {W : World} {g n cap : Nat} {x y : Nat → Int} (h : PB lo W (.slice (some ⟨g, 0, none⟩) n cap) n x y) (hn : 0 < n) : g < W.heap.size ∧ lo ≤ g := by
  rcases h with ⟨h0, _⟩ | ⟨h0, g', cap', cur, t, e, h1, h2, h3, h4⟩
  · omega
  · cases e; exact ⟨heap_lt h3, h1⟩
theorem IB.at {lo : Nat} {W : World} {g n cap : Nat} {x : Nat → Int} (h : IB lo W (.slice (some ⟨g, 0, none⟩) n cap) n x) (hn : 0 < n) : g < W.heap.size ∧ lo ≤ g ∧ (∀ i, i < n → W.cell? ⟨g, i, none⟩ = some (.int .i64 (x i))) ∧ ∀ i, W.frozen? ⟨g, i, none⟩ = false := by
  rcases h with ⟨h0, _⟩ | ⟨h0, g', cap', cur, t, e, h1, h2, h3, h4⟩
  · omega
  · cases e; exact ⟨heap_lt h3, h1, fun i hi => cell_blk h3 _ (h4 i hi), fun i => free_blk h3 i⟩
theorem PB.addr {lo : Nat} {W : World} {a : Option Addr} {n cap : Nat} {x y : Nat → Int} (h : PB lo W (.slice a n cap) n x y) (hn : 0 < n) : ∃ g, a = some ⟨g, 0, none⟩ := by
  rcases h with ⟨h0, _⟩ | ⟨h0, g', cap', cur, t, e, _⟩
  · omega
  · cases e; exact ⟨_, rfl⟩
theorem IB.addr {lo : Nat} {W : World} {a : Option Addr} {n cap : Nat} {x : Nat → Int} (h : IB lo W (.slice a n cap) n x) (hn : 0 < n) : ∃ g, a = some ⟨g, 0, none⟩ := by
  rcases h with ⟨h0, _⟩ | ⟨h0, g', cap', cur, t, e, _⟩
  · omega
  · cases e; exact ⟨_, rfl⟩

theorem PB.block {lo : Nat} {W W' : World} {g n cap : Nat} {x y : Nat → Int} (h : PB lo W (.slice (some ⟨g, 0, none⟩) n cap) n x y) (hk : W'.heap[g]? = W.heap[g]?) : PB lo W' (.slice (some ⟨g, 0, none⟩) n cap) n x y := by
  rcases h with h | ⟨h0, g', cap', cur, t, e, h1, h2, h3, h4⟩
  · exact .inl h
  · cases e; exact .inr ⟨h0, g, cap, cur, t, rfl, h1, h2, hk.trans h3, h4⟩
theorem IB.block {lo : Nat} {W W' : World} {g n cap : Nat} {x : Nat → Int} (h : IB lo W (.slice (some ⟨g, 0, none⟩) n cap) n x) (hk : W'.heap[g]? = W.heap[g]?) : IB lo W' (.slice (some ⟨g, 0, none⟩) n cap) n x := by
  rcases h with h | ⟨h0, g', cap', cur, t, e, h1, h2, h3, h4⟩
  · exact .inl h
  · cases e; exact .inr ⟨h0, g, cap, cur, t, rfl, h1, h2, hk.trans h3, h4⟩
theorem PB.empty {lo : Nat} {W W' : World} {v : Value} {x y x' y' : Nat → Int} (h : PB lo W v 0 x y) : PB lo W' v 0 x' y' := by
  rcases h with h | ⟨h0, _⟩
  · exact .inl h
  · omega
theorem types_ne {W : World} {g g' : Nat} {cur cur' : Array Value} {T T' : TypeId} (h : W.heap[g]? = some (.cells cur T)) (h' : W.heap[g']? = some (.cells cur' T')) (hT : T ≠ T') : g ≠ g' := fun e => by
  rw [e, h'] at h
  injection h with h
  injection h with _ ht
  exact hT ht.symm

/-- the places that k rounds have come to hold x, the others y -/
def mixF (k : Nat) (inv : Nat → Nat) (x y : Nat → Int) (j : Nat) : Int := if inv j < k then x j else y j
theorem mix_zero (inv : Nat → Nat) (x y : Nat → Int) : mixF 0 inv x y = y := by funext j; unfold mixF; rw [if_neg (by omega)]
theorem mix_all {n : Nat} {inv : Nat → Nat} {x y : Nat → Int} {j : Nat} (h : inv j < n) : x j = mixF n inv x y j := by unfold mixF; rw [if_pos h]
theorem mix_step {n k xr : Nat} {x y : Nat → Int} {j : Nat} (hk : k < n) (hj : j < n) : mixF (k + 1) (unr n xr) x y j = if j = rot n xr k then x j else mixF k (unr n xr) x y j := by
  unfold mixF
  by_cases e : j = rot n xr k
  · rw [if_pos e, if_pos (by rw [e, unr_rot xr hk]; omega)]
  · rw [if_neg e]
    have hne : unr n xr j ≠ k := fun h => e ((rot_eq hk hj).2 h.symm).symm
    by_cases h : unr n xr j < k
    · rw [if_pos h, if_pos (by omega)]
    · rw [if_neg h, if_neg (by omega)]
theorem mix_id {k : Nat} {x y : Nat → Int} {j : Nat} : mixF (k + 1) id x y j = if j = k then x j else mixF k id x y j := by
  unfold mixF id
  by_cases e : j = k
  · rw [if_pos e, if_pos (by omega)]
  · rw [if_neg e]
    by_cases h : j < k
    · rw [if_pos h, if_pos (by omega)]
    · rw [if_neg h, if_neg (by omega)]

theorem sel_count (p : Nat → Bool) : ∀ n, (sel p n).length = (List.range n).countP p := by
  intro n
  induction n with
  | zero => rfl
  | succ n ih =>
    rw [List.range_succ, List.countP_append, ← ih]
    cases h : p n with
    | true => rw [sel_hit h, List.length_append]; simp [h]
    | false => rw [sel_miss h]; simp [h]
/-- as many gardens are weak -/
theorem turn_sel {B : SB} {xg xw xf xs : Nat} (hG : GoodL B 4) (hs : 0 < B.ns) (hg : 0 < B.ng) : (sel (weakP (turnB B xg xw xf xs)) B.ng).length = (sel (weakP B) B.ng).length := by
  rw [sel_count, sel_count, ← (turn_range (n := B.ng) (τ := rot B.ng xg) (fun s _ => rot_lt hg _ _) (fun r s hr hs e => rot_inj hr hs e) (fun s h => ⟨_, unr_lt hg xg s, rot_unr xg h⟩)).countP_eq, List.countP_map]
  exact count_congr fun a ha => turn_weak hG hs hg (List.mem_range.1 ha)
theorem sel_at {p : Nat → Bool} {n i : Nat} (hi : i < (sel p n).length) : ∃ a : Nat, (sel p n).getD i 0 = (a : Int) ∧ a < n ∧ p a = true := by
  have hm : (sel p n).getD i 0 ∈ sel p n := by
    rw [List.getD_eq_getElem?_getD, List.getElem?_eq_getElem hi]; exact List.getElem_mem _
  obtain ⟨k, h1, h2, h3⟩ := (sel_mem n).1 hm
  exact ⟨k, h3, h1, h2⟩

section
variable {H : Type} {enc : TypeId × Value → H}
set_option maxRecDepth 100000 in
theorem trod_int' {w : World} {fuel : Nat} {v : Value} {y : DataW H × List MemPlace} (h : DataW.trod enc Try.prog w 0 (fun _ => true) true fuel 3 [v] = some y) : ∃ n, v = .int .i64 n := by
  obtain ⟨n, h1, _⟩ := DataW.trod_int Try.underlying3 h
  exact ⟨n, by simpa using h1⟩
set_option maxRecDepth 100000 in
theorem open_turn {w : World} {v : Value} {base : Nat} {d : DataW H} {ps : List MemPlace} (hv : Value.okWide Try.prog w .any base 55 v)
    (h : DataW.Trod enc Try.prog w 0 (fun _ => true) true 55 v d ps) :
    ∃ a b c e : Int, v = .agg #[.int .i64 a, .int .i64 b, .int .i64 c, .int .i64 e] := by
  obtain ⟨v0, v1, v2, v3, y0, y1, y2, y3, n, rfl, rfl, rfl, h0, h1, h2, h3⟩ := open_agg4 Try.underlying55 (by kernel_rfl) (by kernel_rfl) hv h
  obtain ⟨a, rfl⟩ := trod_int' h0
  obtain ⟨b, rfl⟩ := trod_int' h1
  obtain ⟨c, rfl⟩ := trod_int' h2
  obtain ⟨e, rfl⟩ := trod_int' h3
  exact ⟨a, b, c, e, rfl⟩
end

end Go.Proofs.Ytnnngbnimmcjiaa
