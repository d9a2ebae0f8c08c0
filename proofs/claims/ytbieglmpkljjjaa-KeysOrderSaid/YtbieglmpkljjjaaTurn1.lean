/-
  Turn1: what is asked of a book whose marks and sorts come in another order.
-/
import Derived.Test.YtbieglmpkljjjaaTurn0
import Derived.Test.YtbieglmpkljjjaaMade2
namespace Go.Proofs.Ytbieglmpkljjjaa
open Go.RowKit

/-- the sorts still differ -/
theorem turn_diff {B C : KB} {s t p r : Nat → Nat} (H : Turn B C s t p r) (hd : diffB B = true) : diffB C = true := by
  unfold diffB
  rw [allB_true]
  intro i hi
  rw [allB_true]
  intro j hj
  rw [H.ns] at hi
  refine decide_eq_true ?_
  have hne : r i ≠ r j := fun e => by
    have h1 := (H.hr i hi).2
    have h2 := (H.hr j (by omega)).2
    rw [e, h2] at h1; omega
  obtain ⟨m, hm, hx⟩ := diffB_difM hd (r i) (List.mem_range.2 (H.hr i hi).1) (r j) (List.mem_range.2 (H.hr j (by omega)).1) hne
  have : s m ∈ apartL C i j C.nv := apartL_mem.2 ⟨by rw [H.nv]; exact (H.hs m hm).1, by
    rw [H.X' i _ hi (H.hs m hm).1, H.X' j _ (by omega) (H.hs m hm).1, (H.hs m hm).2]; exact hx⟩
  have := List.length_pos_of_mem this
  omega
theorem turn_diffB {B C : KB} {s t p r : Nat → Nat} (H : Turn B C s t p r) (hG : GoodB B) : diffB C = diffB B := by
  rw [Bool.eq_iff_iff]
  exact ⟨turn_diff (turn_back H hG), turn_diff H⟩
theorem turn_all {B C : KB} {s t p r : Nat → Nat} (H : Turn B C s t p r) (hG : GoodB B) (hd : diffB B = true) (mean : Bool) : leastL C mean 8 (List.range C.ns) ≤ leastL B mean 8 (List.range B.ns) := by
  refine turn_least H mean 8 _ _ (grp_all hG hd) (grp_all (turn_good H hG) (turn_diff H hd)) (by rw [List.length_range]; exact hG.ns) (by rw [List.length_range, List.length_range, H.ns]; exact Nat.le_refl _)
    (fun i hi => List.mem_range.1 hi) (fun i hi => ?_) (fun i hi => by rw [← H.ns]; exact List.mem_range.1 hi)
  rw [List.mem_range, List.mem_range, H.ns]
  exact ⟨fun _ => hi, fun _ => (H.hp i hi).1⟩
theorem turn_cost {B C : KB} {s t p r : Nat → Nat} (H : Turn B C s t p r) (hG : GoodB B) (hd : diffB B = true) (mean : Bool) : leastL C mean 8 (List.range C.ns) = leastL B mean 8 (List.range B.ns) :=
  Int.le_antisymm (turn_all H hG hd mean) (turn_all (turn_back H hG) (turn_good H hG) (turn_diff H hd) mean)
theorem eLeast_of {B : KB} {mean : Bool} {x : Int} (hk : okKB B = true) (hd : diffB B = true) (h : leastL B mean 8 (List.range B.ns) = x) : eLeast B mean = (x, 0) := by
  rw [← h]; unfold eLeast; rw [hk, hd]; rfl
theorem eLeast_not {B : KB} {mean : Bool} (hk : okKB B = true) (hd : diffB B = false) : eLeast B mean = (0, 3) := by
  unfold eLeast; rw [hk, hd]; rfl
theorem turn_eLeast {B C : KB} {s t p r : Nat → Nat} (H : Turn B C s t p r) (hG : GoodB B) (mean : Bool) : eLeast C mean = eLeast B mean := by
  have hk := ok_of_good hG
  have hkC := ok_of_good (turn_good H hG)
  have hdd := turn_diffB H hG
  cases hd : diffB B with
  | false => rw [eLeast_not hk hd, eLeast_not hkC (hdd.trans hd)]
  | true => rw [eLeast_of hk hd rfl, eLeast_of hkC (hdd.trans hd) (turn_cost H hG hd mean)]

/-! ### Deep -/

theorem from_mem {B : KB} {x : Nat → Int} (hx : GoodX B.nv B.V B.nv x) : atL (fromF B.nv x) ∈ allX B ∧ ∀ i, i < B.nv → atL (fromF B.nv x) i = x i := by
  have e : ∀ i, i < B.nv → atL (fromF B.nv x) i = x i := fun i hi => by simp [atL, fromF, List.getD, hi]
  refine ⟨List.mem_map.2 ⟨_, (allF_mem B _).2 ⟨by simp [fromF], fun i hi => ?_⟩, rfl⟩, e⟩
  rw [e i hi]
  exact ⟨(hx.x i hi).1, (hx.x i hi).2, fun h => absurd rfl h⟩
theorem all_good {B : KB} {x : Nat → Int} (hx : x ∈ allX B) : GoodX B.nv B.V B.nv x := by
  obtain ⟨z, hz, rfl⟩ := List.mem_map.1 hx
  obtain ⟨_, hin⟩ := (allF_mem B z).1 hz
  exact inC_goodX hin
/-- each fruit of B is one of C, with the same walk -/
theorem turn_mem {B C : KB} {s t p r : Nat → Nat} (H : Turn B C s t p r) (hG : GoodB B) {x : Nat → Int} (hx : x ∈ allX B) : ∃ y, y ∈ allX C ∧ walk C.D y = walk B.D x ∧ ∀ m, m < B.nv → y (s m) = x m := by
  have hgx := all_good hx
  have hgy := turn_fruit H hgx
  obtain ⟨h1, h2⟩ := from_mem hgy
  refine ⟨_, h1, ?_, fun m hm => ?_⟩
  · rw [← turn_walk H hG hgx]
    exact (walk_congr (turn_good H hG).D hgy fun i hi => (h2 i hi).symm).symm
  · rw [h2 _ (by rw [H.nv]; exact (H.hs m hm).1)]
    show x (t (s m)) = x m
    rw [(H.hs m hm).2]
theorem turn_low {B C : KB} {s t p r : Nat → Nat} (H : Turn B C s t p r) (hG : GoodB B) : lowF C (allX C) ≤ lowF B (allX B) ∧ highF B (allX B) ≤ highF C (allX C) := by
  have hC := (foldmin (quest C) (allX C) C.D.n)
  have hB := (foldmin (quest B) (allX B) B.D.n)
  have gC := (foldmax (quest C) (allX C) 0)
  have gB := (foldmax (quest B) (allX B) 0)
  refine ⟨hB.2 _ (by have := hC.1.1; rw [H.dn] at this; unfold lowF; rw [H.dn]; exact this) fun x hx => ?_, gB.2 _ gC.1.1 fun x hx => ?_⟩
  · obtain ⟨y, hy, e, _⟩ := turn_mem H hG hx
    have := hC.1.2 y hy
    have e2 : quest C y = quest B x := by unfold quest; rw [e]
    rw [e2] at this; exact this
  · obtain ⟨y, hy, e, _⟩ := turn_mem H hG hx
    have := gC.1.2 y hy
    have e2 : quest C y = quest B x := by unfold quest; rw [e]
    rw [e2] at this; exact this
theorem turn_eDeep {B C : KB} {s t p r : Nat → Nat} (H : Turn B C s t p r) (hG : GoodB B) : eDeep C = eDeep B := by
  have hGC := turn_good H hG
  obtain ⟨h1, h2⟩ := turn_low H hG
  obtain ⟨h3, h4⟩ := turn_low (turn_back H hG) hGC
  unfold eDeep
  rw [ok_of_good hG, ok_of_good hGC, Int.le_antisymm h1 h3, Int.le_antisymm h4 h2]

/-! ### Idle -/

theorem turn_has {B C : KB} {s t p r : Nat → Nat} (H : Turn B C s t p r) (hG : GoodB B) {i v : Nat} (hi : i < B.D.n) (h : hasV B i v = true) : hasV C i v = true := by
  unfold hasV at h ⊢
  rw [List.any_eq_true] at h ⊢
  obtain ⟨z, hz, h⟩ := h
  simp only [Bool.and_eq_true, decide_eq_true_eq] at h
  obtain ⟨⟨h1, h2⟩, h3⟩ := h
  obtain ⟨y, hy, e, e2⟩ := turn_mem H hG (x := atL z) (List.mem_map.2 ⟨z, hz, rfl⟩)
  obtain ⟨z', hz', rfl⟩ := List.mem_map.1 hy
  refine ⟨z', hz', ?_⟩
  simp only [Bool.and_eq_true, decide_eq_true_eq]
  obtain ⟨a, b, _⟩ := hG.D.ask i hi h2
  obtain ⟨m, em⟩ : ∃ m : Nat, B.D.M i = m := ⟨(B.D.M i).toNat, by omega⟩
  have eC := H.M1 i hi m em
  have em' : (B.D.M i).toNat = m := by omega
  rw [e, eC, show ((s m : Nat) : Int).toNat = s m from rfl, e2 m (by omega), ← em']
  exact ⟨⟨h1, by omega⟩, h3⟩
theorem cnt_congr {p q : Nat → Bool} : ∀ n, (∀ i, i < n → p i = q i) → cnt n p = cnt n q := by
  intro n
  induction n with
  | zero => intro _; rfl
  | succ n ih => intro h; simp only [cnt]; rw [ih fun i hi => h i (by omega), h n (by omega)]
theorem turn_eIdle {B C : KB} {s t p r : Nat → Nat} (H : Turn B C s t p r) (hG : GoodB B) : eIdle C = eIdle B := by
  have hGC := turn_good H hG
  unfold eIdle
  rw [ok_of_good hG, ok_of_good hGC, H.dn]
  simp only [if_true]
  rw [sel_ext B.D.n fun i hi => ?_]
  unfold idleP
  rw [cnt_congr 8 fun v _ => ?_]
  rw [Bool.eq_iff_iff]
  exact ⟨turn_has (turn_back H hG) hGC (by rw [H.dn]; exact hi), turn_has H hG hi⟩

/-! ### Need -/

theorem apart_one {B : KB} {i j m n : Nat} : apartL B i j n = [m] ↔ m < n ∧ ∀ k, k < n → (B.X i k ≠ B.X j k ↔ k = m) := by
  constructor
  · intro h
    have h1 : m ∈ apartL B i j n := by rw [h]; exact List.mem_cons_self ..
    refine ⟨(apartL_mem.1 h1).1, fun k hk => ⟨fun hx => ?_, fun e => by rw [e]; exact (apartL_mem.1 h1).2⟩⟩
    have h2 : k ∈ apartL B i j n := apartL_mem.2 ⟨hk, hx⟩
    rw [h] at h2
    exact List.mem_singleton.1 h2
  · rintro ⟨hm, h⟩
    have hn : (apartL B i j n).Nodup := (List.nodup_range).filter _
    have hall : ∀ k, k ∈ apartL B i j n ↔ k = m := fun k => by
      rw [apartL_mem]
      exact ⟨fun ⟨h1, h2⟩ => (h k h1).1 h2, fun e => by rw [e]; exact ⟨hm, (h m hm).2 rfl⟩⟩
    match e : apartL B i j n with
    | [] => have := (hall m).2 rfl; rw [e] at this; cases this
    | [a] =>
      have := (hall a).1 (by rw [e]; exact List.mem_cons_self ..)
      rw [this]
    | a :: b :: l =>
      have ha := (hall a).1 (by rw [e]; simp)
      have hb := (hall b).1 (by rw [e]; simp)
      rw [e, ha, hb] at hn
      simp at hn
theorem turn_need {B C : KB} {s t p r : Nat → Nat} (H : Turn B C s t p r) {m : Nat} (h : needI B m B.ns = true) : needI C (s m) C.ns = true := by
  obtain ⟨i, j, hji, hi, h⟩ := needI_iff.1 h
  obtain ⟨hm, h⟩ := apart_one.1 h
  have hj : j < B.ns := by omega
  have hnv := H.nv
  have key : ∀ a b, a < B.ns → b < B.ns → (∀ k, k < B.nv → (B.X a k ≠ B.X b k ↔ k = m)) → apartL C (p a) (p b) C.nv = [s m] := fun a b ha hb hab => by
    refine apart_one.2 ⟨by rw [hnv]; exact (H.hs m hm).1, fun k hk => ?_⟩
    rw [hnv] at hk
    have ht := H.ht k hk
    have e1 := H.X a ha (t k) ht.1
    have e2 := H.X b hb (t k) ht.1
    rw [ht.2] at e1 e2
    rw [e1, e2, hab _ ht.1]
    exact ⟨fun e => by rw [← ht.2, e], fun e => by rw [e]; exact (H.hs m hm).2⟩
  have hne : p i ≠ p j := fun e => by
    have h1 := (H.hp i hi).2
    have h2 := (H.hp j hj).2
    rw [e, h2] at h1; omega
  rcases Nat.lt_or_gt_of_ne hne with hl | hl
  · exact needI_iff.2 ⟨p j, p i, hl, by rw [H.ns]; exact (H.hp j hj).1, key j i hj hi fun k hk => by rw [← h k hk]; exact ⟨fun e e2 => e e2.symm, fun e e2 => e e2.symm⟩⟩
  · exact needI_iff.2 ⟨p i, p j, hl, by rw [H.ns]; exact (H.hp i hi).1, key i j hi hj h⟩
theorem sel_filter (p : Nat → Bool) : ∀ n, sel p n = ints ((List.range n).filter p) := by
  intro n
  induction n with
  | zero => rfl
  | succ n ih =>
    rw [List.range_succ, List.filter_append]
    cases hp : p n with
    | true => rw [sel_hit hp, ih]; simp [ints, hp]
    | false => rw [sel_miss hp, ih]; simp [ints, hp]
theorem turn_needs {B C : KB} {s t p r : Nat → Nat} (H : Turn B C s t p r) (hG : GoodB B) : (sel (fun m => needI B m B.ns) B.nv).length ≤ (sel (fun m => needI C m C.ns) C.nv).length := by
  rw [sel_filter, sel_filter, ints_len, ints_len]
  have hn : (((List.range B.nv).filter fun m => needI B m B.ns).map s).Nodup := by
    refine List.Pairwise.map _ (S := fun a b => a ≠ b) (R := fun a b => a < B.nv ∧ b < B.nv ∧ a ≠ b) (fun a b hab e => ?_) ?_
    · obtain ⟨q1, q2, q3⟩ := hab
      have e1 := (H.hs a q1).2
      rw [e, (H.hs b q2).2] at e1
      exact q3 e1.symm
    · refine List.Pairwise.imp_of_mem (fun ha hb hne => ⟨List.mem_range.1 (List.mem_filter.1 ha).1, List.mem_range.1 (List.mem_filter.1 hb).1, hne⟩) ((List.nodup_range).filter _)
  have := nodup_len _ ((List.range C.nv).filter fun m => needI C m C.ns) hn fun a ha => by
    obtain ⟨k, hk, rfl⟩ := List.mem_map.1 ha
    obtain ⟨h1, h2⟩ := List.mem_filter.1 hk
    exact List.mem_filter.2 ⟨List.mem_range.2 (by rw [H.nv]; exact (H.hs k (List.mem_range.1 h1)).1), turn_need H h2⟩
  rwa [List.length_map] at this

end Go.Proofs.Ytbieglmpkljjjaa
