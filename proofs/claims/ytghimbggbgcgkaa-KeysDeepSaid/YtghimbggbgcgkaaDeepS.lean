/-
  DeepS: a key is as deep as Short at least.
-/
import Derived.Test.YtghimbggbgcgkaaKShort
namespace Go.Proofs.Ytghimbggbgcgkaa
open Go.RowKit

theorem lastOf_cons {i : Nat} {l : List Nat} (h : l ≠ []) : lastOf (i :: l) = lastOf l := by
  unfold lastOf
  cases l with
  | nil => exact absurd rfl h
  | cons a l => simp
theorem wk_ne {nv : Nat} {V : Nat → Int} {ns : Nat} {D : Nd} {n : Nat} {x : Nat → Int} (hD : GoodN nv V ns D) (hx : GoodX nv V n x) {i : Nat} (hi : i < D.n) : wk D x i ≠ [] := by
  obtain ⟨pre, k, e, _⟩ := wk_last hD hx (D.n - i) i (Nat.le_refl _) hi
  rw [e]; simp
theorem cubeF_inC {B : KB} {c : Nat → Int} {z : List Int} (h : z ∈ cubeF B c) : InC c B.V B.nv (atL z) := by
  obtain ⟨z1, z2⟩ := cubeF_mem.1 h
  obtain ⟨_, hz3⟩ := (allF_mem B z).1 z1
  exact fun i hi => ⟨(hz3 i hi).1, (hz3 i hi).2.1, fun h' => (z2 i hi).resolve_left h'⟩
theorem cost_high {B : KB} (hG : GoodB B) : ∀ (f k : Nat) (c : Nat → Int) (H : Int), B.D.n - k ≤ f → k < B.D.n → CubeOk B c → 0 ≤ H →
    (∀ x, InC c B.V B.nv x → ((wk B.D x k).length : Int) - 1 ≤ H ∧ endOf B.D x = B.D.S (lastOf (wk B.D x k))) → costK5 B c ≤ H := by
  intro f
  induction f with
  | zero => intro k c H h1 h2; omega
  | succ f ih =>
    intro k c H hf hk hc hH hx
    have hne := cubeF_ne hG hc
    obtain ⟨z, hz⟩ : ∃ z, z ∈ cubeF B c := by
      cases hl : cubeF B c with
      | nil => exact absurd hl hne
      | cons a l => exact ⟨a, by simp⟩
    have hzi := cubeF_inC hz
    cases hs : sameZ B (cubeF B c) with
    | true => rw [costK5_one hs]; exact hH
    | false =>
      by_cases hM : B.D.M k = -1
      · exfalso
        have : sameZ B (cubeF B c) = true := by
          rw [sameZ_iff]
          intro a ha b hb
          unfold endZ
          rw [(hx _ (cubeF_inC ha)).2, (hx _ (cubeF_inC hb)).2, wk_stop hG.D hk hM, wk_stop hG.D hk hM]
        rw [hs] at this; cases this
      · have ha := hG.D.ask k hk hM
        obtain ⟨m, hm⟩ : ∃ m : Nat, B.D.M k = m := ⟨(B.D.M k).toNat, by have := ha.1; omega⟩
        have hmn : m < B.nv := by have := ha.2.1; omega
        have step : ∀ x, InC c B.V B.nv x → ∀ v : Nat, x m = (v : Int) → k < (B.D.T k v).toNat ∧ (B.D.T k v).toNat < B.D.n ∧ wk B.D x k = k :: wk B.D x (B.D.T k v).toNat := fun x hxc v hv => by
          have hgx := inC_good hxc
          have h1 := wk_go hG.D hgx hk hM
          obtain ⟨h2, h3, _, _, h4⟩ := nxt_ok hG.D hgx hk hM
          have e : nxt B.D x k = (B.D.T k v).toNat := by
            rw [hm, Int.toNat_natCast, hv, Int.toNat_natCast] at h4
            rw [h4]; simp
          rw [e] at h1 h2 h3
          exact ⟨h2, h3, h1⟩
        have tail : ∀ x, InC c B.V B.nv x → ∀ v : Nat, x m = (v : Int) → ((wk B.D x (B.D.T k v).toNat).length : Int) - 1 ≤ H - 1 ∧ endOf B.D x = B.D.S (lastOf (wk B.D x (B.D.T k v).toNat)) := fun x hxc v hv => by
          obtain ⟨h1, h2, h3⟩ := step x hxc v hv
          obtain ⟨h4, h5⟩ := hx x hxc
          rw [h3] at h4 h5
          rw [lastOf_cons (wk_ne hG.D (inC_good hxc) h2)] at h5
          rw [List.length_cons] at h4
          exact ⟨by omega, h5⟩
        have hzm := hzi m hmn
        obtain ⟨vz, hvz⟩ : ∃ v : Nat, atL z m = v := ⟨(atL z m).toNat, by omega⟩
        have hH1 : 1 ≤ H := by
          have h1 := (tail _ hzi vz hvz).1
          have h2 := List.length_pos_iff.2 (wk_ne hG.D (inC_good hzi) (step _ hzi vz hvz).2.1)
          omega
        by_cases hcm : c m = -1
        · have hV := hG.V m hmn
          rw [costK5_eq hG.nv hs]
          refine Int.le_trans (bestM_le hmn hcm) ?_
          unfold costM
          refine (worst_bd hH _ fun v hv => ?_).2
          have hvV : (v : Int) < B.V m := by omega
          have hcd := hc.part hmn hvV
          have sub : ∀ x, InC (upd c m (v : Int)) B.V B.nv x → InC c B.V B.nv x ∧ x m = (v : Int) := fun x hx => by
            refine ⟨fun i hi => ⟨(hx i hi).1, (hx i hi).2.1, fun h' => ?_⟩, ?_⟩
            · have hne : i ≠ m := fun e => h' (by rw [e]; exact hcm)
              have := (hx i hi).2.2
              rw [upd_other _ _ hne] at this
              exact this h'
            · have := (hx m hmn).2.2
              rw [upd_same] at this
              exact this (by omega)
          obtain ⟨z2, hz2⟩ : ∃ z, z ∈ cubeF B (upd c m (v : Int)) := by
            cases hl : cubeF B (upd c m (v : Int)) with
            | nil => exact absurd hl (cubeF_ne hG hcd)
            | cons a l => exact ⟨a, by simp⟩
          obtain ⟨s1, s2⟩ := sub _ (cubeF_inC hz2)
          obtain ⟨t1, t2, _⟩ := step _ s1 v s2
          have h1 := ih (B.D.T k v).toNat (upd c m (v : Int)) (H - 1) (by omega) t2 hcd (by omega) fun x hx => tail x (sub x hx).1 v (sub x hx).2
          have h2 := costK5_bd hG.nv (upd c m (v : Int))
          omega
        · have fix : ∀ x, InC c B.V B.nv x → x m = (vz : Int) := fun x hx => by
            rw [(hx m hmn).2.2 hcm, ← hvz, (hzi m hmn).2.2 hcm]
          obtain ⟨t1, t2, _⟩ := step _ hzi vz hvz
          exact ih (B.D.T k vz).toNat c H (by omega) t2 hc hH fun x hx => ⟨by have := (tail x hx vz (fix x hx)).1; omega, (tail x hx vz (fix x hx)).2⟩

theorem quest_any {B : KB} (hG : GoodB B) {x : Nat → Int} (hx : InC anyC B.V B.nv x) : 0 ≤ quest B x ∧ quest B x ≤ highF B (allX B) := by
  have hat : ∀ i, i < B.nv → x i = atL (fromF B.nv x) i := fun i hi => by simp [atL, fromF, hi]
  have hz : fromF B.nv x ∈ allF B := (allF_mem B _).2 ⟨fromF_len _ _, fun i hi => by rw [← hat i hi]; exact hx i hi⟩
  have he : quest B x = quest B (atL (fromF B.nv x)) := by unfold quest; rw [walk_congr hG.D (inC_good hx) hat]
  have hm : atL (fromF B.nv x) ∈ allX B := List.mem_map.2 ⟨_, hz, rfl⟩
  rw [he]
  exact ⟨(quest_bd hG hm).1, (foldmax (quest B) (allX B) 0).1.2 _ hm⟩
theorem short_high {B : KB} (hG : GoodB B) : costK5 B anyC ≤ highF B (allX B) := by
  refine cost_high hG B.D.n 0 anyC _ (by omega) hG.D.n1 (anyC_ok B) ?_ fun x hx => ?_
  · exact (foldmax (quest B) (allX B) 0).1.1
  · have h := quest_any hG hx
    unfold quest at h
    rw [← walk_wk]
    exact ⟨h.2, rfl⟩
theorem short_zero {B : KB} (hG : GoodB B) : (costK5 B anyC == 0) = sameZ B (allF B) := by
  rw [← cubeF_any B]
  cases hs : sameZ B (cubeF B anyC) with
  | true => rw [costK5_one hs]; rfl
  | false =>
    rw [costK5_eq hG.nv hs]
    have key : ∀ n, n ≤ B.nv → 1 ≤ bestM B (costK5 B) anyC n := by
      intro n
      induction n with
      | zero => intro _; simp only [bestM]; omega
      | succ n ih =>
        intro hn
        simp only [bestM]
        have h1 := ih (by omega)
        have hV := (hG.V n (by omega)).1
        have h2 : 1 ≤ costM B (costK5 B) anyC n := by
          unfold costM
          obtain ⟨q, hq⟩ : ∃ q, (B.V n).toNat = q + 1 := ⟨(B.V n).toNat - 1, by omega⟩
          rw [hq, worst_maxC (fun v => (costK5_bd hG.nv _).1)]
          have : ∀ q, 0 ≤ maxF (fun v : Nat => costK5 B (upd anyC n (v : Int))) q := by
            intro q
            induction q with
            | zero => exact (costK5_bd hG.nv _).1
            | succ q ihq => simp only [maxF]; omega
          have := this q
          omega
        split <;> omega
    have := key B.nv (Nat.le_refl _)
    rw [beq_eq_false_iff_ne]
    omega
theorem deep_bd {B : KB} (hG : GoodB B) : 0 ≤ lowF B (allX B) ∧ lowF B (allX B) ≤ highF B (allX B) ∧ highF B (allX B) < B.D.n := by
  have hne : cubeF B anyC ≠ [] := cubeF_ne hG (anyC_ok B)
  rw [cubeF_any] at hne
  obtain ⟨z, l, hl⟩ := List.exists_cons_of_ne_nil hne
  have hm : atL z ∈ allX B := List.mem_map.2 ⟨z, by rw [hl]; simp, rfl⟩
  have h1 := (foldmin (quest B) (allX B) B.D.n)
  have h2 := (foldmax (quest B) (allX B) 0)
  have hn := hG.D.n1
  refine ⟨h1.2 0 (by omega) fun x hx => (quest_bd hG hx).1, Int.le_trans (h1.1.2 _ hm) (h2.1.2 _ hm), ?_⟩
  have := h2.2 ((B.D.n : Int) - 1) (by omega) fun x hx => by have := (quest_bd hG hx).2; omega
  show List.foldl _ _ _ < _
  omega

end Go.Proofs.Ytghimbggbgcgkaa
