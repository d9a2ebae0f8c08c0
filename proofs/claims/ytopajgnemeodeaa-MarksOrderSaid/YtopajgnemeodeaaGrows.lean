/-
  grows: with other fruits no sort comes to Sorts, and Wrong of no sort is less, or greater by more than a number.
-/
import Derived.Test.YtopajgnemeodeaaCApart
import Derived.Test.YtopajgnemeodeaaRefK
import Derived.Test.YtopajgnemeodeaaTold1
namespace Go.Proofs.Ytopajgnemeodeaa
open Go.RowKit

theorem sel_le {p q : Nat → Bool} : ∀ {n : Nat}, (∀ i, i < n → p i = true → q i = true) → (sel p n).length ≤ (sel q n).length
  | 0, _ => Nat.le_refl _
  | n + 1, h => by
    have ih := sel_le (n := n) fun i hi => h i (by omega)
    cases hp : p n with
    | false =>
      rw [sel_miss hp]
      cases hq : q n with
      | false => rw [sel_miss hq]; exact ih
      | true => rw [sel_hit hq]; simp only [List.length_append, List.length_cons, List.length_nil]; omega
    | true =>
      rw [sel_hit hp, sel_hit (h n (by omega) hp)]
      simp only [List.length_append, List.length_cons, List.length_nil]; omega

/-- an element of a list of numbers that were chosen is one of them -/
theorem sel_one {p : Nat → Bool} {n i : Nat} (h : i < (sel p n).length) : ∃ k : Nat, k < n ∧ p k = true ∧ (sel p n).getD i 0 = (k : Int) := by
  obtain ⟨⟨h1, h2⟩, _⟩ := sel_get n i h
  have e : (sel p n).getD i 0 = (((sel p n).getD i 0).toNat : Int) := (Int.toNat_of_nonneg h1).symm
  have := sel_mem (p := p) (k := ((sel p n).getD i 0).toNat) (n := n) (anyB_true.2 ⟨i, h, decide_eq_true e⟩)
  exact ⟨_, this.1, this.2, e⟩

theorem sub_sel {p q : Nat → Bool} {n : Nat} (hn : n ≤ 40) (h : ∀ i, i < n → p i = true → q i = true) :
    sub (sel p n).length (fun i => (sel p n).getD i 0) (sel q n).length (fun i => (sel q n).getD i 0) = true := by
  unfold sub
  have h1 := sel_le h
  have h2 := sel_len q n
  rw [decide_eq_true h1, decide_eq_true (by omega : (sel q n).length ≤ 40)]
  simp only [Bool.and_self, Bool.true_and]
  rw [allB_true]
  intro i hi
  obtain ⟨k, hk, hp, e⟩ := sel_one hi
  simp only [e]
  rw [sel_in q hk]
  exact h k hk hp

theorem sorts_sub {B C : Bk} {R S : Fr} (hn : B.ns ≤ 40) (e : C.ns = B.ns) (h : ∀ s, s < B.ns → (wrong B R s : Int) ≤ B.wr → (wrong C S s : Int) ≤ C.wr) :
    sub (sorts B R).length (fun i => (sorts B R).getD i 0) (sorts C S).length (fun i => (sorts C S).getD i 0) = true := by
  unfold sorts
  rw [e]
  exact sub_sel hn fun i hi hp => decide_eq_true (h i hi (of_decide_eq_true hp))

theorem eSorts_ok {B : Bk} {R : Fr} (hc : chk B R = 0) : eSorts B R = (sorts B R, if (sorts B R).length = 0 then 3 else 0) := by
  unfold eSorts
  rw [if_neg (by simp [hc])]
  by_cases h0 : (sorts B R).length = 0
  · rw [if_pos h0, if_pos h0, List.length_eq_zero_iff.1 h0]
  · rw [if_neg h0, if_neg h0]

theorem eWrong_ok {B : Bk} {R : Fr} {s : Nat} (hc : chk B R = 0) (hs : s < B.ns) : eWrong B R (s : Int) = ((wrong B R s : Int), 0) := by
  unfold eWrong
  rw [if_neg (by simp [hc]), if_pos (by simp; omega)]; rfl

theorem known_code (n : Nat) : (decide ((if n = 0 then (3 : Int) else 0) = 0) || decide ((if n = 0 then (3 : Int) else 0) = 3)) = true := by
  by_cases h : n = 0 <;> simp [h]

theorem isKnown0 (w : World) : Calls Try.prog 55 #[.int .i64 0] w fun r w' => r = .returned (.bool true) ∧ w' = w := isKnown_any 0 w
theorem isKnown3 (w : World) : Calls Try.prog 55 #[.int .i64 3] w fun r w' => r = .returned (.bool true) ∧ w' = w := isKnown_any 3 w

set_option maxHeartbeats 4000000 in
set_option maxRecDepth 100000 in
theorem grows_any (N : Nat) (v u u2 : Value) (B : Bk) (R S : Fr) (most : Nat) (w : World) (h : BookAt N w v B) (hf : FruitsAt N w u R) (hf2 : FruitsAt N w u2 S)
    (hc : chk B R = 0) (hc2 : chk B S = 0) (hm : most ≤ 1000) (hw : ∀ s, s < B.ns → wrong B R s ≤ wrong B S s ∧ wrong B S s ≤ wrong B R s + most) :
    Calls Try.prog 50 #[v, u, u2, .int .i64 most] w fun e w' => e = .returned (.bool true) ∧ Below w.heap.size w w' := by
  have hk := h
  have h' := h
  obtain ⟨_, a1, c1, a2, c2, a3, c3, rfl, _⟩ := h'
  obtain ⟨ws, hws, HB, hsz, hblk⟩ := box1 w (.cells #[.slice a1 B.nv c1, .slice a2 B.nf c2, .slice a3 B.ns c3, .int .i64 B.wr] 25)
  have q0 := cell_blk hblk 0 rfl
  have q1 := cell_blk hblk 1 rfl
  have q2 := cell_blk hblk 2 rfl
  have q3 := cell_blk hblk 3 rfl
  obtain ⟨HBF, HB0⟩ := entry HB.out h hf
  clear hblk h hf
  obtain ⟨HBG, _⟩ := entry HB.out hk hf2
  clear hk hf2
  have HG := Lib.hid (chk_good hc)
  have HG2 := Lib.hid (chk_good hc2)
  have HCK := Lib.hid hc
  have HCKS := Lib.hid hc2
  have HW := Lib.hid hw
  have hns := (chk_good hc).ns
  obtain ⟨l1, hl1⟩ : ∃ l, sorts B R = l := ⟨_, rfl⟩
  obtain ⟨l2, hl2⟩ : ∃ l, sorts B S = l := ⟨_, rfl⟩
  obtain ⟨e1, he1⟩ : ∃ e, (if l1.length = 0 then (3 : Int) else 0) = e := ⟨_, rfl⟩
  obtain ⟨e2, he2⟩ : ∃ e, (if l2.length = 0 then (3 : Int) else 0) = e := ⟨_, rfl⟩
  have HE1 : Hid (eSorts B R = (l1, e1)) := by unfold Hid; rw [eSorts_ok hc, hl1, he1]
  have HE2 : Hid (eSorts B S = (l2, e2)) := by unfold Hid; rw [eSorts_ok hc2, hl2, he2]
  have HK1 : Hid ((decide (e1 = 0) || decide (e1 = 3)) = true) := by rw [← he1]; exact known_code _
  have HK2 : Hid ((decide (e2 = 0) || decide (e2 = 3)) = true) := by rw [← he2]; exact known_code _
  have hsub : sub l2.length (fun i => l2.getD i 0) l1.length (fun i => l1.getD i 0) = true := by
    rw [← hl1, ← hl2]
    exact sorts_sub (by omega) rfl fun s hs h => by have := (hw s hs).1; omega
  have hz : e2 = 0 → e1 = 0 := fun hh => by
    have h1 : l2.length ≤ l1.length := by
      unfold sub at hsub
      simp only [Bool.and_eq_true, decide_eq_true_eq] at hsub
      exact hsub.1.1
    rw [← he2] at hh
    rw [← he1]
    by_cases h0 : l2.length = 0
    · rw [if_pos h0] at hh; omega
    · rw [if_neg (by omega)]
  have HSUB := Lib.hid hsub
  have HBD : Hid (l1.length ≤ 140737488351232 ∧ l2.length ≤ 140737488351232) := by
    have := sel_len (fun s => decide ((wrong B R s : Int) ≤ B.wr)) B.ns
    have := sel_len (fun s => decide ((wrong B S s : Int) ≤ B.wr)) B.ns
    rw [← hl1, ← hl2]
    unfold sorts
    exact ⟨by omega, by omega⟩
  clear hw hl1 hl2 he1 he2 hsub hc hc2
  by_cases h0 : e2 = 0
  all_goals
    first
      | (have h1 := hz h0; subst h0; subst h1)
      | (have h3 : e2 = 3 := by have := HK2.out; simp [h0] at this; exact this
         subst h3)
    clear hz
    (try clear h0)
    go_enter Try.func50, Try.ntmps50
    go_wp2_with (first
      | (go_at_call 26; have _t := HB1; refine (mSorts_any N _ _ B S _ (HBF.out.go HB1.out).1 (HBG.out.go HB1.out).2).mono ?_; rintro e w2 ⟨u4, rfl, hu4, hb2⟩; rw [HE2.out] at hu4; rw [HE2.out]; obtain ⟨ao4, co4, rfl⟩ := hu4.form; have HU4 := Lib.hid hu4; clear hu4; have HC2 := Lib.hid hb2; (try clear c1); have HB2 := Lib.hid (bel HB1.out hb2); have c2 := (old_of HB2.out).1; clear hb2)
      | (go_at_call 26; refine (mSorts_any N _ _ B R _ (HBF.out.go HB0.out).1 (HBF.out.go HB0.out).2).mono ?_; rintro e w1 ⟨u3, rfl, hu3, hb1⟩; rw [HE1.out] at hu3; rw [HE1.out]; obtain ⟨ao3, co3, rfl⟩ := hu3.form; have HU3 := Lib.hid hu3; clear hu3; have HC1 := Lib.hid hb1; (try clear c0); have HB1 := Lib.hid (bel HB0.out hb1); have c1 := (old_of HB1.out).1; clear hb1)
      | (go_at_call 55; first | (refine (isKnown0 _).mono ?_; rintro e wB ⟨rfl, rfl⟩) | (refine (isKnown3 _).mono ?_; rintro e wB ⟨rfl, rfl⟩) | (refine (isKnown_any _ _).mono ?_; rintro e wB ⟨rfl, rfl⟩; rw [HK1.out]))
      | (go_at_call 56; refine (subset_any _ _ _ _ _ _ _ _ (HU4.out.at_ HBD.out.2 (Below.refl _ _)) (IntsAt.wider (HU3.out.at_ HBD.out.1 HC2.out) HC2.out.size)).mono ?_; rintro e wB ⟨rfl, rfl⟩; rw [HSUB.out]))
  all_goals
    clear hws
    go_loopw [13] (fun i wr => ∃ k : Nat, k ≤ B.ns ∧ i = .int .i64 k ∧ Hid (Below ws.heap.size ws wr)) (fun i _ => B.ns - (intOf i).toNat)
    case atStart => exact ⟨0, Nat.zero_le _, rfl, HB2.out⟩
    case round =>
      clear c2 HB2
      obtain ⟨k, hk, rfl, HBr⟩ := hrel
      have HBG2 := Lib.hid (HBG.out.go HBr.out)
      have cr := (old_of HBr.out).1
      have hszr := Nat.lt_of_lt_of_le hsz HBr.out.size
      have HBFr := HBF
      have HBF := Lib.hid (HBF.out.go HBr.out)
      clear HBFr
      have HB0 : Hid (Below wr.heap.size wr wr) := Below.refl _ _
      by_cases hkn : k < B.ns
      · have HE3 : Hid (eWrong B R (k : Int) = ((wrong B R k : Int), 0)) := eWrong_ok HCK.out hkn
        have HE4 : Hid (eWrong B S (k : Int) = ((wrong B S k : Int), 0)) := eWrong_ok HCKS.out hkn
        have g1 := wrong_le HG.out k
        have g2 := wrong_le HG2.out k
        have g3 := HW.out k hkn
        generalize wrong B R k = m1 at *
        generalize wrong B S k = m2 at *
        go_wp2_with (first
          | (go_at_call 20; have _t := HB5; refine (mWrong_any N _ _ B S (k : Int) _ (HBF.out.go HB5.out).1 (HBG2.out.go HB5.out).2).mono ?_; rintro e w6 ⟨rfl, hb6⟩; rw [HE4.out]; (try clear c5); have HB6 := Lib.hid (bel HB5.out hb6); have c6 := (old_of HB6.out).1; clear hb6)
          | (go_at_call 20; refine (mWrong_any N _ _ B R (k : Int) _ (HBF.out.go HB0.out).1 (HBF.out.go HB0.out).2).mono ?_; rintro e w5 ⟨rfl, hb5⟩; rw [HE3.out]; (try clear c0); have HB5 := Lib.hid (bel HB0.out hb5); have c5 := (old_of HB5.out).1; clear hb5))
        go_roundw
        case rel => exact ⟨k + 1, by omega, by go_num, fin HBr.out HB6.out⟩
        case measure => simp [intOf]; omega
      · go_wp2
        go_ret
        exact ⟨rfl, fin HB.out HBr.out⟩

end Go.Proofs.Ytopajgnemeodeaa
