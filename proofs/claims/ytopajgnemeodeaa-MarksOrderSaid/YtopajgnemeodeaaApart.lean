/-
  Apart: contracts of the functions that its theorems name.
-/
import Derived.Test.YtopajgnemeodeaaMarks
namespace Go.Proofs.Ytopajgnemeodeaa
open Go.RowKit

set_option maxHeartbeats 400000 in
theorem apartFn_any (N b : Nat) (cv : Value) (n : Nat) (c : Nat → Int) (y : Int) (w : World) (h : w.cell? ⟨b, 0, none⟩ = some cv) (hi : IntsAt N w cv n c) :
    Calls Try.prog 96 #[.int .i64 y, .pointer (some ⟨b, 0, none⟩)] w fun e w' => e = .returned (.bool (anyB n fun i => decide (y = c i))) ∧ w' = w := by
  have H : Hid (IntsAt N w cv n c) := hi
  obtain ⟨ao, cap, rfl, hn, _⟩ := hi
  go_enter Try.func96, Try.ntmps96
  go_wp2_with (go_at_call 73; refine (contains_any N _ _ _ _ _ H.out).mono ?_; rintro e w' ⟨rfl, rfl⟩)
  go_ret
  exact ⟨rfl, rfl⟩

set_option maxHeartbeats 400000 in
theorem indexFunc_any (N b : Nat) (v : Value) (n : Nat) (x : Nat → Int) (p : Int → Bool) (w : World) (h : IntsAt N w v n x)
    (hp : ∀ y, Calls Try.prog 96 #[.int .i64 y, .pointer (some ⟨b, 0, none⟩)] w fun e w' => e = .returned (.bool (p y)) ∧ w' = w) :
    Calls Try.prog 103 #[v, .func (.func 96) #[] #[.pointer (some ⟨b, 0, none⟩)]] w fun e w' => e = .returned (.int .i64 (firstI n fun i => p (x i))) ∧ w' = w := by
  obtain ⟨ao, cap, rfl, hn, hc⟩ := h
  have HP : Hid _ := Lib.hid hp
  clear hp
  go_enter Try.func103, Try.ntmps103
  go_wp2
  go_loop [8] (fun i => ∃ k : Nat, k ≤ n ∧ i = .int .i64 k ∧ Hid (∀ j, j < k → p (x j) = false)) (fun i => n - (intOf i).toNat)
  case atStart => exact ⟨0, Nat.zero_le _, rfl, fun j hj => absurd hj (Nat.not_lt_zero j)⟩
  case round =>
    obtain ⟨k, hk, rfl, hj⟩ := hrel
    by_cases hkn : k < n
    · obtain ⟨b1, off, rfl, _, hr⟩ := hc (by omega)
      obtain ⟨r, hcell, rfl⟩ := hr k hkn
      clear hr hc
      cases hxy : p (x k) with
      | true =>
        have HX : Hid _ := Lib.hid hxy
        clear hxy
        go_wp2_with (go_at_call 96; refine (HP.out _).mono ?_; rintro e w' ⟨rfl, rfl⟩; rw [HX.out])
        go_ret
        exact ⟨ret_int (firstI_spec n _ hkn HX.out hj.out).symm, rfl⟩
      | false =>
        have HX : Hid _ := Lib.hid hxy
        clear hxy
        go_wp2_with (go_at_call 96; refine (HP.out _).mono ?_; rintro e w' ⟨rfl, rfl⟩; rw [HX.out])
        go_round
        case rel => exact ⟨k + 1, by omega, by go_num, lt_succ hj.out HX.out⟩
        case measure => simp [intOf]; omega
    · have Hk : Hid (k = n) := by show k = n; omega
      go_wp2
      go_ret
      exact ⟨ret_int (firstI_none n _ fun j h => hj.out j (by rw [Hk.out]; exact h)).symm, rfl⟩

set_option maxHeartbeats 400000 in
theorem containsFunc_any (N b : Nat) (v : Value) (n : Nat) (x : Nat → Int) (p : Int → Bool) (w : World) (h : IntsAt N w v n x)
    (hp : ∀ y, Calls Try.prog 96 #[.int .i64 y, .pointer (some ⟨b, 0, none⟩)] w fun e w' => e = .returned (.bool (p y)) ∧ w' = w) :
    Calls Try.prog 97 #[v, .func (.func 96) #[] #[.pointer (some ⟨b, 0, none⟩)]] w fun e w' => e = .returned (.bool (anyB n fun i => p (x i))) ∧ w' = w := by
  have H : Hid (IntsAt N w v n x) := h
  have HP : Hid _ := Lib.hid hp
  obtain ⟨ao, cap, rfl, hn, hc⟩ := h
  clear hc hp
  have hfin := firstI_any n fun i => p (x i)
  have HF : Hid _ := Lib.hid hfin
  clear hfin
  go_enter Try.func97, Try.ntmps97
  go_wp2_with (go_at_call 103; refine (indexFunc_any N b _ _ _ p _ H.out HP.out).mono ?_; rintro e w' ⟨rfl, rfl⟩)
  go_ret
  exact ⟨ret_bool HF.out, rfl⟩

/-- what a valid book is -/
structure GoodB (B : Bk) : Prop where
  nv : B.nv ≤ 6
  ns : B.ns ≤ 8
  nc : ∀ s, s < B.ns → B.nc s = B.nv
theorem goodB_of {B : Bk} (h : okBook B = true) : GoodB B := by
  have g := good_of (R := ⟨0, fun _ => 0, fun _ _ => 0⟩) h (by simp [okFruits, allB])
  exact ⟨g.nv, g.ns, g.nc⟩

/-- can two sorts have a value of a mark in common? -/
def common (B : Bk) (s t m : Nat) : Bool := anyB (B.ncc s m) fun i => anyB (B.ncc t m) fun j => decide (B.can s m i = B.can t m j)
def apartL (B : Bk) (s t : Nat) : List Int := sel (fun m => !common B s t m) B.nv

theorem cells_at (w : World) (n : Nat) (cs : List Value) (t : TypeId) (hn : n = w.heap.size) : ∀ j u, cs[j]? = some u → (w.alloc (.cells cs.toArray t)).cell? ((⟨n, 0, none⟩ : Addr).add j) = some u := by
  subst hn; exact cells_new w cs t

set_option maxHeartbeats 4000000 in
theorem apart_any (N : Nat) (v : Value) (B : Bk) (s t : Nat) (w : World) (h : BookAt N w v B) (hg : GoodB B) (hs : s < B.ns) (ht : t < B.ns) :
    Calls Try.prog 83 #[v, .int .i64 s, .int .i64 t] w (GivesI w.heap.size w (apartL B s t)) := by
  have H : Hid (BookAt N w v B) := h
  have HG : Hid _ := Lib.hid hg
  obtain ⟨i0, hi, hz0, hz1, hz2⟩ := info_parts Try.infoInt
  obtain ⟨hN, a1, c1, a2, c2, a3, c3, rfl, h1, h2, h3⟩ := h
  obtain ⟨_, _, e3, _, hc3⟩ := h3
  cases e3
  obtain ⟨b3, off3, rfl, hb3, hr3⟩ := hc3 (by omega)
  obtain ⟨r3, hcell3, ao, cap, rfl, hnc, hcr⟩ := hr3 s hs
  obtain ⟨r4, hcell4, bo, bcap, rfl, hnd, hdr⟩ := hr3 t ht
  have HCR : Hid _ := Lib.hid hcr
  have HDR : Hid _ := Lib.hid hdr
  have HNC : Hid (B.nc s = B.nv) := hg.nc s hs
  have HND : Hid (B.nc t = B.nv) := hg.nc t ht
  have H6 := hg.nv
  clear hg hc3 hr3 hcr hdr h1 h2
  have HC3 : Hid _ := Lib.hid hcell3
  have HC4 : Hid _ := Lib.hid hcell4
  clear hcell3 hcell4
  go_enter Try.func83, Try.ntmps83
  go_wp2
  go_loopw [7, 14] (fun u i wr => ∃ k : Nat, k ≤ B.nv ∧ i = .int .i64 k ∧ Hid (OwnI (w.heap.size + 1) wr u (sel (fun m => !common B s t m) k)) ∧ Hid (Below (w.heap.size + 1) (w.alloc (.cells #[.slice a1 B.nv c1, .slice a2 B.nf c2, .slice (some ⟨b3, off3, none⟩) B.ns c3, .int .i64 B.wr] 25)) wr)) (fun _ i _ => B.nv - (intOf i).toNat)
  case atStart => exact ⟨0, Nat.zero_le _, rfl, World.ownsRow_nil _ _ _ _, Below.refl _ _⟩
  case round =>
    obtain ⟨k, hk, rfl, ho, hB⟩ := hrel
    by_cases hkn : k < B.nv
    · have hW := below_of hB.out
      obtain ⟨b5, off5, rfl, hb5, hr5⟩ := HCR.out (by have := HNC.out; omega)
      obtain ⟨r5, hcell5, hi5⟩ := hr5 k (by have := HNC.out; omega)
      obtain ⟨b6, off6, rfl, hb6, hr6⟩ := HDR.out (by have := HND.out; omega)
      obtain ⟨r6, hcell6, hi6⟩ := hr6 k (by have := HND.out; omega)
      have hkc : (k : Int) < (B.nc s : Int) := by have := HNC.out; omega
      have hkd : (k : Int) < (B.nc t : Int) := by have := HND.out; omega
      replace hcell5 := (hW.cell (p := ⟨b5, off5 + k, none⟩) (by show b5 < _; omega)).trans hcell5
      replace hcell6 := (hW.cell (p := ⟨b6, off6 + k, none⟩) (by show b6 < _; omega)).trans hcell6
      have hcell3 := (hW.cell (p := ⟨b3, off3 + s, none⟩) (by show b3 < _; omega)).trans HC3.out
      have hcell4 := (hW.cell (p := ⟨b3, off3 + t, none⟩) (by show b3 < _; omega)).trans HC4.out
      have q2 := box_cell hB.out 2 rfl
      have hsz := size_of hB.out
      have l3 : b3 < wr.heap.size := by omega
      have l5 : b5 < wr.heap.size := by omega
      have l6 : b6 < wr.heap.size := by omega
      have HI5 : Hid (∀ o, IntsAt N (wr.alloc o) r5 (B.ncc s k) (B.can s k)) := fun o => hi5.mono ((hW.mono hN).alloc (by omega) o) (Nat.le_refl _)
      have HI6 : Hid (∀ o, IntsAt N (wr.alloc o) r6 (B.ncc t k) (B.can t k)) := fun o => hi6.mono ((hW.mono hN).alloc (by omega) o) (Nat.le_refl _)
      obtain ⟨a7, c7, rfl, _, _⟩ := hi5
      obtain ⟨a8, c8, rfl, _, _⟩ := hi6
      have hsl := sel_len (fun m => !common B s t m) k
      have hown := ho.out.alloc (.cells #[.slice a8 (B.ncc t k) c8] 22)
      have HCH := chain_alloc hB.out (.cells #[.slice a8 (B.ncc t k) c8] 22)
      have HCHI : Hid _ := Lib.hid HCH
      clear HCH hr5 hr6 hW
      cases hcm : common B s t k with
      | true =>
        have HP : Hid (sel (fun m => !common B s t m) (k + 1) = sel (fun m => !common B s t m) k) := sel_miss (by simp [hcm])
        have HCM : Hid _ := Lib.hid hcm
        have HOW : Hid _ := Lib.hid hown
        clear hcm hown
        go_wp2_with (go_at_call 97; refine (containsFunc_any N wr.heap.size _ _ _ (fun y => anyB (B.ncc t k) fun j => decide (y = B.can t k j)) _ (HI5.out _) (fun y => apartFn_any N wr.heap.size (.slice a8 (B.ncc t k) c8) _ _ y _ (by simp) (HI6.out _))).mono ?_; rintro e w1 ⟨rfl, rfl⟩; rw [show (anyB (B.ncc s k) fun i => anyB (B.ncc t k) fun j => decide (B.can s k i = B.can t k j)) = true from HCM.out])
        go_roundw
        case rel => exact ⟨k + 1, by omega, by go_num, by rw [HP.out]; exact HOW.out, HCHI.out⟩
        case measure => simp [intOf]; omega
      | false =>
        have HP : Hid (sel (fun m => !common B s t m) (k + 1) = sel (fun m => !common B s t m) k ++ [(k : Int)]) := sel_hit (by simp [hcm])
        have HCM : Hid _ := Lib.hid hcm
        clear hcm
        generalize sel (fun m => !common B s t m) k = l at *
        go_wp2_with (first
          | (go_at_call 97; refine (containsFunc_any N wr.heap.size _ _ _ (fun y => anyB (B.ncc t k) fun j => decide (y = B.can t k j)) _ (HI5.out _) (fun y => apartFn_any N wr.heap.size (.slice a8 (B.ncc t k) c8) _ _ y _ (by simp) (HI6.out _))).mono ?_; rintro e w1 ⟨rfl, rfl⟩; rw [show (anyB (B.ncc s k) fun i => anyB (B.ncc t k) fun j => decide (B.can s k i = B.can t k j)) = false from HCM.out])
          | (at_builtin; refine wpList_append_own _ rfl _ _ 22 rfl (w.heap.size + 1) 3 i0 (.int .i64 0) 1 8 Try.underlying22 hi hz0 hz1 hz2 rfl (by decide) _ _ _ rfl (hown.alloc _) ⟨wr.heap.size + 1, 0, none⟩ 1 1 [.int .i64 k] rfl rfl (cells_at _ _ _ _ (by simp)) (by simp [Value.oneCell']) (by unfold maxLen; omega) (by omega) (by simp; omega) ?_; intro v' w2 hown2 hgrow _))
        go_roundw
        case rel => exact ⟨k + 1, by omega, by go_num, by rw [HP.out]; unfold Hid OwnI; rw [List.length_append, List.map_append]; exact hown2, (Below.alloc HCHI.out (by simp; omega) _).grown hgrow (by simp; omega) (fun j e => (hown.lt j e).1)⟩
        case measure => simp [intOf]; omega
    · have Hk : Hid (k = B.nv) := by show k = _; omega
      go_wp2
      go_ret
      exact ⟨_, rfl, by unfold apartL; rw [← Hk.out]; exact own_mono ho.out (Nat.le_succ _), below_of hB.out⟩

/-- a call that makes a list, and an error, for a book -/
def eApart (B : Bk) (s t : Int) : List Int × Int := if okBook B = false then ([], 10) else if (decide (0 ≤ s) && decide (s < B.ns)) = true ∧ (decide (0 ≤ t) && decide (t < B.ns)) = true then (apartL B s.toNat t.toNat, 0) else ([], 1)

set_option maxHeartbeats 2000000 in
theorem mApart_any (N : Nat) (v : Value) (B : Bk) (s t : Int) (w : World) (h : BookAt N w v B) :
    Calls Try.prog 40 #[v, .int .i64 s, .int .i64 t] w (GivesIE w.heap.size w (eApart B s t).1 (eApart B s t).2) := by
  have H : Hid (BookAt N w v B) := h
  obtain ⟨hN, a1, c1, a2, c2, a3, c3, rfl, h1, h2, h3⟩ := h
  clear h1 h2 h3
  cases hm : okBook B with
  | false =>
    have HM : Hid (okBook B = false) := Lib.hid hm
    clear hm
    go_enter Try.func40, Try.ntmps40
    go_wp2_with (go_at_call 62; refine (validBook_any N _ B _ (H.out.in_alloc _)).mono ?_; rintro e w1 ⟨rfl, hb1⟩; rw [HM.out]; have ch1 := chain (chain0 _ _) hb1; clear hb1)
    go_ret2
    rw [eApart, if_pos HM.out]
    exact ⟨_, rfl, own_nil _ _, below_of ch1⟩
  | true =>
    have HM : Hid (okBook B = true) := Lib.hid hm
    have HG : Hid (GoodB B) := goodB_of hm
    clear hm
    cases hs : (decide (0 ≤ s) && decide (s < (B.ns : Int))) with
    | false =>
      have HS : Hid _ := Lib.hid hs
      clear hs
      go_enter Try.func40, Try.ntmps40
      go_wp2_with (first
        | (go_at_call 62; refine (validBook_any N _ B _ (H.out.in_alloc _)).mono ?_; rintro e w1 ⟨rfl, hb1⟩; rw [HM.out]; have ch1 := chain (chain0 _ _) hb1; have q0 := box_cell ch1 0 rfl; have q1 := box_cell ch1 1 rfl; have q2 := box_cell ch1 2 rfl; have q3 := box_cell ch1 3 rfl; clear hb1)
        | (go_at_call 66; refine (misSort_any N _ B s _ (H.out.chain ch1)).mono ?_; rintro e w2 ⟨rfl, hb2⟩; rw [HS.out]; have ch2 := chain ch1 hb2))
      go_ret2
      rw [eApart, if_neg (by simp [HM.out]), if_neg (by rw [HS.out]; simp)]
      exact ⟨_, rfl, own_nil _ _, below_of ch2⟩
    | true =>
      obtain ⟨k, rfl, hk⟩ : ∃ k : Nat, s = k ∧ k < B.ns := ⟨s.toNat, by simp at hs; omega, by simp at hs; omega⟩
      have HS : Hid _ := Lib.hid hs
      clear hs
      cases ht : (decide (0 ≤ t) && decide (t < (B.ns : Int))) with
      | false =>
        have HT : Hid _ := Lib.hid ht
        clear ht
        go_enter Try.func40, Try.ntmps40
        go_wp2_with (first
          | (go_at_call 62; refine (validBook_any N _ B _ (H.out.in_alloc _)).mono ?_; rintro e w1 ⟨rfl, hb1⟩; rw [HM.out]; have ch1 := chain (chain0 _ _) hb1; have q0 := box_cell ch1 0 rfl; have q1 := box_cell ch1 1 rfl; have q2 := box_cell ch1 2 rfl; have q3 := box_cell ch1 3 rfl; clear hb1)
          | (go_at_call 66; refine (misSort_any N _ B _ _ (H.out.chain (by assumption))).mono ?_; rintro e w2 ⟨rfl, hb2⟩; (first | rw [HS.out] | rw [HT.out]); have ch2 := chain (by assumption) hb2; have q0 := box_cell ch2 0 rfl; have q1 := box_cell ch2 1 rfl; have q2 := box_cell ch2 2 rfl; have q3 := box_cell ch2 3 rfl; clear hb2))
        go_ret2
        rw [eApart, if_neg (by simp [HM.out]), if_neg (by rw [HT.out]; simp)]
        exact ⟨_, rfl, own_nil _ _, below_of ch2⟩
      | true =>
        obtain ⟨j, rfl, hj⟩ : ∃ k : Nat, t = k ∧ k < B.ns := ⟨t.toNat, by simp at ht; omega, by simp at ht; omega⟩
        have HT : Hid _ := Lib.hid ht
        clear ht
        go_enter Try.func40, Try.ntmps40
        go_wp2_with (first
          | (go_at_call 62; refine (validBook_any N _ B _ (H.out.in_alloc _)).mono ?_; rintro e w1 ⟨rfl, hb1⟩; rw [HM.out]; have ch1 := chain (chain0 _ _) hb1; have q0 := box_cell ch1 0 rfl; have q1 := box_cell ch1 1 rfl; have q2 := box_cell ch1 2 rfl; have q3 := box_cell ch1 3 rfl; clear hb1)
          | (go_at_call 66; refine (misSort_any N _ B _ _ (H.out.chain (by assumption))).mono ?_; rintro e w2 ⟨rfl, hb2⟩; (first | rw [HS.out] | rw [HT.out]); have ch2 := chain (by assumption) hb2; have q0 := box_cell ch2 0 rfl; have q1 := box_cell ch2 1 rfl; have q2 := box_cell ch2 2 rfl; have q3 := box_cell ch2 3 rfl; clear hb2)
          | (go_at_call 83; refine (apart_any N _ B k j _ (H.out.chain (by assumption)) HG.out hk hj).mono ?_; rintro e w3 ⟨u, rfl, ho, hb3⟩; have ch3 := chain (by assumption) hb3; obtain ⟨_, _, rfl⟩ := ho.form))
        go_ret2
        rw [eApart, if_neg (by simp [HM.out]), if_pos ⟨HS.out, HT.out⟩]
        exact ⟨_, rfl, own_mono ho (Nat.le_of_lt (size_of ch2)), below_of ch3⟩

end Go.Proofs.Ytopajgnemeodeaa

namespace Go.Proofs.Ytopajgnemeodeaa
open Go.RowKit

def twinB (B : Bk) (s o : Nat) : Bool := decide (o ≠ s) && decide ((apartL B s o).length = 0)
def twinsL (B : Bk) (s : Nat) : List Int := sel (twinB B s) B.ns
def eTwins (B : Bk) (s : Int) : List Int × Int := if okBook B = false then ([], 10) else if (decide (0 ≤ s) && decide (s < B.ns)) = false then ([], 1) else (twinsL B s.toNat, 0)

set_option maxHeartbeats 4000000 in
theorem mTwins_any (N : Nat) (v : Value) (B : Bk) (s : Int) (w : World) (h : BookAt N w v B) :
    Calls Try.prog 42 #[v, .int .i64 s] w (GivesIE w.heap.size w (eTwins B s).1 (eTwins B s).2) := by
  have H : Hid (BookAt N w v B) := h
  obtain ⟨i0, hi, hz0, hz1, hz2⟩ := info_parts Try.infoInt
  obtain ⟨hN, a1, c1, a2, c2, a3, c3, rfl, h1, h2, h3⟩ := h
  clear h1 h2 h3
  cases hm : okBook B with
  | false =>
    have HM : Hid (okBook B = false) := Lib.hid hm
    clear hm
    go_enter Try.func42, Try.ntmps42
    go_wp2_with (go_at_call 62; refine (validBook_any N _ B _ (H.out.in_alloc _)).mono ?_; rintro e w1 ⟨rfl, hb1⟩; rw [HM.out]; have ch1 := chain (chain0 _ _) hb1; clear hb1)
    go_ret2
    rw [eTwins, if_pos HM.out]
    exact ⟨_, rfl, own_nil _ _, below_of ch1⟩
  | true =>
    have HM : Hid (okBook B = true) := Lib.hid hm
    have HG : Hid (GoodB B) := goodB_of hm
    clear hm
    cases hs : (decide (0 ≤ s) && decide (s < (B.ns : Int))) with
    | false =>
      have HS : Hid _ := Lib.hid hs
      clear hs
      go_enter Try.func42, Try.ntmps42
      go_wp2_with (first
        | (go_at_call 62; refine (validBook_any N _ B _ (H.out.in_alloc _)).mono ?_; rintro e w1 ⟨rfl, hb1⟩; rw [HM.out]; have ch1 := chain (chain0 _ _) hb1; have q0 := box_cell ch1 0 rfl; have q1 := box_cell ch1 1 rfl; have q2 := box_cell ch1 2 rfl; have q3 := box_cell ch1 3 rfl; clear hb1)
        | (go_at_call 66; refine (misSort_any N _ B s _ (H.out.chain ch1)).mono ?_; rintro e w2 ⟨rfl, hb2⟩; rw [HS.out]; have ch2 := chain ch1 hb2))
      go_ret2
      rw [eTwins, if_neg (by simp [HM.out]), if_pos HS.out]
      exact ⟨_, rfl, own_nil _ _, below_of ch2⟩
    | true =>
      obtain ⟨k, rfl, hk⟩ : ∃ k : Nat, s = k ∧ k < B.ns := ⟨s.toNat, by simp at hs; omega, by simp at hs; omega⟩
      have HS : Hid _ := Lib.hid hs
      clear hs
      have H8 := HG.out.ns
      go_enter Try.func42, Try.ntmps42
      go_wp2_with (first
        | (go_at_call 62; refine (validBook_any N _ B _ (H.out.in_alloc _)).mono ?_; rintro e w1 ⟨rfl, hb1⟩; rw [HM.out]; have ch1 := chain (chain0 _ _) hb1; have q0 := box_cell ch1 0 rfl; have q1 := box_cell ch1 1 rfl; have q2 := box_cell ch1 2 rfl; have q3 := box_cell ch1 3 rfl; clear hb1)
        | (go_at_call 66; refine (misSort_any N _ B k _ (H.out.chain ch1)).mono ?_; rintro e w2 ⟨rfl, hb2⟩; rw [HS.out]; have ch2 := chain ch1 hb2; have q0 := box_cell ch2 0 rfl; have q1 := box_cell ch2 1 rfl; have q2 := box_cell ch2 2 rfl; have q3 := box_cell ch2 3 rfl; clear hb2))
      have HCH : Hid _ := Lib.hid ch2
      clear q0 q1 q2 q3 ch1
      clear ch2
      go_loopw [6, 18] (fun u i wr => ∃ j : Nat, j ≤ B.ns ∧ i = .int .i64 j ∧ Hid (OwnI (w.heap.size + 1) wr u (sel (twinB B k) j)) ∧ Hid (Below (w.heap.size + 1) (w.alloc (.cells #[.slice a1 B.nv c1, .slice a2 B.nf c2, .slice a3 B.ns c3, .int .i64 B.wr] 25)) wr)) (fun _ i _ => B.ns - (intOf i).toNat)
      case atStart => exact ⟨0, Nat.zero_le _, rfl, World.ownsRow_nil _ _ _ _, HCH.out⟩
      case round =>
        obtain ⟨j, hj, rfl, ho, hB⟩ := hrel
        by_cases hjn : j < B.ns
        · have q0 := box_cell hB.out 0 rfl
          have q1 := box_cell hB.out 1 rfl
          have q2 := box_cell hB.out 2 rfl
          have q3 := box_cell hB.out 3 rfl
          have hsl := sel_len (twinB B k) j
          by_cases hjk : j = k
          · have hjb : ((j : Int) != (k : Int)) = false := by simp [hjk]
            have HP : Hid (sel (twinB B k) (j + 1) = sel (twinB B k) j) := sel_miss (by simp [twinB, hjk])
            clear hjk
            go_wp2
            go_roundw
            case rel => exact ⟨j + 1, by omega, by go_num, by rw [HP.out]; exact ho, hB⟩
            case measure => simp [intOf]; omega
          · have hjb : ((j : Int) != (k : Int)) = true := by simp; omega
            by_cases h0 : (apartL B k j).length = 0
            · have h0b : (((apartL B k j).length : Int) == 0) = true := by simpa using h0
              have HP : Hid (sel (twinB B k) (j + 1) = sel (twinB B k) j ++ [(j : Int)]) := sel_hit (by simp only [twinB, h0, decide_true, Bool.and_true]; simpa using hjk)
              clear hjk h0
              generalize sel (twinB B k) j = l at *
              go_wp2_with (first
                | (go_at_call 83; refine (apart_any N _ B k j _ (H.out.chain hB.out) HG.out hk hjn).mono ?_; rintro e w3 ⟨u, rfl, ho3, hb3⟩; obtain ⟨_, _, rfl⟩ := ho3.form; have hown := own_below ho.out hb3; have hE := chain hB.out hb3)
                | (at_builtin; refine wpList_append_own _ rfl _ _ 22 rfl (w.heap.size + 1) 3 i0 (.int .i64 0) 1 8 Try.underlying22 hi hz0 hz1 hz2 rfl (by decide) _ _ _ rfl (hown.alloc _) ⟨w3.heap.size, 0, none⟩ 1 1 [.int .i64 j] rfl rfl (cell_one_new _ _ _) (by simp [Value.oneCell']) (by unfold maxLen; omega) (by omega) (by have := size_of hE; simp; omega) ?_; intro v' w4 hown2 hgrow _))
              go_roundw
              case rel => exact ⟨j + 1, by omega, by go_num, by rw [HP.out]; unfold Hid OwnI; rw [List.length_append, List.map_append]; exact hown2, (chain_alloc hE _).grown hgrow (by have := size_of hE; simp; omega) (fun j e => (hown.lt j e).1)⟩
              case measure => simp [intOf]; omega
            · have h0b : (((apartL B k j).length : Int) == 0) = false := by simpa using h0
              have HP : Hid (sel (twinB B k) (j + 1) = sel (twinB B k) j) := sel_miss (by simp [twinB, h0])
              clear hjk h0
              generalize sel (twinB B k) j = l at *
              go_wp2_with (first
                | (go_at_call 83; refine (apart_any N _ B k j _ (H.out.chain hB.out) HG.out hk hjn).mono ?_; rintro e w3 ⟨u, rfl, ho3, hb3⟩; obtain ⟨_, _, rfl⟩ := ho3.form; have HO : Hid _ := Lib.hid (own_below ho.out hb3); have hE := chain hB.out hb3))
              go_roundw
              case rel => exact ⟨j + 1, by omega, by go_num, by rw [HP.out]; exact HO.out, hE⟩
              case measure => simp [intOf]; omega
        · have Hj : Hid (j = B.ns) := by show j = _; omega
          go_wp2
          go_ret2
          rw [eTwins, if_neg (by simp [HM.out]), if_neg (by rw [HS.out]; simp)]
          exact ⟨_, rfl, by show OwnI _ _ _ (twinsL B k); unfold twinsL; rw [← Hj.out]; exact own_mono ho.out (by omega), below_of hB.out⟩

end Go.Proofs.Ytopajgnemeodeaa
