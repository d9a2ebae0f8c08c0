/-
  ShortR2: short of the reference, its walk.
-/
import Derived.Test.YtghimbggbgcgkaaShortR
namespace Go.Proofs.Ytghimbggbgcgkaa
open Go.RowKit

set_option maxHeartbeats 8000000 in
set_option maxRecDepth 100000 in
theorem rshort_step (B : KB) (hG : GoodB B) (f : Nat) (hrec : ∀ g, f = g + 1 → SaysRS B g) : SaysRS B f := by
  intro c N M a v u w hc hfr h hM hz ha hbits
  obtain ⟨i1, hi1, hz1, hz2, hz3⟩ := info_parts Try.infoInts
  have hne := cubeF_ne hG hc
  have hlen := cubeF_len hG c
  have hgood : Hid (∀ z, z ∈ cubeF B c → z.length = B.nv ∧ GoodX B.nv B.V B.nv (atL z)) := fun z hz => cubeF_good hz
  obtain ⟨zs, hzs⟩ : ∃ zs, cubeF B c = zs := ⟨_, rfl⟩
  have HZS := Lib.hid hzs
  rw [hzs] at hz hne hlen hgood
  obtain ⟨n, hn⟩ : ∃ n, zs.length = n := ⟨_, rfl⟩
  have HN := Lib.hid hn
  have hn0 : 0 < n := by rw [← hn]; exact List.length_pos_iff.2 hne
  rw [hn] at hlen
  obtain ⟨au, cu, rfl, _, _⟩ := id hz
  have h' := h
  obtain ⟨_, a1, z1, a2, z2, a3, z3, rfl, _⟩ := h'
  obtain ⟨ws, hws, HB, hsz, hblk⟩ := box1 w (.cells #[.slice a1 B.nv z1, .slice a2 B.ns z2, .slice a3 B.D.n z3] 26)
  have q0 := cell_blk hblk 0 rfl
  have q1 := cell_blk hblk 1 rfl
  have q2 := cell_blk hblk 2 rfl
  have HBK := Lib.hid (h.go HB.out)
  have HB0 : Hid (Below ws.heap.size ws ws) := Below.refl _ _
  have HNS : Hid (N ≤ ws.heap.size) := HBK.out.1
  have hlens := h.lens
  obtain ⟨hlv, hls, hln⟩ := hlens
  clear hblk h
  have hMs : M ≤ ws.heap.size := Nat.le_trans hM HB.out.size
  obtain ⟨bu, ou, rfl, hbu, hcu⟩ := (RowsAt.mono hz (HB.out.mono hM) (Nat.le_refl _)).cells (by rw [hn]; exact hn0)
  rw [hn]
  have HR : Hid (∀ (i : Nat) (z : List Int), zs[i]? = some z → ∃ ai ci, ws.cell? ⟨bu, ou + i, none⟩ = some (.slice ai B.nv ci) ∧ GoodX B.nv B.V B.nv (atL z) ∧ ∀ wk : World, Below ws.heap.size ws wk → IntsAt ws.heap.size wk (.slice ai B.nv ci) B.nv (atL z)) := fun i z hz => by
    have hi := (List.getElem?_eq_some_iff.1 hz).1
    obtain ⟨ai, ci, h1, h2⟩ := hcu i hi
    have e : zs.getD i [] = z := by simp [List.getD, hz]
    rw [e] at h2
    exact ⟨ai, ci, h1, (hgood.out z (List.mem_of_getElem? hz)).2, fun wk hb => h2.mono (hb.mono hMs) hMs⟩
  have hbus : bu < ws.heap.size := Nat.lt_of_lt_of_le hbu hMs
  have HNK : Hid (∀ wk : World, Below ws.heap.size ws wk → NodesAt ws.heap.size wk (.slice a3 B.D.n z3) B.D) := fun wk hb => (HBK.out.nodes.mono (hb.mono HNS.out) HNS.out)
  have HG := Lib.hid hG
  have HC := Lib.hid hc
  have HREC := Lib.hid hrec
  have HBITS := Lib.hid hbits
  have hnn := hG.nn
  have hnv5 := hG.nv
  have hnv1 := hG.nv1
  obtain ⟨z0, hz0⟩ : ∃ z, zs[0]? = some z := ⟨_, List.getElem?_eq_getElem (by rw [hn]; exact hn0)⟩
  obtain ⟨a0, c0, hc0, hg0, hk0⟩ := HR.out 0 z0 hz0
  have hc0' : ws.cell? ⟨bu, ou, none⟩ = some (.slice a0 B.nv c0) := hc0
  have HG0 := Lib.hid hg0
  have HK0 := Lib.hid hk0
  have HZ0 := Lib.hid hz0
  have hn0i : (0 : Int) < (n : Int) := by omega
  obtain ⟨e0, he0⟩ : ∃ e, endZ B z0 = e := ⟨_, rfl⟩
  have HE0 : Hid (endOf B.D (atL z0) = e0) := he0
  clear hG hc hrec hbits hzs hne hcu hz hn hc0 hg0 hk0 hz0
  obtain ⟨b1, o1, rfl, hb1, hv1⟩ := HBK.out.vals.cells (by omega)
  have HV1 := Lib.hid hv1
  have hw1 : IntKind.i64.wrap ((B.nv : Int) + 1) = (B.nv : Int) + 1 := IntWalk.i64_in _ (by omega)
  have hb1s : b1 < ws.heap.size := Nat.lt_of_lt_of_le hb1 HNS.out
  clear hv1
  go_enter Try.func95, Try.ntmps95
  go_wp2
  (try rw [hws])
  clear hws
  go_loopw [7, 8] (fun s i wr => ∃ k : Nat, k ≤ n ∧ i = .int .i64 k ∧ s = .bool (firstS B zs z0 k) ∧ Hid (Below ws.heap.size ws wr)) (fun _ i _ => n - (intOf i).toNat)
  case atStart => exact ⟨0, Nat.zero_le _, rfl, by rw [firstS_zero], HB0⟩
  case round =>
  obtain ⟨k, hk, rfl, rfl, HBr⟩ := hrel
  by_cases hkn : k < n
  · have hki : (k : Int) < (n : Int) := by omega
    obtain ⟨z, hz⟩ : ∃ z, zs[k]? = some z := ⟨_, List.getElem?_eq_getElem (by rw [HN.out]; exact hkn)⟩
    obtain ⟨ak, ck, hck, hgk, hkk⟩ := HR.out k z hz
    have HGK := Lib.hid hgk
    have HKK := Lib.hid hkk
    have HKN := Lib.hid hkn
    have HS := Lib.hid (firstS_succ (B := B) (z0 := z0) hz)
    obtain ⟨e1, he1⟩ : ∃ e, endZ B z = e := ⟨_, rfl⟩
    have HE1 : Hid (endOf B.D (atL z) = e1) := he1
    rw [he0, he1] at HS
    clear hgk hkk hkn hz he1 hk
    cases hsb : firstS B zs z0 k with
    | false =>
      rw [hsb] at HS
      have HS1 : Hid (firstS B zs z0 (k + 1) = false) := HS.out
      clear HS hsb
      have HBrd := Lib.hid HBr.out.drew
      go_wp2
      go_region
      go_wp2
      go_roundw
      case rel => first | exact ⟨k + 1, HKN.out, by go_num, by rw [HS1.out], HBrd⟩ | exact ⟨k + 1, HKN.out, by go_num, by rw [HS1.out]⟩
      case measure => simp [intOf]; have := HKN.out; omega
    | true =>
      rw [hsb] at HS
      have HS1 : Hid (firstS B zs z0 (k + 1) = (e1 == e0)) := by unfold Hid; rw [HS.out, Bool.true_and, Bool.eq_iff_iff]; simp
      clear HS hsb
      have HIK : Hid (∀ wk : World, Below wr.heap.size wr wk → IntsAt wr.heap.size wk (.slice ak B.nv ck) B.nv (atL z) ∧ IntsAt wr.heap.size wk (.slice a0 B.nv c0) B.nv (atL z0) ∧ NodesAt wr.heap.size wk (.slice a3 B.D.n z3) B.D) := fun wk hb =>
        ⟨((HKK.out wr HBr.out).mono (hb.mono HBr.out.size) HBr.out.size), ((HK0.out wr HBr.out).mono (hb.mono HBr.out.size) HBr.out.size), ((HNK.out wr HBr.out).mono (hb.mono HBr.out.size) HBr.out.size)⟩
      have cr := (old_of HBr.out).1
      have hckr := (cr _ _ hbus).trans hck
      have hc0r := (cr _ _ hbus).trans hc0'
      have q2r := (cr _ 2 hsz).trans q2
      have hwr : w.heap.size < wr.heap.size := Nat.lt_of_lt_of_le hsz HBr.out.size
      have hbr : bu < wr.heap.size := Nat.lt_of_lt_of_le hbus HBr.out.size
      have HBy : Hid (Below wr.heap.size wr wr) := Below.refl _ _
      clear cr
      have Syd := old_of HBy.out.drew; have HByd := Syd.2
      go_upto_region 5 with fail
      refine wp_region_held_drew (S := (fun w' => (∀ b o, b < wr.heap.size → w'.cell? ⟨b, o, none⟩ = wr.cell? ⟨b, o, none⟩) ∧ Hid (Below wr.heap.size wr w'))) (by kernel_rfl) Syd (fun hHeld => ?_)
      (refine wpAnyH_take (i := 0) (v := ?_) rfl (by kernel_rfl) (by kernel_rfl) (by kernel_rfl) (fun _ _ _ h => h) (Or.inl ⟨by rfl, ?_⟩) (by assumption) ?_; rotate_left; (focus (intro w hSw; (try dsimp only at hSw); go_simp; (try with_reducible rfl))); (try simp only [List.getElem_toArray, List.getElem_cons_zero, List.getElem_cons_succ, Act.put, List.setIfInBounds_toArray, List.set_cons_zero, List.set_cons_succ])); (refine wpAnyH_take (i := 1) (v := ?_) rfl (by kernel_rfl) (by kernel_rfl) (by kernel_rfl) (fun _ _ _ h => h) (Or.inl ⟨by rfl, ?_⟩) (by assumption) ?_; rotate_left; (focus (intro w hSw; (try dsimp only at hSw); go_simp; (try with_reducible rfl))); (try simp only [List.getElem_toArray, List.getElem_cons_zero, List.getElem_cons_succ, Act.put, List.setIfInBounds_toArray, List.set_cons_zero, List.set_cons_succ])); (refine wpAnyH_take (i := 2) (v := ?_) rfl (by kernel_rfl) (by kernel_rfl) (by kernel_rfl) (fun _ _ _ h => h) (Or.inl ⟨by rfl, ?_⟩) (by assumption) ?_; rotate_left; (focus (intro w hSw; (try dsimp only at hSw); go_simp; (try with_reducible rfl))); (try simp only [List.getElem_toArray, List.getElem_cons_zero, List.getElem_cons_succ, Act.put, List.setIfInBounds_toArray, List.set_cons_zero, List.set_cons_succ])); (refine wpAnyH_take (i := 3) (v := ?_) rfl (by kernel_rfl) (by kernel_rfl) (by kernel_rfl) (fun _ _ _ h => h) (Or.inl ⟨by rfl, ?_⟩) (by assumption) ?_; rotate_left; (focus (intro w hSw; (try dsimp only at hSw); go_simp; (try with_reducible rfl))); (try simp only [List.getElem_toArray, List.getElem_cons_zero, List.getElem_cons_succ, Act.put, List.setIfInBounds_toArray, List.set_cons_zero, List.set_cons_succ])); (refine wpAnyH_take (i := 4) (v := ?_) rfl (by kernel_rfl) (by kernel_rfl) (by kernel_rfl) (fun _ _ _ h => h) (Or.inl ⟨by rfl, ?_⟩) (by assumption) ?_; rotate_left; (focus (intro w hSw; (try dsimp only at hSw); go_simp; (try with_reducible rfl))); (try simp only [List.getElem_toArray, List.getElem_cons_zero, List.getElem_cons_succ, Act.put, List.setIfInBounds_toArray, List.set_cons_zero, List.set_cons_succ])); (refine wpAnyH_take (i := 5) (v := ?_) rfl (by kernel_rfl) (by kernel_rfl) (by kernel_rfl) (fun _ _ _ h => h) (Or.inl ⟨by rfl, ?_⟩) (by assumption) ?_; rotate_left; (focus (intro w hSw; (try dsimp only at hSw); go_simp; (try with_reducible rfl))); (try simp only [List.getElem_toArray, List.getElem_cons_zero, List.getElem_cons_succ, Act.put, List.setIfInBounds_toArray, List.set_cons_zero, List.set_cons_succ])); (refine wpAnyH_take (i := 6) (v := ?_) rfl (by kernel_rfl) (by kernel_rfl) (by kernel_rfl) (fun _ _ _ h => h) (Or.inl ⟨by rfl, ?_⟩) (by assumption) ?_; rotate_left; (focus (intro w hSw; (try dsimp only at hSw); go_simp; (try with_reducible rfl))); (try simp only [List.getElem_toArray, List.getElem_cons_zero, List.getElem_cons_succ, Act.put, List.setIfInBounds_toArray, List.set_cons_zero, List.set_cons_succ])); (refine wpAnyH_take (i := 7) (v := ?_) rfl (by kernel_rfl) (by kernel_rfl) (by kernel_rfl) (fun _ _ _ h => h) (Or.inl ⟨by rfl, ?_⟩) (by assumption) ?_; rotate_left; (focus (intro w hSw; (try dsimp only at hSw); go_simp; (try with_reducible rfl))); (try simp only [List.getElem_toArray, List.getElem_cons_zero, List.getElem_cons_succ, Act.put, List.setIfInBounds_toArray, List.set_cons_zero, List.set_cons_succ]))
      (refine wpAnyH_take (i := 9) (v := ?_) rfl (by kernel_rfl) (by kernel_rfl) (by kernel_rfl) (fun _ _ _ h => h) (Or.inl ⟨by rfl, ?_⟩) (by assumption) ?_; rotate_left; (focus (intro w hSw; (try dsimp only at hSw); go_simp; (try with_reducible rfl))); (try simp only [List.getElem_toArray, List.getElem_cons_zero, List.getElem_cons_succ, Act.put, List.setIfInBounds_toArray, List.set_cons_zero, List.set_cons_succ])); (refine wpAnyH_take (i := 10) (v := ?_) rfl (by kernel_rfl) (by kernel_rfl) (by kernel_rfl) (fun _ _ _ h => h) (Or.inl ⟨by rfl, ?_⟩) (by assumption) ?_; rotate_left; (focus (intro w hSw; (try dsimp only at hSw); go_simp; (try with_reducible rfl))); (try simp only [List.getElem_toArray, List.getElem_cons_zero, List.getElem_cons_succ, Act.put, List.setIfInBounds_toArray, List.set_cons_zero, List.set_cons_succ])); (refine wpAnyH_take (i := 11) (v := ?_) rfl (by kernel_rfl) (by kernel_rfl) (by kernel_rfl) (fun _ _ _ h => h) (Or.inl ⟨by rfl, ?_⟩) (by assumption) ?_; rotate_left; (focus (intro w hSw; (try dsimp only at hSw); go_simp; (try with_reducible rfl))); (try simp only [List.getElem_toArray, List.getElem_cons_zero, List.getElem_cons_succ, Act.put, List.setIfInBounds_toArray, List.set_cons_zero, List.set_cons_succ])); (refine wpAnyH_take (i := 12) (v := ?_) rfl (by kernel_rfl) (by kernel_rfl) (by kernel_rfl) (fun _ _ _ h => h) (Or.inl ⟨by rfl, ?_⟩) (by assumption) ?_; rotate_left; (focus (intro w hSw; (try dsimp only at hSw); go_simp; (try with_reducible rfl))); (try simp only [List.getElem_toArray, List.getElem_cons_zero, List.getElem_cons_succ, Act.put, List.setIfInBounds_toArray, List.set_cons_zero, List.set_cons_succ])); (refine wpAnyH_take (i := 13) (v := ?_) rfl (by kernel_rfl) (by kernel_rfl) (by kernel_rfl) (fun _ _ _ h => h) (Or.inl ⟨by rfl, ?_⟩) (by assumption) ?_; rotate_left; (focus (intro w hSw; (try dsimp only at hSw); go_simp; (try with_reducible rfl))); (try simp only [List.getElem_toArray, List.getElem_cons_zero, List.getElem_cons_succ, Act.put, List.setIfInBounds_toArray, List.set_cons_zero, List.set_cons_succ]))
      refine wpAnyH_ready (rs := [8]) (by kernel_rfl) (by simp) ?_; refine AllReadyH.cons rfl (fun K hK => ?_) AllReadyH.nil; go_simp
      go_at_call 25
      refine (endOf_any wr.heap.size _ _ B.D B.nv B.V B.ns B.nv (atL z) _ (HIK.out _ HByd.out).2.2 (HIK.out _ HByd.out).1 HByd.out.size HG.out.D HGK.out (by omega)).mono ?_; rw [HE1.out]; rintro e w6 ⟨rfl, hb6⟩; have S6 := old_of (bel HByd.out hb6); have HB6 := S6.2; clear hb6
      refine hK.out _ _ S6 (fun hHeld => ?_); clear hK K; (try simp only [List.getElem_toArray, List.getElem_cons_zero, List.getElem_cons_succ, Act.put, List.setIfInBounds_toArray, List.set_cons_zero, List.set_cons_succ])
      refine wpAnyH_ready (rs := [14]) (by kernel_rfl) (by simp) ?_; refine AllReadyH.cons rfl (fun K hK => ?_) AllReadyH.nil; go_simp
      go_at_call 25
      refine (endOf_any wr.heap.size _ _ B.D B.nv B.V B.ns B.nv (atL z0) _ (HIK.out _ HB6.out).2.2 (HIK.out _ HB6.out).2.1 HB6.out.size HG.out.D HG0.out (by omega)).mono ?_; rw [HE0.out]; rintro e w7 ⟨rfl, hb7⟩; have S7 := old_of (bel HB6.out hb7); have HB7 := S7.2; clear hb7
      refine hK.out _ _ S7 (fun hHeld => ?_); clear hK K; (try simp only [List.getElem_toArray, List.getElem_cons_zero, List.getElem_cons_succ, Act.put, List.setIfInBounds_toArray, List.set_cons_zero, List.set_cons_succ])
      (refine wpAnyH_take (i := 15) (v := ?_) rfl (by kernel_rfl) (by kernel_rfl) (by kernel_rfl) (fun _ _ _ h => h) (Or.inl ⟨by rfl, ?_⟩) (by assumption) ?_; rotate_left; (focus (intro w hSw; (try dsimp only at hSw); go_simp; (try with_reducible rfl))); (try simp only [List.getElem_toArray, List.getElem_cons_zero, List.getElem_cons_succ, Act.put, List.setIfInBounds_toArray, List.set_cons_zero, List.set_cons_succ])); (refine wpAnyH_take (i := 16) (v := ?_) rfl (by kernel_rfl) (by kernel_rfl) (by kernel_rfl) (fun _ _ _ h => h) (Or.inl ⟨by rfl, ?_⟩) (by assumption) ?_; rotate_left; (focus (intro w hSw; (try dsimp only at hSw); go_simp; (try with_reducible rfl))); (try simp only [List.getElem_toArray, List.getElem_cons_zero, List.getElem_cons_succ, Act.put, List.setIfInBounds_toArray, List.set_cons_zero, List.set_cons_succ])); (refine wpAnyH_take (i := 17) (v := ?_) rfl (by kernel_rfl) (by kernel_rfl) (by kernel_rfl) (fun _ _ _ h => h) (Or.inl ⟨by rfl, ?_⟩) (by assumption) ?_; rotate_left; (focus (intro w hSw; (try dsimp only at hSw); go_simp; (try with_reducible rfl))); (try simp only [List.getElem_toArray, List.getElem_cons_zero, List.getElem_cons_succ, Act.put, List.setIfInBounds_toArray, List.set_cons_zero, List.set_cons_succ]))
      refine wpAnyH_done (by kernel_rfl) ?_ _; clear hHeld
      clear S6 S7 Syd
      have HBn : Hid (Below ws.heap.size ws w7) := Lib.hid (bel HBr.out HB7.out)
      go_wp2
      go_roundw
      case rel => first | exact ⟨k + 1, HKN.out, by go_num, by rw [HS1.out], HBn⟩ | exact ⟨k + 1, HKN.out, by go_num, by rw [HS1.out]⟩
      case measure => simp [intOf]; have := HKN.out; omega
  · have hki : ¬ (k : Int) < (n : Int) := by omega
    have hke : k = n := by omega
    subst hke
    have hall : firstS B zs z0 k = sameZ B zs := by rw [← HN.out]; exact firstS_all HZ0.out
    rw [hall]
    cases hsm : sameZ B zs with
    | true =>
      have HCC : Hid (costC B f c = 0) := by
        unfold Hid
        cases f with
        | zero => rfl
        | succ g => simp only [costC]; rw [HZS.out, hsm, if_pos rfl]
      clear hsm hall
      go_wp2
      go_ret
      exact ⟨by rw [HCC.out]; rfl, fin HB.out HBr.out⟩
    | false =>
      obtain ⟨g, rfl⟩ : ∃ g, f = g + 1 := by
        cases f with
        | zero => exact absurd (same_full (B := B) (c := c) (by omega)) (by rw [HZS.out, hsm]; simp)
        | succ g => exact ⟨g, rfl⟩
      have HCC : Hid (costC B (g + 1) c = bestM B (costC B g) c B.nv) := by unfold Hid; simp only [costC]; rw [HZS.out, hsm, if_neg (by simp)]
      have HRC := Lib.hid (HREC.out g rfl)
      clear hsm hall
      obtain ⟨K, hK⟩ : ∃ K, costC B g = K := ⟨_, rfl⟩
      have HKE := Lib.hid hK
      rw [hK] at HCC
      have cr := (old_of HBr.out).1
      clear hK
      go_wp2
      go_loopw [9, 10] (fun t i wr => ∃ m : Nat, m ≤ B.nv ∧ i = .int .i64 m ∧ t = .int .i64 (bestM B K c m) ∧ Hid (Below ws.heap.size ws wr)) (fun _ i _ => B.nv - (intOf i).toNat)
      case atStart => exact ⟨0, Nat.zero_le _, rfl, rfl, HBr⟩
      case round =>
      clear HBr cr
      obtain ⟨m, hm, rfl, rfl, HBm⟩ := hrel
      have cm := (old_of HBm.out).1
      by_cases hmn : m < B.nv
      · have hmi : (m : Int) < (B.nv : Int) := by omega
        have hbit := has_bitsI ⟨a, by omega⟩ ⟨m, by omega⟩
        simp only at hbit
        rw [HBITS.out m hmn] at hbit
        have hmin : min m 64 = m := by omega
        have hm0 : ¬ (m : Int) < 0 := by omega
        have HMN := Lib.hid hmn
        by_cases hcm : c m = -1
        · have hbit0 : (bits BinOp.and IntKind.i64 ((a : Int) / 2 ^ m) 1 == 1) = false := by rw [hbit]; simp [hcm]
          have HCM := Lib.hid hcm
          obtain ⟨b0, hb0⟩ : ∃ z, bestM B K c m = z := ⟨_, rfl⟩
          have HBEST : Hid (bestM B K c (m + 1) = min b0 (costM B K c m)) := by unfold Hid; simp only [bestM]; rw [if_pos hcm, hb0]
          rw [hb0]
          obtain ⟨q, hq⟩ : ∃ q, (B.V m).toNat = q := ⟨_, rfl⟩
          have hV := HG.out.V m hmn
          have hVq : B.V m = (q : Int) := by omega
          have HVQ := Lib.hid hVq
          have hvc := HV1.out m hmn
          rw [hVq] at hvc
          have hq3 : q ≤ 3 := by omega
          clear hbit hcm hb0 hq hV hVq hmn hm
          go_wp2
          go_loopw [11, 12] (fun t i wr => ∃ v : Nat, v ≤ q ∧ i = .int .i64 v ∧ t = .int .i64 (worstTo (fun v : Nat => K (upd c m (v : Int))) v) ∧ Hid (Below ws.heap.size ws wr)) (fun _ i _ => q - (intOf i).toNat)
          case atStart => exact ⟨0, Nat.zero_le _, rfl, rfl, HBm⟩
          case round =>
          clear HBm cm
          obtain ⟨v, hv, rfl, rfl, HBv⟩ := hrel
          have cv := (old_of HBv.out).1
          by_cases hvq : v < q
          · have hvi : (v : Int) < (q : Int) := by omega
            have HVQ2 := Lib.hid hvq
            have HCV : Hid (CubeOk B (upd c m (v : Int))) := HC.out.part HMN.out (by rw [HVQ.out]; exact hvi)
            have HFV : Hid (freeC B (upd c m (v : Int)) ≤ g) := by have := freeC_part (B := B) (v := v) HMN.out HCM.out; unfold Hid; omega
            obtain ⟨W0, hW0⟩ : ∃ z, worstTo (fun v : Nat => K (upd c m (v : Int))) v = z := ⟨_, rfl⟩
            obtain ⟨kx, hkx⟩ : ∃ z, K (upd c m (v : Int)) = z := ⟨_, rfl⟩
            obtain ⟨W1, hW1⟩ : ∃ z, worstTo (fun v : Nat => K (upd c m (v : Int))) (v + 1) = z := ⟨_, rfl⟩
            have HW1 := Lib.hid hW1
            have HKX : Hid (costC B g (upd c m (v : Int)) = kx) := by unfold Hid; rw [HKE.out]; exact hkx
            have hW01 : W1 = max W0 (kx + 1) := by rw [← hW1, ← hW0, ← hkx]; rfl
            have hkb : 0 ≤ kx ∧ kx ≤ 5 := by
              have h1 := costC_bd g (upd c m (v : Int)) HFV.out
              have h2 := freeC_le B (upd c m (v : Int))
              rw [HKX.out] at h1
              omega
            have hwk : IntKind.i64.wrap (1 + kx) = 1 + kx := IntWalk.i64_in _ (by omega)
            have hmaxr : ∀ (a : Array TypeId) (b : TypeId) (W : World), (Builtin.max_ a b #[.int .i64 W0, .int .i64 (1 + kx)]).run Try.prog W = .ok (.int .i64 W1) W := fun a b W => by
              rw [run_max_int2]
              congr 2
              rw [hW01]
              split <;> omega
            rw [hW0]
            obtain ⟨Rv, hRv⟩ : ∃ R : Nat → Value, R = fun j => (ws.cell? ⟨bu, ou + j, none⟩).getD (.slice none 0 0) := ⟨_, rfl⟩
            have HRV : Hid (∀ j val, ws.cell? ⟨bu, ou + j, none⟩ = some val → Rv j = val) := fun j val h => by rw [hRv]; simp only [h, Option.getD_some]
            obtain ⟨w3, hw3⟩ : ∃ w3, w3 = wr := ⟨_, rfl⟩
            subst hw3
            have HB33 : Hid (Below w3.heap.size w3 w3) := Below.refl _ _
            have hs3 := HBv.out.size
            clear hvq hv hW0 hkx hW1 hW01 hRv
            go_wp2
            go_loopw [13, 14] (fun t i wr => ∃ j : Nat, j ≤ k ∧ i = .int .i64 j ∧ Hid (wr.ownsRow w3.heap.size 22 1 t (idxF zs m (v : Int) j).length ((idxF zs m (v : Int) j).map Rv)) ∧ Hid (Below w3.heap.size w3 wr)) (fun _ i _ => k - (intOf i).toNat)
            case atStart => exact ⟨0, Nat.zero_le _, rfl, World.ownsRow_nil _ _ _ _, HB33⟩
            case round =>
            clear cv
            obtain ⟨j, hj, rfl, HOj, HBj⟩ := hrel
            have HBw := Lib.hid (bel HBv.out HBj.out)
            have cw := (old_of HBw.out).1
            by_cases hjk : j < k
            · have hji : (j : Int) < (k : Int) := by omega
              obtain ⟨z, hz⟩ : ∃ z, zs[j]? = some z := ⟨_, List.getElem?_eq_getElem (by rw [HN.out]; exact hjk)⟩
              obtain ⟨aj, cj, hcj, _, hkj⟩ := HR.out j z hz
              obtain ⟨bj, oj, rfl, hbj, hcc⟩ := (hkj wr HBw.out).cells (by have := HMN.out; omega)
              have hzm := hcc m HMN.out
              have hRj := HRV.out j _ hcj
              have hzd : zs.getD j [] = z := by simp [List.getD, hz]
              have HJK := Lib.hid hjk
              have hlen := idxF_len zs m (v : Int) j
              by_cases hzv : atL z m = (v : Int)
              · have HIX := Lib.hid (idxF_hit (zs := zs) (m := m) (v := (v : Int)) (j := j) (by rw [hzd]; exact hzv))
                have hzb : (atL z m == (v : Int)) = true := by simp [hzv]
                have HRJ := Lib.hid hRj
                have hown := HOj.out
                obtain ⟨li, hli⟩ : ∃ l, idxF zs m (v : Int) j = l := ⟨_, rfl⟩
                rw [hli] at HIX hown hlen
                clear hkj hcc hz hzv hRj hzd hjk hj hli HOj hbj
                go_wp2_with (at_builtin; go_must (refine wpList_append_own _ rfl _ _ 23 rfl w3.heap.size 22 i1 (.slice none 0 0) 1 24 Try.underlying23 hi1 hz1 hz2 hz3 rfl (by decide) _ _ _ rfl (hown.alloc _) ⟨wr.heap.size, 0, none⟩ 1 1 [.slice (some ⟨bj, oj, none⟩) B.nv cj] rfl rfl (cell_one_new _ _ _) (by simp [Value.oneCell']) (by unfold maxLen; omega) (by omega) (by simp; have := HBj.out.size; omega) ?_; intro v' w5 hown5 hgrow _))
                have HO5 : Hid (w5.ownsRow w3.heap.size 22 1 v' (idxF zs m (v : Int) (j + 1)).length ((idxF zs m (v : Int) (j + 1)).map Rv)) := by
                  rw [HIX.out]; unfold Hid; rw [List.length_append, List.map_append]
                  simp only [List.map_cons, List.map_nil, List.length_singleton]
                  rw [HRJ.out]; exact hown5
                have HB5 : Hid (Below w3.heap.size w3 w5) := Lib.hid (Below.grown (Below.alloc HBj.out (Nat.le_trans (Nat.le_refl _) HBj.out.size) _) hgrow (by have := HBj.out.size; simp; omega) (fun i e => (hown.lt i e).1))
                go_roundw
                case rel => first | exact ⟨j + 1, HJK.out, by go_num, HO5, HB5⟩ | exact ⟨j + 1, HJK.out, by go_num⟩
                case measure => simp [intOf]; have := HJK.out; omega
              · have HIX := Lib.hid (idxF_miss (zs := zs) (m := m) (v := (v : Int)) (j := j) (by rw [hzd]; exact hzv))
                have hzb : (atL z m == (v : Int)) = false := by simp [hzv]
                have HO5 : Hid (wr.ownsRow w3.heap.size 22 1 u13 (idxF zs m (v : Int) (j + 1)).length ((idxF zs m (v : Int) (j + 1)).map Rv)) := by rw [HIX.out]; exact HOj
                clear hkj hcc hz hzv hRj hzd hjk hj HOj hbj HIX
                go_wp2
                go_roundw
                case rel => first | exact ⟨j + 1, HJK.out, by go_num, HO5, HBj⟩ | exact ⟨j + 1, HJK.out, by go_num⟩
                case measure => simp [intOf]; have := HJK.out; omega
            · have hji : ¬ (j : Int) < (k : Int) := by omega
              have hje : j = k := by omega
              subst hje
              have hlenI := idxF_len zs m (v : Int) j
              have hOJ := HOj.out
              obtain ⟨aS, cS, rfl⟩ := rows_slice hOJ
              have hfil : (idxF zs m (v : Int) j).map (fun i => zs.getD i []) = cubeF B (upd c m (v : Int)) := by
                rw [← HN.out, idxF_all, ← HZS.out]
                exact cubeF_part HMN.out HCM.out v
              have HZV : Hid (ZsAt wr.heap.size wr (.slice aS (idxF zs m (v : Int) j).length cS) B.nv (cubeF B (upd c m (v : Int)))) := by
                have h1 := own_rows (w4 := ws) (vals := (idxF zs m (v : Int) j).map Rv) (L := fun _ => B.nv) (X := fun i => atL (((idxF zs m (v : Int) j).map (fun i => zs.getD i [])).getD i [])) (by rw [List.length_map]; exact hOJ) (fun jj u hu => by
                  rw [List.getElem?_map, Option.map_eq_some_iff] at hu
                  obtain ⟨i, hi, rfl⟩ := hu
                  have hij := idxF_lt (List.mem_of_getElem? hi)
                  obtain ⟨z, hz⟩ : ∃ z, zs[i]? = some z := ⟨_, List.getElem?_eq_getElem (by rw [HN.out]; exact hij)⟩
                  obtain ⟨aj, cj, hcj, _, hkj⟩ := HR.out i z hz
                  rw [HRV.out i _ hcj]
                  have e : ((idxF zs m (v : Int) j).map (fun i => zs.getD i [])).getD jj [] = z := by
                    simp only [List.getD, List.getElem?_map, hi, Option.map_some, Option.getD_some, hz]
                  rw [e]
                  exact hkj ws (Below.refl _ _)) HBw.out (by rw [List.length_map]; omega)
                rw [List.length_map] at h1
                unfold Hid ZsAt
                rw [← hfil, List.length_map]
                exact h1
              obtain ⟨li, hli⟩ : ∃ l, (idxF zs m (v : Int) j).length = l := ⟨_, rfl⟩
              rw [hli] at HZV ⊢
              have hor := orI_bits ⟨a, ha⟩ ⟨m, by have := HMN.out; omega⟩
              have hp32 := put1_lt32 ⟨a, ha⟩ ⟨m, by have := HMN.out; omega⟩
              simp only at hor hp32
              have HBI : Hid (∀ i, i < B.nv → (put1 a m).testBit i = !decide (upd c m (v : Int) i = -1)) := fun i hi => by
                rw [put1_bit, HBITS.out i hi]
                by_cases e : i = m
                · subst e
                  have e1 : upd c i (v : Int) i = (v : Int) := upd_same _ _ _
                  rw [e1]
                  have : ¬ ((v : Int) = -1) := by omega
                  simp [this]
                · have e1 : upd c m (v : Int) i = c i := upd_other _ _ e
                  rw [e1]
                  have : ¬ (m = i) := fun h => e h.symm
                  simp [this]
              obtain ⟨a2, ha2⟩ : ∃ z, put1 a m = z := ⟨_, rfl⟩
              rw [ha2] at hor hp32 HBI
              have HP32 := Lib.hid hp32
              have HZD : Hid (ZsAt wr.heap.size wr.drew (.slice aS li cS) B.nv (cubeF B (upd c m (v : Int)))) := RowsAt.mono HZV.out (Below.refl _ _).drew (Nat.le_refl _)
              clear hlenI hOJ hfil hli ha2 hp32 HOj hji hj
              have Swd := old_of HBw.out.drew; have HBwd := Swd.2
              go_upto_region 23 with fail
              refine wp_region_held_drew (S := (fun w' => (∀ b o, b < ws.heap.size → w'.cell? ⟨b, o, none⟩ = ws.cell? ⟨b, o, none⟩) ∧ Hid (Below ws.heap.size ws w'))) (by kernel_rfl) Swd (fun hHeld => ?_)
              (refine wpAnyH_take (i := 0) (v := ?_) rfl (by kernel_rfl) (by kernel_rfl) (by kernel_rfl) (fun _ _ _ h => h) (Or.inl ⟨by rfl, ?_⟩) (by assumption) ?_; rotate_left; (focus (intro w hSw; (try dsimp only at hSw); go_simp; (try with_reducible rfl))); (try simp only [List.getElem_toArray, List.getElem_cons_zero, List.getElem_cons_succ, Act.put, List.setIfInBounds_toArray, List.set_cons_zero, List.set_cons_succ])); (refine wpAnyH_take (i := 1) (v := ?_) rfl (by kernel_rfl) (by kernel_rfl) (by kernel_rfl) (fun _ _ _ h => h) (Or.inl ⟨by rfl, ?_⟩) (by assumption) ?_; rotate_left; (focus (intro w hSw; (try dsimp only at hSw); go_simp; (try with_reducible rfl))); (try simp only [List.getElem_toArray, List.getElem_cons_zero, List.getElem_cons_succ, Act.put, List.setIfInBounds_toArray, List.set_cons_zero, List.set_cons_succ])); (refine wpAnyH_take (i := 2) (v := ?_) rfl (by kernel_rfl) (by kernel_rfl) (by kernel_rfl) (fun _ _ _ h => h) (Or.inl ⟨by rfl, ?_⟩) (by assumption) ?_; rotate_left; (focus (intro w hSw; (try dsimp only at hSw); go_simp; (try with_reducible rfl))); (try simp only [List.getElem_toArray, List.getElem_cons_zero, List.getElem_cons_succ, Act.put, List.setIfInBounds_toArray, List.set_cons_zero, List.set_cons_succ])); (refine wpAnyH_take (i := 3) (v := ?_) rfl (by kernel_rfl) (by kernel_rfl) (by kernel_rfl) (fun _ _ _ h => h) (Or.inl ⟨by rfl, ?_⟩) (by assumption) ?_; rotate_left; (focus (intro w hSw; (try dsimp only at hSw); go_simp; (try with_reducible rfl))); (try simp only [List.getElem_toArray, List.getElem_cons_zero, List.getElem_cons_succ, Act.put, List.setIfInBounds_toArray, List.set_cons_zero, List.set_cons_succ])); (refine wpAnyH_take (i := 4) (v := ?_) rfl (by kernel_rfl) (by kernel_rfl) (by kernel_rfl) (fun _ _ _ h => h) (Or.inl ⟨by rfl, ?_⟩) (by assumption) ?_; rotate_left; (focus (intro w hSw; (try dsimp only at hSw); go_simp; (try with_reducible rfl))); (try simp only [List.getElem_toArray, List.getElem_cons_zero, List.getElem_cons_succ, Act.put, List.setIfInBounds_toArray, List.set_cons_zero, List.set_cons_succ])); (refine wpAnyH_take (i := 5) (v := ?_) rfl (by kernel_rfl) (by kernel_rfl) (by kernel_rfl) (fun _ _ _ h => h) (Or.inl ⟨by rfl, ?_⟩) (by assumption) ?_; rotate_left; (focus (intro w hSw; (try dsimp only at hSw); go_simp; (try with_reducible rfl))); (try simp only [List.getElem_toArray, List.getElem_cons_zero, List.getElem_cons_succ, Act.put, List.setIfInBounds_toArray, List.set_cons_zero, List.set_cons_succ])); (refine wpAnyH_take (i := 6) (v := ?_) rfl (by kernel_rfl) (by kernel_rfl) (by kernel_rfl) (fun _ _ _ h => h) (Or.inl ⟨by rfl, ?_⟩) (by assumption) ?_; rotate_left; (focus (intro w hSw; (try dsimp only at hSw); go_simp; (try with_reducible rfl))); (try simp only [List.getElem_toArray, List.getElem_cons_zero, List.getElem_cons_succ, Act.put, List.setIfInBounds_toArray, List.set_cons_zero, List.set_cons_succ]))
              refine wpAnyH_ready (rs := [7]) (by kernel_rfl) (by simp) ?_; refine AllReadyH.cons rfl (fun K hK => ?_) AllReadyH.nil; go_simp
              go_at_call 95
              refine (HRC.out (upd c m (v : Int)) N wr.heap.size a2 _ _ _ HCV.out HFV.out (HBK.out.go HBwd.out) (Nat.le_refl _) HZD.out HP32.out HBI.out).mono ?_
              rw [HKX.out]
              rintro e w6 ⟨rfl, hb6⟩
              have S6 := old_of (bel HBwd.out hb6); have HB6 := S6.2; clear hb6
              refine hK.out _ _ S6 (fun hHeld => ?_); clear hK K; (try simp only [List.getElem_toArray, List.getElem_cons_zero, List.getElem_cons_succ, Act.put, List.setIfInBounds_toArray, List.set_cons_zero, List.set_cons_succ])
              (refine wpAnyH_take (i := 8) (v := ?_) rfl (by kernel_rfl) (by kernel_rfl) (by kernel_rfl) (fun _ _ _ h => h) (Or.inl ⟨by rfl, ?_⟩) (by assumption) ?_; rotate_left; (focus (intro w hSw; (try dsimp only at hSw); go_simp; (try with_reducible rfl))); (try simp only [List.getElem_toArray, List.getElem_cons_zero, List.getElem_cons_succ, Act.put, List.setIfInBounds_toArray, List.set_cons_zero, List.set_cons_succ])); (refine wpAnyH_take (i := 9) (v := ?_) rfl (by kernel_rfl) (by kernel_rfl) (by kernel_rfl) (fun _ _ _ h => h) (Or.inl ⟨by rfl, ?_⟩) (by assumption) ?_; rotate_left; (focus (intro w hSw; (try dsimp only at hSw); go_simp; (try with_reducible rfl))); (try simp only [List.getElem_toArray, List.getElem_cons_zero, List.getElem_cons_succ, Act.put, List.setIfInBounds_toArray, List.set_cons_zero, List.set_cons_succ])); (refine wpAnyH_take (i := 10) (v := ?_) rfl (by kernel_rfl) (by kernel_rfl) (by kernel_rfl) (fun _ _ _ h => h) (Or.inl ⟨by rfl, ?_⟩) (by assumption) ?_; rotate_left; (focus (intro w hSw; (try dsimp only at hSw); go_simp; (try with_reducible rfl))); (try simp only [List.getElem_toArray, List.getElem_cons_zero, List.getElem_cons_succ, Act.put, List.setIfInBounds_toArray, List.set_cons_zero, List.set_cons_succ]))
              refine wpAnyH_done (by kernel_rfl) ?_ _; clear hHeld
              clear S6 Swd
              go_wp2
              go_roundw
              case rel => first | exact ⟨v + 1, HVQ2.out, by go_num, by rw [HW1.out], HB6⟩ | exact ⟨v + 1, HVQ2.out, by go_num, by rw [HW1.out]⟩
              case measure => simp [intOf]; have := HVQ2.out; omega
          · have hvi : ¬ (v : Int) < (q : Int) := by omega
            have hve : v = q := by omega
            subst hve
            have hcost : worstTo (fun v : Nat => K (upd c m (v : Int))) v = costM B K c m := by unfold costM; rw [HVQ.out]; simp
            rw [hcost]
            obtain ⟨cmv, hcmv⟩ : ∃ z, costM B K c m = z := ⟨_, rfl⟩
            rw [hcmv] at HBEST ⊢
            obtain ⟨b2, hb2⟩ : ∃ z, bestM B K c (m + 1) = z := ⟨_, rfl⟩
            have HB2 := Lib.hid hb2
            rw [hb2] at HBEST
            have hminr : ∀ (a : Array TypeId) (b : TypeId) (W : World), (Builtin.min_ a b #[.int .i64 b0, .int .i64 cmv]).run Try.prog W = .ok (.int .i64 b2) W := fun a b W => by
              rw [run_min_int2]
              congr 2
              rw [HBEST.out]
              split <;> omega
            clear hcost hcmv hb2 hv
            go_wp2
            go_roundw
            case rel => first | exact ⟨m + 1, HMN.out, by go_num, by rw [HB2.out], HBv⟩ | exact ⟨m + 1, HMN.out, by go_num, by rw [HB2.out]⟩
            case measure => simp [intOf]; have := HMN.out; omega
        · have hbit1 : (bits BinOp.and IntKind.i64 ((a : Int) / 2 ^ m) 1 == 1) = true := by rw [hbit]; simp [hcm]
          have HBEST : Hid (bestM B K c (m + 1) = bestM B K c m) := by unfold Hid; simp only [bestM]; rw [if_neg hcm]
          clear hbit hcm hmn hm
          go_wp2
          go_roundw
          case rel => first | exact ⟨m + 1, HMN.out, by go_num, by rw [HBEST.out], HBm⟩ | exact ⟨m + 1, HMN.out, by go_num, by rw [HBEST.out]⟩
          case measure => simp [intOf]; have := HMN.out; omega
      · have hmi : ¬ (m : Int) < (B.nv : Int) := by omega
        have hme : m = B.nv := by omega
        subst hme
        go_wp2
        go_ret
        exact ⟨by rw [HCC.out]; rfl, fin HB.out HBm.out⟩

end Go.Proofs.Ytghimbggbgcgkaa
