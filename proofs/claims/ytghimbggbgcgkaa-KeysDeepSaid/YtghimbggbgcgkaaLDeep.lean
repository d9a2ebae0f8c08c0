/-
  LDeep: KeysDeep for every book.
-/
import Derived.Test.YtghimbggbgcgkaaLShort
import Derived.Test.YtghimbggbgcgkaaDeepS
namespace Go.Proofs.Ytghimbggbgcgkaa
open Go.RowKit

set_option maxHeartbeats 8000000 in
set_option maxRecDepth 100000 in
theorem cdeep_any (N : Nat) (v : Value) (B : KB) (w : World) (h : BookAt N w v B) :
    Calls Try.prog 5 #[v] w fun e w' => e = .returned (.bool true) ∧ Below w.heap.size w w' := by
  have h' := h
  obtain ⟨_, a1, z1, a2, z2, a3, z3, rfl, _⟩ := h'
  obtain ⟨ws, hws, HB, hsz, hblk⟩ := box1 w (.cells #[.slice a1 B.nv z1, .slice a2 B.ns z2, .slice a3 B.D.n z3] 26)
  have q0 := cell_blk hblk 0 rfl
  have q1 := cell_blk hblk 1 rfl
  have q2 := cell_blk hblk 2 rfl
  have HBK := Lib.hid (h.go HB.out)
  have HB0 : Hid (Below ws.heap.size ws ws) := Below.refl _ _
  have HNS : Hid (N ≤ ws.heap.size) := HBK.out.1
  have hlens := h.lens
  obtain ⟨hlv, hls, hln⟩ := hlens
  clear hblk h
  cases hrd : readyB B with
  | false =>
    have HRD := Lib.hid hrd
    clear hrd
    go_enter Try.func5, Try.ntmps5
    go_wp2_with (first
      | (go_at_call 15; refine (ready_any N _ B _ (HBK.out.go HB0.out)).mono ?_; rintro e w1 ⟨rfl, hb1⟩; rw [HRD.out]; (try clear c0); have HB1 := Lib.hid (bel HB0.out hb1); have c1 := (old_of HB1.out).1; clear hb1)
      | (go_at_call 17; refine (works_any _).mono ?_; rintro e w2 ⟨rfl, hb2⟩; (try clear c1); have HB2 := Lib.hid (bel HB1.out hb2); have c2 := (old_of HB2.out).1; clear hb2))
    go_ret
    exact ⟨rfl, fin HB.out HB2.out⟩
  | true =>
    have HRD := Lib.hid hrd
    have hfar : farB B = false := by unfold readyB at hrd; cases hf : farB B with | false => rfl | true => rw [hf] at hrd; cases hrd
    have hok : okKB B = true := by unfold readyB at hrd; cases hf : okKB B with | true => rfl | false => rw [hf] at hrd; simp at hrd
    have HNS7 : Hid (okKB B = true → B.ns ≤ 7) := fun hk => near_ns hfar hk
    have HG := Lib.hid (goodB hok)
    have hnv5 := HG.out.nv
    have hnv1 := HG.out.nv1
    have hnn := HG.out.nn
    obtain ⟨sn, hsn⟩ : ∃ x, costK5 B anyC = x := ⟨_, rfl⟩
    obtain ⟨lo, hlo⟩ : ∃ x, lowF B (allX B) = x := ⟨_, rfl⟩
    obtain ⟨hi, hhi⟩ : ∃ x, highF B (allX B) = x := ⟨_, rfl⟩
    have HE : Hid (eShort B = (sn, 0)) := by unfold Hid eShort; rw [hok, if_pos rfl, hsn]
    have HED : Hid (eDeep B = ((lo, hi), 0)) := by unfold Hid eDeep; rw [hok, if_pos rfl, hlo, hhi]
    have hb1 := costK5_bd HG.out.nv anyC
    have hb2 := deep_bd HG.out
    have hb3 := short_high HG.out
    have HSZ : Hid ((sn == 0) = sameZ B (allF B)) := by rw [← hsn]; exact short_zero HG.out
    rw [hsn] at hb1 hb3
    rw [hhi] at hb2 hb3
    rw [hlo] at hb2
    have i1 : ¬ sn < 0 := by omega
    have i2 : ¬ (B.nv : Int) < sn := by omega
    have i3 : ¬ hi < sn := by omega
    have i4 : ¬ lo < 0 := by omega
    have i5 : ¬ hi < lo := by omega
    have i6 : ¬ (B.D.n : Int) ≤ hi := by omega
    clear hrd hfar hok hsn hlo hhi hb1 hb2 hb3
    go_enter Try.func5, Try.ntmps5
    go_wp2_with (first
      | (go_at_call 15; go_must (refine (ready_any N _ B _ (HBK.out.go HB0.out)).mono ?_; rintro e w1 ⟨rfl, hb1⟩; rw [HRD.out]; (try clear c0); have HB1 := Lib.hid (bel HB0.out hb1); have c1 := (old_of HB1.out).1; clear hb1))
      | (go_at_call 30; go_must (refine (kShort_any N _ B _ (HBK.out.go HB1.out) HNS7.out).mono ?_; rw [HE.out]; rintro e w2 ⟨rfl, hb2⟩; (try clear c1); have HB2 := Lib.hid (bel HB1.out hb2); have c2 := (old_of HB2.out).1; clear hb2))
      | (go_at_call 20; go_must (refine (kDeep_any N _ B _ (HBK.out.go HB2.out)).mono ?_; rw [HED.out]; rintro e w3 ⟨rfl, hb3⟩; (try clear c2); have HB3 := Lib.hid (bel HB2.out hb3); have c3 := (old_of HB3.out).1; clear hb3; obtain ⟨w4, hw4, HB34, hsz34, hblk4⟩ := box1 w3 (.cells #[.int .i64 lo, .int .i64 hi] 36); have s0 := cell_blk hblk4 0 rfl; have s1 := cell_blk hblk4 1 rfl; have hb4 := HB34.out; clear hblk4; (try clear c3); have HB4 := Lib.hid (bel HB3.out hb4); have c4 := (old_of HB4.out).1; clear hb4))
      | (go_at_call 29; go_must (refine (rFruits_any N _ B HG.out _ (HBK.out.go HB4.out)).mono ?_; rintro e w5 ⟨vF, rfl, hrows, hb5⟩; have HFR := Lib.hid hrows; clear hrows; (try clear c4); have HB5 := Lib.hid (bel HB4.out hb5); have c5 := (old_of HB5.out).1; clear hb5)))
    clear hws hw4 s0 s1
    have hne := cubeF_ne HG.out (anyC_ok B)
    have hlen := cubeF_len HG.out anyC
    rw [cubeF_any] at hne hlen
    have HZF := Lib.hid (fr_zs HFR.out (fun z hz => ((allF_mem B z).1 hz).1) (by omega) (by omega))
    have hgood : Hid (∀ z, z ∈ allF B → z.length = B.nv ∧ GoodX B.nv B.V B.nv (atL z)) := fun z hz => ⟨((allF_mem B z).1 hz).1, inC_goodX ((allF_mem B z).1 hz).2⟩
    obtain ⟨zs, hzs⟩ : ∃ zs, allF B = zs := ⟨_, rfl⟩
    rw [hzs] at hne hlen HZF hgood HSZ HFR
    obtain ⟨gF, cF, rfl, hgFs⟩ := frRows_form HFR.out (List.length_pos_iff.2 hne)
    obtain ⟨n, hn⟩ : ∃ n, zs.length = n := ⟨_, rfl⟩
    have HN := Lib.hid hn
    have hn0 : 0 < n := by rw [← hn]; exact List.length_pos_iff.2 hne
    have hcu := HZF.out.cells (by omega)
    rw [hn] at hlen ⊢
    have HR : Hid (∀ (i : Nat) (z : List Int), zs[i]? = some z → ∃ ai ci, w5.cell? ⟨gF, i, none⟩ = some (.slice ai B.nv ci) ∧ GoodX B.nv B.V B.nv (atL z) ∧ ∀ wk : World, Below w5.heap.size w5 wk → IntsAt w5.heap.size wk (.slice ai B.nv ci) B.nv (atL z)) := fun i z hz => by
      obtain ⟨bu, ou, e, hbu, hcu⟩ := hcu
      cases e
      have hi := (List.getElem?_eq_some_iff.1 hz).1
      obtain ⟨ai, ci, h1, h2⟩ := hcu i hi
      have e : zs.getD i [] = z := by simp [List.getD, hz]
      rw [e] at h2
      rw [Nat.zero_add] at h1
      exact ⟨ai, ci, h1, (hgood.out z (List.mem_of_getElem? hz)).2, fun wk hb => h2.mono hb (Nat.le_refl _)⟩
    have hB5N : N ≤ w5.heap.size := Nat.le_trans HNS.out HB5.out.size
    have HNK : Hid (∀ wk : World, Below w5.heap.size w5 wk → NodesAt w5.heap.size wk (.slice a3 B.D.n z3) B.D) := fun wk hb => ((HBK.out.go HB5.out).nodes.mono (hb.mono hB5N) hB5N)
    have q2 := (c5 _ 2 hsz).trans q2
    have hsz5 : w.heap.size < w5.heap.size := Nat.lt_of_lt_of_le hsz HB5.out.size
    have HFIN : Hid (Below w.heap.size w w5) := Lib.hid (fin HB.out HB5.out)
    have HB55 : Hid (Below w5.heap.size w5 w5) := Below.refl _ _
    obtain ⟨z0, hz0⟩ : ∃ z, zs[0]? = some z := ⟨_, List.getElem?_eq_getElem (by omega)⟩
    obtain ⟨a0, c0, hc0, hg0, hk0⟩ := HR.out 0 z0 hz0
    have hc0' : w5.cell? ⟨gF, 0, none⟩ = some (.slice a0 B.nv c0) := hc0
    have HG0 := Lib.hid hg0
    have HK0 := Lib.hid hk0
    have HZ0 := Lib.hid hz0
    have hn0i : (0 : Int) < (n : Int) := by omega
    obtain ⟨e0, he0⟩ : ∃ e, endZ B z0 = e := ⟨_, rfl⟩
    have HE0 : Hid (endOf B.D (atL z0) = e0) := he0
    clear hzs hne hcu hn hc0 hg0 hk0 hz0 c5 q0 q1 HFR HZF
    go_loopw [8, 9] (fun s i wr => ∃ k : Nat, k ≤ n ∧ i = .int .i64 k ∧ s = .bool (firstS B zs z0 k) ∧ Hid (Below w5.heap.size w5 wr)) (fun _ i _ => n - (intOf i).toNat)
    case atStart => exact ⟨0, Nat.zero_le _, rfl, by rw [firstS_zero], HB55⟩
    case round =>
    obtain ⟨k, hk, rfl, rfl, HBr⟩ := hrel
    by_cases hkn : k < n
    · have hki : (k : Int) < (n : Int) := by omega
      obtain ⟨z, hz⟩ : ∃ z, zs[k]? = some z := ⟨_, List.getElem?_eq_getElem (by rw [HN.out]; exact hkn)⟩
      obtain ⟨ak, ck, hck, hgk, hkk⟩ := HR.out k z hz
      have HGK := Lib.hid hgk
      have HKK := Lib.hid hkk
      have HKN := Lib.hid hkn
      have HS := Lib.hid (firstS_succ (B := B) (z0 := z0) hz)
      obtain ⟨e1, he1⟩ : ∃ e, endZ B z = e := ⟨_, rfl⟩
      have HE1 : Hid (endOf B.D (atL z) = e1) := he1
      rw [he0, he1] at HS
      clear hgk hkk hkn hz he1 hk
      cases hsb : firstS B zs z0 k with
      | false =>
        rw [hsb] at HS
        have HS1 : Hid (firstS B zs z0 (k + 1) = false) := HS.out
        clear HS hsb
        have HBrd := Lib.hid HBr.out.drew
        go_wp2
        go_region
        go_wp2
        go_roundw
        case rel => first | exact ⟨k + 1, HKN.out, by go_num, by rw [HS1.out], HBrd⟩ | exact ⟨k + 1, HKN.out, by go_num, by rw [HS1.out]⟩
        case measure => simp [intOf]; have := HKN.out; omega
      | true =>
        rw [hsb] at HS
        have HS1 : Hid (firstS B zs z0 (k + 1) = (e1 == e0)) := by unfold Hid; rw [HS.out, Bool.true_and, Bool.eq_iff_iff]; simp
        clear HS hsb
        have HIK : Hid (∀ wk : World, Below wr.heap.size wr wk → IntsAt wr.heap.size wk (.slice ak B.nv ck) B.nv (atL z) ∧ IntsAt wr.heap.size wk (.slice a0 B.nv c0) B.nv (atL z0) ∧ NodesAt wr.heap.size wk (.slice a3 B.D.n z3) B.D) := fun wk hb =>
          ⟨((HKK.out wr HBr.out).mono (hb.mono HBr.out.size) HBr.out.size), ((HK0.out wr HBr.out).mono (hb.mono HBr.out.size) HBr.out.size), ((HNK.out wr HBr.out).mono (hb.mono HBr.out.size) HBr.out.size)⟩
        have cr := (old_of HBr.out).1
        have hckr := (cr _ _ hgFs).trans hck
        have hc0r := (cr _ _ hgFs).trans hc0'
        have q2r := (cr _ 2 hsz5).trans q2
        have hwr : w.heap.size < wr.heap.size := Nat.lt_of_lt_of_le hsz5 HBr.out.size
        have hbr : gF < wr.heap.size := Nat.lt_of_lt_of_le hgFs HBr.out.size
        have HBy : Hid (Below wr.heap.size wr wr) := Below.refl _ _
        clear cr
        have Syd := old_of HBy.out.drew; have HByd := Syd.2
        go_upto_region 12 with fail
        refine wp_region_held_drew (S := (fun w' => (∀ b o, b < wr.heap.size → w'.cell? ⟨b, o, none⟩ = wr.cell? ⟨b, o, none⟩) ∧ Hid (Below wr.heap.size wr w'))) (by kernel_rfl) Syd (fun hHeld => ?_)
        (refine wpAnyH_take (i := 0) (v := ?_) rfl (by kernel_rfl) (by kernel_rfl) (by kernel_rfl) (fun _ _ _ h => h) (Or.inl ⟨by rfl, ?_⟩) (by assumption) ?_; rotate_left; (focus (intro w hSw; (try dsimp only at hSw); go_simp; (try with_reducible rfl))); (try simp only [List.getElem_toArray, List.getElem_cons_zero, List.getElem_cons_succ, Act.put, List.setIfInBounds_toArray, List.set_cons_zero, List.set_cons_succ])); (refine wpAnyH_take (i := 1) (v := ?_) rfl (by kernel_rfl) (by kernel_rfl) (by kernel_rfl) (fun _ _ _ h => h) (Or.inl ⟨by rfl, ?_⟩) (by assumption) ?_; rotate_left; (focus (intro w hSw; (try dsimp only at hSw); go_simp; (try with_reducible rfl))); (try simp only [List.getElem_toArray, List.getElem_cons_zero, List.getElem_cons_succ, Act.put, List.setIfInBounds_toArray, List.set_cons_zero, List.set_cons_succ])); (refine wpAnyH_take (i := 2) (v := ?_) rfl (by kernel_rfl) (by kernel_rfl) (by kernel_rfl) (fun _ _ _ h => h) (Or.inl ⟨by rfl, ?_⟩) (by assumption) ?_; rotate_left; (focus (intro w hSw; (try dsimp only at hSw); go_simp; (try with_reducible rfl))); (try simp only [List.getElem_toArray, List.getElem_cons_zero, List.getElem_cons_succ, Act.put, List.setIfInBounds_toArray, List.set_cons_zero, List.set_cons_succ])); (refine wpAnyH_take (i := 3) (v := ?_) rfl (by kernel_rfl) (by kernel_rfl) (by kernel_rfl) (fun _ _ _ h => h) (Or.inl ⟨by rfl, ?_⟩) (by assumption) ?_; rotate_left; (focus (intro w hSw; (try dsimp only at hSw); go_simp; (try with_reducible rfl))); (try simp only [List.getElem_toArray, List.getElem_cons_zero, List.getElem_cons_succ, Act.put, List.setIfInBounds_toArray, List.set_cons_zero, List.set_cons_succ])); (refine wpAnyH_take (i := 4) (v := ?_) rfl (by kernel_rfl) (by kernel_rfl) (by kernel_rfl) (fun _ _ _ h => h) (Or.inl ⟨by rfl, ?_⟩) (by assumption) ?_; rotate_left; (focus (intro w hSw; (try dsimp only at hSw); go_simp; (try with_reducible rfl))); (try simp only [List.getElem_toArray, List.getElem_cons_zero, List.getElem_cons_succ, Act.put, List.setIfInBounds_toArray, List.set_cons_zero, List.set_cons_succ])); (refine wpAnyH_take (i := 5) (v := ?_) rfl (by kernel_rfl) (by kernel_rfl) (by kernel_rfl) (fun _ _ _ h => h) (Or.inl ⟨by rfl, ?_⟩) (by assumption) ?_; rotate_left; (focus (intro w hSw; (try dsimp only at hSw); go_simp; (try with_reducible rfl))); (try simp only [List.getElem_toArray, List.getElem_cons_zero, List.getElem_cons_succ, Act.put, List.setIfInBounds_toArray, List.set_cons_zero, List.set_cons_succ])); (refine wpAnyH_take (i := 6) (v := ?_) rfl (by kernel_rfl) (by kernel_rfl) (by kernel_rfl) (fun _ _ _ h => h) (Or.inl ⟨by rfl, ?_⟩) (by assumption) ?_; rotate_left; (focus (intro w hSw; (try dsimp only at hSw); go_simp; (try with_reducible rfl))); (try simp only [List.getElem_toArray, List.getElem_cons_zero, List.getElem_cons_succ, Act.put, List.setIfInBounds_toArray, List.set_cons_zero, List.set_cons_succ])); (refine wpAnyH_take (i := 7) (v := ?_) rfl (by kernel_rfl) (by kernel_rfl) (by kernel_rfl) (fun _ _ _ h => h) (Or.inl ⟨by rfl, ?_⟩) (by assumption) ?_; rotate_left; (focus (intro w hSw; (try dsimp only at hSw); go_simp; (try with_reducible rfl))); (try simp only [List.getElem_toArray, List.getElem_cons_zero, List.getElem_cons_succ, Act.put, List.setIfInBounds_toArray, List.set_cons_zero, List.set_cons_succ]))
        (refine wpAnyH_take (i := 9) (v := ?_) rfl (by kernel_rfl) (by kernel_rfl) (by kernel_rfl) (fun _ _ _ h => h) (Or.inl ⟨by rfl, ?_⟩) (by assumption) ?_; rotate_left; (focus (intro w hSw; (try dsimp only at hSw); go_simp; (try with_reducible rfl))); (try simp only [List.getElem_toArray, List.getElem_cons_zero, List.getElem_cons_succ, Act.put, List.setIfInBounds_toArray, List.set_cons_zero, List.set_cons_succ])); (refine wpAnyH_take (i := 10) (v := ?_) rfl (by kernel_rfl) (by kernel_rfl) (by kernel_rfl) (fun _ _ _ h => h) (Or.inl ⟨by rfl, ?_⟩) (by assumption) ?_; rotate_left; (focus (intro w hSw; (try dsimp only at hSw); go_simp; (try with_reducible rfl))); (try simp only [List.getElem_toArray, List.getElem_cons_zero, List.getElem_cons_succ, Act.put, List.setIfInBounds_toArray, List.set_cons_zero, List.set_cons_succ])); (refine wpAnyH_take (i := 11) (v := ?_) rfl (by kernel_rfl) (by kernel_rfl) (by kernel_rfl) (fun _ _ _ h => h) (Or.inl ⟨by rfl, ?_⟩) (by assumption) ?_; rotate_left; (focus (intro w hSw; (try dsimp only at hSw); go_simp; (try with_reducible rfl))); (try simp only [List.getElem_toArray, List.getElem_cons_zero, List.getElem_cons_succ, Act.put, List.setIfInBounds_toArray, List.set_cons_zero, List.set_cons_succ])); (refine wpAnyH_take (i := 12) (v := ?_) rfl (by kernel_rfl) (by kernel_rfl) (by kernel_rfl) (fun _ _ _ h => h) (Or.inl ⟨by rfl, ?_⟩) (by assumption) ?_; rotate_left; (focus (intro w hSw; (try dsimp only at hSw); go_simp; (try with_reducible rfl))); (try simp only [List.getElem_toArray, List.getElem_cons_zero, List.getElem_cons_succ, Act.put, List.setIfInBounds_toArray, List.set_cons_zero, List.set_cons_succ])); (refine wpAnyH_take (i := 13) (v := ?_) rfl (by kernel_rfl) (by kernel_rfl) (by kernel_rfl) (fun _ _ _ h => h) (Or.inl ⟨by rfl, ?_⟩) (by assumption) ?_; rotate_left; (focus (intro w hSw; (try dsimp only at hSw); go_simp; (try with_reducible rfl))); (try simp only [List.getElem_toArray, List.getElem_cons_zero, List.getElem_cons_succ, Act.put, List.setIfInBounds_toArray, List.set_cons_zero, List.set_cons_succ]))
        refine wpAnyH_ready (rs := [8]) (by kernel_rfl) (by simp) ?_; refine AllReadyH.cons rfl (fun K hK => ?_) AllReadyH.nil; go_simp
        go_at_call 25
        refine (endOf_any wr.heap.size _ _ B.D B.nv B.V B.ns B.nv (atL z) _ (HIK.out _ HByd.out).2.2 (HIK.out _ HByd.out).1 HByd.out.size HG.out.D HGK.out (by omega)).mono ?_; rw [HE1.out]; rintro e w6 ⟨rfl, hb6⟩; have S6 := old_of (bel HByd.out hb6); have HB6 := S6.2; clear hb6
        refine hK.out _ _ S6 (fun hHeld => ?_); clear hK K; (try simp only [List.getElem_toArray, List.getElem_cons_zero, List.getElem_cons_succ, Act.put, List.setIfInBounds_toArray, List.set_cons_zero, List.set_cons_succ])
        refine wpAnyH_ready (rs := [14]) (by kernel_rfl) (by simp) ?_; refine AllReadyH.cons rfl (fun K hK => ?_) AllReadyH.nil; go_simp
        go_at_call 25
        refine (endOf_any wr.heap.size _ _ B.D B.nv B.V B.ns B.nv (atL z0) _ (HIK.out _ HB6.out).2.2 (HIK.out _ HB6.out).2.1 HB6.out.size HG.out.D HG0.out (by omega)).mono ?_; rw [HE0.out]; rintro e w7 ⟨rfl, hb7⟩; have S7 := old_of (bel HB6.out hb7); have HB7 := S7.2; clear hb7
        refine hK.out _ _ S7 (fun hHeld => ?_); clear hK K; (try simp only [List.getElem_toArray, List.getElem_cons_zero, List.getElem_cons_succ, Act.put, List.setIfInBounds_toArray, List.set_cons_zero, List.set_cons_succ])
        (refine wpAnyH_take (i := 15) (v := ?_) rfl (by kernel_rfl) (by kernel_rfl) (by kernel_rfl) (fun _ _ _ h => h) (Or.inl ⟨by rfl, ?_⟩) (by assumption) ?_; rotate_left; (focus (intro w hSw; (try dsimp only at hSw); go_simp; (try with_reducible rfl))); (try simp only [List.getElem_toArray, List.getElem_cons_zero, List.getElem_cons_succ, Act.put, List.setIfInBounds_toArray, List.set_cons_zero, List.set_cons_succ])); (refine wpAnyH_take (i := 16) (v := ?_) rfl (by kernel_rfl) (by kernel_rfl) (by kernel_rfl) (fun _ _ _ h => h) (Or.inl ⟨by rfl, ?_⟩) (by assumption) ?_; rotate_left; (focus (intro w hSw; (try dsimp only at hSw); go_simp; (try with_reducible rfl))); (try simp only [List.getElem_toArray, List.getElem_cons_zero, List.getElem_cons_succ, Act.put, List.setIfInBounds_toArray, List.set_cons_zero, List.set_cons_succ])); (refine wpAnyH_take (i := 17) (v := ?_) rfl (by kernel_rfl) (by kernel_rfl) (by kernel_rfl) (fun _ _ _ h => h) (Or.inl ⟨by rfl, ?_⟩) (by assumption) ?_; rotate_left; (focus (intro w hSw; (try dsimp only at hSw); go_simp; (try with_reducible rfl))); (try simp only [List.getElem_toArray, List.getElem_cons_zero, List.getElem_cons_succ, Act.put, List.setIfInBounds_toArray, List.set_cons_zero, List.set_cons_succ]))
        refine wpAnyH_done (by kernel_rfl) ?_ _; clear hHeld
        clear S6 S7 Syd
        have HBn : Hid (Below w5.heap.size w5 w7) := Lib.hid (bel HBr.out HB7.out)
        go_wp2
        go_roundw
        case rel => first | exact ⟨k + 1, HKN.out, by go_num, by rw [HS1.out], HBn⟩ | exact ⟨k + 1, HKN.out, by go_num, by rw [HS1.out]⟩
        case measure => simp [intOf]; have := HKN.out; omega
    · have hki : ¬ (k : Int) < (n : Int) := by omega
      have hke : k = n := by omega
      subst hke
      have hall : firstS B zs z0 k = (sn == 0) := by rw [← HN.out, HSZ.out]; exact firstS_all HZ0.out
      rw [hall]
      clear hall
      cases hsn : (sn == 0) with
      | true =>
        go_wp2_with (go_at_call 17; refine (works_any _).mono ?_; rintro e wH ⟨rfl, hbH⟩; (try clear cr); have HBH := Lib.hid (bel HBr.out hbH); have cH := (old_of HBH.out).1; clear hbH)
        go_ret
        exact ⟨rfl, fin HFIN.out HBH.out⟩
      | false =>
        go_wp2_with (go_at_call 17; refine (works_any _).mono ?_; rintro e wH ⟨rfl, hbH⟩; (try clear cr); have HBH := Lib.hid (bel HBr.out hbH); have cH := (old_of HBH.out).1; clear hbH)
        go_ret
        exact ⟨rfl, fin HFIN.out HBH.out⟩

end Go.Proofs.Ytghimbggbgcgkaa
