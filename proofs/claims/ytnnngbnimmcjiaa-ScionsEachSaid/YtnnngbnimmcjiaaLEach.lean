/-
  LEach: ScionsEach returns true.
-/
import Derived.Test.YtnnngbnimmcjiaaEach1
namespace Go.Proofs.Ytnnngbnimmcjiaa
open Go.RowKit

set_option maxHeartbeats 4000000 in
set_option maxRecDepth 100000 in
theorem ceach_any (N M : Nat) (v : Value) (au : Option Addr) (n cu : Nat) (B : SB) (x : Nat → Int) (pl : Int) (w : World) (h : BookAt N w v B) (hcu : n ≤ cu) (hu : IntsAt M w (.slice au n cu) n x) (hM : M ≤ w.heap.size) :
    Calls Try.prog 3 #[v, .slice au n cu, .int .i64 pl] w fun e w' => e = .returned (.bool true) ∧ Below w.heap.size w w' := by
  have hn := hu.len
  have h' := h
  obtain ⟨_, a1, z1, a2, z2, a3, z3, rfl, _⟩ := h'
  obtain ⟨ws, hws, HB, hsz, hblk⟩ := box1 w (.cells #[.slice a1 B.ns z1, .slice a2 B.ng z2, .slice a3 B.nw z3] 26)
  have q0 := cell_blk hblk 0 rfl
  have q1 := cell_blk hblk 1 rfl
  have q2 := cell_blk hblk 2 rfl
  have HBK := Lib.hid (h.go HB.out)
  have HB0 : Hid (Below ws.heap.size ws ws) := Below.refl _ _
  have HNS : Hid (N ≤ ws.heap.size) := HBK.out.1
  have hlens := h.lens
  obtain ⟨hlv, hls, hln⟩ := hlens
  clear hblk h
  have HX := Lib.hid (hu.go hM HB.out)
  have HM : Hid (M ≤ ws.heap.size) := Nat.le_trans hM HB.out.size
  clear hu hM
  cases hr : readyL B with
  | false =>
    have HRY := Lib.hid hr
    clear hr
    go_enter Try.func3, Try.ntmps3
    go_wp2_with (first
      | (go_at_call 12; refine (ready_any N _ B _ (HBK.out.go HB0.out)).mono ?_; rintro e w1 ⟨rfl, hb1⟩; rw [HRY.out]; (try clear c0); have HB1 := Lib.hid (bel HB0.out hb1); have c1 := (old_of HB1.out).1; clear hb1)
      | (go_at_call 14; refine (works_any _).mono ?_; rintro e w2 ⟨rfl, hb2⟩; (try clear c1); have HB2 := Lib.hid (bel HB1.out hb2); have c2 := (old_of HB2.out).1; clear hb2))
    go_ret
    exact ⟨rfl, fin HB.out HB2.out⟩
  | true =>
    have HRY := Lib.hid hr
    have hv : okL B = true := by unfold readyL at hr; rw [Bool.and_eq_true] at hr; exact hr.2
    have hG := goodL hv
    have HG := Lib.hid hG
    cases hf : fitsL B n x with
    | false =>
      have HFT := Lib.hid hf
      clear hr hv hG hf
      go_enter Try.func3, Try.ntmps3
      go_wp2_with (first
        | (go_at_call 12; refine (ready_any N _ B _ (HBK.out.go HB0.out)).mono ?_; rintro e w1 ⟨rfl, hb1⟩; rw [HRY.out]; (try clear c0); have HB1 := Lib.hid (bel HB0.out hb1); have c1 := (old_of HB1.out).1; clear hb1)
        | (go_at_call 13; refine (fits_any N M _ _ B n x _ (HBK.out.go HB1.out) HG.out (HX.out.go HM.out HB1.out) (Nat.le_trans HM.out HB1.out.size)).mono ?_; rintro e w2 ⟨rfl, hb2⟩; rw [HFT.out]; (try clear c1); have HB2 := Lib.hid (bel HB1.out hb2); have c2 := (old_of HB2.out).1; clear hb2)
        | (go_at_call 14; refine (works_any _).mono ?_; rintro e w3 ⟨rfl, hb3⟩; (try clear c2); have HB3 := Lib.hid (bel HB2.out hb3); have c3 := (old_of HB3.out).1; clear hb3))
      go_ret
      exact ⟨rfl, fin HB.out HB3.out⟩
    | true =>
      have HFT := Lib.hid hf
      obtain ⟨hn40, hgi, hfi⟩ := fits_ok hf
      have hmem := fits_mem hf
      have hns := hG.ns
      obtain ⟨g, hg⟩ : ∃ g, natL n x = g := ⟨_, rfl⟩
      have HNG := Lib.hid hg
      obtain ⟨b, hb⟩ : ∃ b, bestL (rankG B) (giftsL B) = b := ⟨_, rfl⟩
      have HMM : Hid (g ∈ giftsL B) := by rw [← hg]; exact hmem
      have HGK : Hid (GOK B g) := giftsL_ok HMM.out
      have HBK' : Hid (GOK B b) := by rw [← hb]; exact giftsL_ok (best_in _)
      have HXX := Lib.hid (okGift_nat hgi)
      have HEF : Hid (eFits B n x = (true, 0)) := eFits_ok hv hgi hfi
      have HM1 : Hid (eNum B (sumN B) = (((sumN B : Nat) : Int), 0)) := by unfold Hid eNum; rw [hv]; rfl
      have HE : Hid (eBest B = (cntL B b, 0)) := by unfold Hid eBest eList; rw [hv, hb]; rfl
      have HS1 : Hid (eNum B (safeN B) = (((safeN B : Nat) : Int), 0)) := by unfold Hid eNum; rw [hv]; rfl
      have HRK : Hid (decide (rankC (cS B b) B.ns < rankC (cS B g) B.ns) = false) := by rw [← hb]; exact each_rank hG HMM.out
      have HC4 : Hid (∀ i, i < B.ns → cS B g i ≤ 4 ∧ cS B b i ≤ 4) := fun i hi => ⟨HGK.out.cS4 hG i hi, HBK'.out.cS4 hG i hi⟩
      have HCA : Hid (∀ s, cS B g s ≤ aloneN B s) := fun s => alone_ge HMM.out s
      have HA4 : Hid (∀ s, s < B.ns → aloneN B s ≤ 4) := fun s hs => by have h1 := alone_le hG hs; have h2 := (hG.C s hs).2; omega
      have HEA : Hid (∀ s : Nat, s < B.ns → eAlone B s = (((aloneN B s : Nat) : Int), 0)) := fun s hs => by
        unfold eAlone
        rw [hv, decide_eq_true (show (0 : Int) ≤ (s : Int) by omega), decide_eq_true (show (s : Int) < (B.ns : Int) by omega), Int.toNat_natCast]
        rfl
      have HDR : Hid (∀ p, p < n → eFits B (n - 1) (dropX x p) = (true, 0)) := fun p hp => drop_fits hv hgi hfi hp
      have hsn : n ≤ sumN B := by have := sumN_ge hG HMM.out; rw [← hg, natL_len] at this; exact this
      have hsf : safeG B g ≤ safeN B := safeN_ge HMM.out
      have HCN : Hid ((cntL B b).length = B.ns) := by unfold Hid; simp [cntL, fromF]
      have HCB : Hid (cntL B b = fromF B.ns fun i => ((cS B b i : Nat) : Int)) := rfl
      obtain ⟨sn, hsnn⟩ : ∃ z, sumN B = z := ⟨_, rfl⟩
      obtain ⟨fn, hfn⟩ : ∃ z, safeN B = z := ⟨_, rfl⟩
      obtain ⟨sg, hsg⟩ : ∃ z, safeG B g = z := ⟨_, rfl⟩
      have HSG := Lib.hid hsg
      have HM' : Hid (eNum B (sumN B) = ((sn : Int), 0)) := by unfold Hid; rw [HM1.out, hsnn]
      have HS' : Hid (eNum B (safeN B) = ((fn : Int), 0)) := by unfold Hid; rw [HS1.out, hfn]
      rw [hsnn] at hsn
      rw [hsg, hfn] at hsf
      have g1 : ¬ (sn : Int) < (n : Int) := by omega
      have g2 : ¬ (fn : Int) < (sg : Int) := by omega
      have g1b : decide (sn < n) = false := decide_eq_false (by omega)
      have g2b : decide (fn < sg) = false := decide_eq_false (by omega)
      have hn1 : n ≤ 1000 := by omega
      clear hr hv hG hf hgi hfi hmem hg hb hsnn hfn hsg HM1 HS1 hsn hsf
      go_enter Try.func3, Try.ntmps3
      go_upto_region 6 with (first
        | (go_at_call 12; refine (ready_any N _ B _ (HBK.out.go HB0.out)).mono ?_; rintro e w1 ⟨rfl, hb1⟩; rw [HRY.out]; (try clear c0); have HB1 := Lib.hid (bel HB0.out hb1); have c1 := (old_of HB1.out).1; clear hb1)
        | (go_at_call 13; refine (fits_any N M _ _ B n x _ (HBK.out.go HB1.out) HG.out (HX.out.go HM.out HB1.out) (Nat.le_trans HM.out HB1.out.size)).mono ?_; rintro e w2 ⟨rfl, hb2⟩; rw [HFT.out]; (try clear c1); have HB2 := Lib.hid (bel HB1.out hb2); have c2 := (old_of HB2.out).1; clear hb2)
        | (go_at_call 15; refine (kMost_any N _ B _ (HBK.out.go HB2.out)).mono ?_; rw [HM'.out]; rintro e w3 ⟨rfl, hb3⟩; (try clear c2); have HB3 := Lib.hid (bel HB2.out hb3); have c3 := (old_of HB3.out).1; clear hb3)
        | (go_at_call 16; refine (kBest_any N _ B _ (HBK.out.go HB3.out)).mono ?_; rw [HE.out]; rintro e w4 ⟨v4, rfl, ho4, hb4⟩; replace ho4 : OwnI w3.heap.size w4 v4 (cntL B b) := ho4; have hi4 := own_list ho4 HCB.out (by omega); obtain ⟨a5, z5, rfl⟩ : ∃ a c, v4 = .slice a B.ns c := (by obtain ⟨ao, cp, e, _⟩ := hi4; exact ⟨ao, cp, e⟩); have HI4 := Lib.hid hi4; clear ho4 hi4; (try clear c3); have HB4 := Lib.hid (bel HB3.out hb4); have c4 := (old_of HB4.out).1; clear hb4)
        | (go_at_call 17; refine (kSafe_any N _ B _ (HBK.out.go HB4.out)).mono ?_; rw [HS'.out]; rintro e w5 ⟨rfl, hb5⟩; have HI5 := Lib.hid (HI4.out.mono hb5 hb5.size); (try clear c4); have HB5 := Lib.hid (bel HB4.out hb5); have c5 := (old_of HB5.out).1; clear hb5))
      clear hws
      have S5d := old_of HB5.out.drew; have HB5d := S5d.2
      refine wp_region_held_drew (S := (fun w' => (∀ b o, b < ws.heap.size → w'.cell? ⟨b, o, none⟩ = ws.cell? ⟨b, o, none⟩) ∧ Hid (Below ws.heap.size ws w'))) (by kernel_rfl) S5d (fun hHeld => ?_)
      (refine wpAnyH_take (i := 0) (v := ?_) rfl (by kernel_rfl) (by kernel_rfl) (by kernel_rfl) (fun _ _ _ h => h) (Or.inl ⟨by rfl, ?_⟩) (by assumption) ?_; rotate_left; (focus (intro w hSw; (try dsimp only at hSw); go_simp; (try with_reducible rfl))); (try simp only [List.getElem_toArray, List.getElem_cons_zero, List.getElem_cons_succ, Act.put, List.setIfInBounds_toArray, List.set_cons_zero, List.set_cons_succ]))
      (refine wpAnyH_take (i := 2) (v := ?_) rfl (by kernel_rfl) (by kernel_rfl) (by kernel_rfl) (fun _ _ _ h => h) (Or.inl ⟨by rfl, ?_⟩) (by assumption) ?_; rotate_left; (focus (intro w hSw; (try dsimp only at hSw); go_simp; (try with_reducible rfl))); (try simp only [List.getElem_toArray, List.getElem_cons_zero, List.getElem_cons_succ, Act.put, List.setIfInBounds_toArray, List.set_cons_zero, List.set_cons_succ]))
      refine wpAnyH_ready (rs := [1]) (by kernel_rfl) (by simp) ?_; refine AllReadyH.cons rfl (fun K hK => ?_) AllReadyH.nil; go_simp
      obtain ⟨wa, hwa, HBz', hblka⟩ : ∃ wa, (w5.alloc (.cells #[] 3)).drew = wa ∧ Below w5.heap.size w5 wa ∧ wa.heap[w5.heap.size]? = some (.cells #[] 3) := ⟨_, rfl, (below_alloc (Nat.le_refl _) _).drew, World.alloc_heap_new _ _⟩
      rw [hwa]
      have HBz : Hid (Below w5.heap.size w5 wa) := HBz'
      clear HBz'
      have Sa := old_of (bel HB5.out HBz.out)
      have HBza := Sa.2
      refine hK.out _ _ Sa (fun hHeld => ?_); clear hK K; (try simp only [List.getElem_toArray, List.getElem_cons_zero, List.getElem_cons_succ, Act.put, List.setIfInBounds_toArray, List.set_cons_zero, List.set_cons_succ])
      refine wpAnyH_ready (rs := [3]) (by kernel_rfl) (by simp) ?_; refine AllReadyH.cons rfl (fun K hK => ?_) AllReadyH.nil; rw [if_pos (by rfl)]
      refine wp_appendInts _ (.tmp 46) (.tmp 47) rfl w5.heap.size _ [] rfl (own_empty (Nat.le_refl _) hblka) M _ _ _ x rfl (HX.out.go HM.out HBza.out) (by simp; omega) HBz.out.size ?_
      intro v6 w6 ho6 hb6
      have hi6 := own_list ho6 (List.nil_append _) hn1
      obtain ⟨a6, z6, rfl⟩ : ∃ a c, v6 = .slice a n c := (by obtain ⟨ao, cp, e, _⟩ := hi6; exact ⟨ao, cp, e⟩)
      have HI6 := Lib.hid hi6
      have HB56 : Hid (Below w5.heap.size w5 w6) := HBz.out.trans hb6
      have S6 : Old ws.heap.size ws w6 := old_of (bel HB5.out HB56.out)
      have HB6 := S6.2
      clear ho6 hi6 hb6 hblka
      refine hK.out _ _ S6 (fun hHeld => ?_); clear hK K; (try simp only [List.getElem_toArray, List.getElem_cons_zero, List.getElem_cons_succ, Act.put, List.setIfInBounds_toArray, List.set_cons_zero, List.set_cons_succ])
      refine wpAnyH_ready (rs := [4]) (by kernel_rfl) (by simp) ?_; refine AllReadyH.cons rfl (fun K hK => ?_) AllReadyH.nil; go_simp
      go_at_call 18
      refine (kFits_any N w6.heap.size _ _ B n x _ (HBK.out.go HB6.out) HI6.out (Nat.le_refl _)).mono ?_
      rw [HEF.out]
      rintro e w7 ⟨rfl, hb7⟩
      have S7 := old_of (bel HB6.out hb7)
      have HB7 := S7.2
      have HI7 := Lib.hid (HI5.out.mono (bel HB56.out hb7) (bel HB56.out hb7).size)
      clear hb7
      refine hK.out _ _ S7 (fun hHeld => ?_); clear hK K; (try simp only [List.getElem_toArray, List.getElem_cons_zero, List.getElem_cons_succ, Act.put, List.setIfInBounds_toArray, List.set_cons_zero, List.set_cons_succ])
      (refine wpAnyH_take (i := 5) (v := ?_) rfl (by kernel_rfl) (by kernel_rfl) (by kernel_rfl) (fun _ _ _ h => h) (Or.inl ⟨by rfl, ?_⟩) (by assumption) ?_; rotate_left; (focus (intro w hSw; (try dsimp only at hSw); go_simp; (try with_reducible rfl))); (try simp only [List.getElem_toArray, List.getElem_cons_zero, List.getElem_cons_succ, Act.put, List.setIfInBounds_toArray, List.set_cons_zero, List.set_cons_succ])); (refine wpAnyH_take (i := 6) (v := ?_) rfl (by kernel_rfl) (by kernel_rfl) (by kernel_rfl) (fun _ _ _ h => h) (Or.inl ⟨by rfl, ?_⟩) (by assumption) ?_; rotate_left; (focus (intro w hSw; (try dsimp only at hSw); go_simp; (try with_reducible rfl))); (try simp only [List.getElem_toArray, List.getElem_cons_zero, List.getElem_cons_succ, Act.put, List.setIfInBounds_toArray, List.set_cons_zero, List.set_cons_succ])); (refine wpAnyH_take (i := 7) (v := ?_) rfl (by kernel_rfl) (by kernel_rfl) (by kernel_rfl) (fun _ _ _ h => h) (Or.inl ⟨by rfl, ?_⟩) (by assumption) ?_; rotate_left; (focus (intro w hSw; (try dsimp only at hSw); go_simp; (try with_reducible rfl))); (try simp only [List.getElem_toArray, List.getElem_cons_zero, List.getElem_cons_succ, Act.put, List.setIfInBounds_toArray, List.set_cons_zero, List.set_cons_succ])); (refine wpAnyH_take (i := 8) (v := ?_) rfl (by kernel_rfl) (by kernel_rfl) (by kernel_rfl) (fun _ _ _ h => h) (Or.inl ⟨by rfl, ?_⟩) (by assumption) ?_; rotate_left; (focus (intro w hSw; (try dsimp only at hSw); go_simp; (try with_reducible rfl))); (try simp only [List.getElem_toArray, List.getElem_cons_zero, List.getElem_cons_succ, Act.put, List.setIfInBounds_toArray, List.set_cons_zero, List.set_cons_succ])); (refine wpAnyH_take (i := 9) (v := ?_) rfl (by kernel_rfl) (by kernel_rfl) (by kernel_rfl) (fun _ _ _ h => h) (Or.inl ⟨by rfl, ?_⟩) (by assumption) ?_; rotate_left; (focus (intro w hSw; (try dsimp only at hSw); go_simp; (try with_reducible rfl))); (try simp only [List.getElem_toArray, List.getElem_cons_zero, List.getElem_cons_succ, Act.put, List.setIfInBounds_toArray, List.set_cons_zero, List.set_cons_succ]))
      refine wpAnyH_done (by kernel_rfl) ?_ _; clear hHeld
      have c7 := S7.1
      clear S7 S6 Sa S5d
      go_wp2_with (first
        | (go_at_call 19; refine (counts_any N M _ _ B 4 n x _ (HBK.out.go HB7.out) HG.out (HX.out.go HM.out HB7.out) (Nat.le_trans HM.out HB7.out.size) HXX.out hn1).mono ?_; rw [HNG.out]; rintro e w8 ⟨⟨gK, rfl, _, hn8⟩, hb8⟩; have HN8 := Lib.hid hn8; clear hn8; have HI8 := Lib.hid (HI7.out.mono hb8 hb8.size); (try clear c7); have HB8 := Lib.hid (bel HB7.out hb8); have c8 := (old_of HB8.out).1; clear hb8)
        | (go_at_call 20; refine (better_any w8.heap.size w8.heap.size _ _ B.ns (cS B g) (cS B b) _ (HN8.out.ints (by omega)) HI8.out HC4.out).mono ?_; rw [HRK.out]; rintro e w9 ⟨rfl, hb9⟩; have HN9 := Lib.hid (HN8.out.keep (hb9.block _ HN8.out.lt)); (try clear c8); have HB9 := Lib.hid (bel HB8.out hb9); have c9 := (old_of HB9.out).1; clear hb9)
        | (go_at_call 21; refine (safeOf_any N M _ _ B n x g _ (HBK.out.go HB9.out) HG.out HGK.out (HX.out.go HM.out HB9.out) (Nat.le_trans HM.out HB9.out.size) HXX.out hn1 HNG.out).mono ?_; rw [HSG.out]; rintro e wA ⟨rfl, hbA⟩; have HNA := Lib.hid (HN9.out.keep (hbA.block _ HN9.out.lt)); (try clear c9); have HBA := Lib.hid (bel HB9.out hbA); have cA := (old_of HBA.out).1; clear hbA))
      clear cA
      go_loopw [16] (fun i wr => ∃ k : Nat, k ≤ B.ns ∧ i = .int .i64 k ∧ Hid (Below wA.heap.size wA wr)) (fun i _ => B.ns - (intOf i).toNat)
      case atStart => exact ⟨0, Nat.zero_le _, rfl, Below.refl _ _⟩
      case round =>
        obtain ⟨k, hk, rfl, HBr⟩ := hrel
        have HBw : Hid (Below ws.heap.size ws wr) := bel HBA.out HBr.out
        have r0 := (HBw.out.cell (p := ⟨w.heap.size, 0, none⟩) hsz).trans q0
        have r1 := (HBw.out.cell (p := ⟨w.heap.size, 1, none⟩) hsz).trans q1
        have r2 := (HBw.out.cell (p := ⟨w.heap.size, 2, none⟩) hsz).trans q2
        by_cases hkn : k < B.ns
        · have hki : (k : Int) < (B.ns : Int) := by omega
          have HAK := Lib.hid (HEA.out k hkn)
          have h1 := HCA.out k
          have h3 := HA4.out k hkn
          have HNr := Lib.hid (HNA.out.keep (HBr.out.block _ HNA.out.lt))
          have cc := HNr.out.cell hkn
          have hgr := HNr.out.lt
          obtain ⟨ck, hck⟩ : ∃ z, cS B g k = z := ⟨_, rfl⟩
          obtain ⟨ak, hak⟩ : ∃ z, aloneN B k = z := ⟨_, rfl⟩
          rw [hck] at cc h1
          rw [hak] at h1 h3 HAK
          clear hck hak
          have t4 : ¬ (ak : Int) < (ck : Int) := by omega
          go_wp2_with (go_at_call 22; refine (kAlone_any N _ B _ _ (HBK.out.go HBw.out)).mono ?_; rw [HAK.out]; rintro e wB ⟨rfl, hbB⟩; have HBB := Lib.hid hbB; have cc := (hbB.cell (p := ⟨gK, k, none⟩) hgr).trans cc; clear hbB)
          go_roundw
          case rel => exact ⟨k + 1, by omega, by go_num, bel HBr.out HBB.out⟩
          case measure => simp [intOf]; omega
        · have hkk : k = B.ns := by omega
          subst hkk
          by_cases hp0 : pl < 0
          · go_wp2_with (go_at_call 14; refine (works_any _).mono ?_; rintro e wC ⟨rfl, hbC⟩; have HBC := Lib.hid hbC; clear hbC)
            go_ret
            exact ⟨rfl, fin HB.out (bel HBw.out HBC.out)⟩
          · by_cases hpn : (n : Int) ≤ pl
            · go_wp2_with (go_at_call 14; refine (works_any _).mono ?_; rintro e wC ⟨rfl, hbC⟩; have HBC := Lib.hid hbC; clear hbC)
              go_ret
              exact ⟨rfl, fin HB.out (bel HBw.out HBC.out)⟩
            · obtain ⟨p, rfl⟩ : ∃ p : Nat, pl = p := ⟨pl.toNat, by omega⟩
              have hpl : p < n := by omega
              have HED := Lib.hid (HDR.out p hpl)
              obtain ⟨b0, off, e, hbM, _⟩ := HX.out.cells (by omega)
              subst e
              have hpc : (p : Int) ≤ (cu : Int) := by omega
              obtain ⟨p1, hp1⟩ : ∃ p1, p + 1 = p1 := ⟨_, rfl⟩
              have HP1 := Lib.hid hp1
              have hp1n : (p1 : Int) ≤ (n : Int) := by omega
              have hwp : IntKind.i64.wrap ((p : Int) + 1) = (p1 : Int) := by rw [IntWalk.i64_in _ (by omega)]; omega
              obtain ⟨ad, had⟩ : ∃ ad : Addr, (if cu = p1 then some (⟨b0, off, none⟩ : Addr) else some ⟨b0, off + p1, none⟩) = some ad := by
                by_cases h : cu = p1
                · exact ⟨_, if_pos h⟩
                · exact ⟨_, if_neg h⟩
              have HAD := Lib.hid had
              have HAJ : Hid (p1 < n → ad = ⟨b0, off + p1, none⟩) := fun h => by
                have h1 := HAD.out
                rw [if_neg (by omega)] at h1
                exact (Option.some.inj h1).symm
              clear hp1 had
              go_upto_region 18 with fail
              have Swd := old_of HBw.out.drew; have HBwd := Swd.2
              refine wp_region_held_drew (S := (fun w' => (∀ b o, b < ws.heap.size → w'.cell? ⟨b, o, none⟩ = ws.cell? ⟨b, o, none⟩) ∧ Hid (Below ws.heap.size ws w'))) (by kernel_rfl) Swd (fun hHeld => ?_)
              (refine wpAnyH_take (i := 0) (v := ?_) rfl (by kernel_rfl) (by kernel_rfl) (by kernel_rfl) (fun _ _ _ h => h) (Or.inl ⟨by rfl, ?_⟩) (by assumption) ?_; rotate_left; (focus (intro w hSw; (try dsimp only at hSw); go_simp; (try with_reducible rfl))); (try simp only [List.getElem_toArray, List.getElem_cons_zero, List.getElem_cons_succ, Act.put, List.setIfInBounds_toArray, List.set_cons_zero, List.set_cons_succ]))
              (refine wpAnyH_take (i := 2) (v := ?_) rfl (by kernel_rfl) (by kernel_rfl) (by kernel_rfl) (fun _ _ _ h => h) (Or.inl ⟨by rfl, ?_⟩) (by assumption) ?_; rotate_left; (focus (intro w hSw; (try dsimp only at hSw); go_simp; (try with_reducible rfl))); (try simp only [List.getElem_toArray, List.getElem_cons_zero, List.getElem_cons_succ, Act.put, List.setIfInBounds_toArray, List.set_cons_zero, List.set_cons_succ])); (refine wpAnyH_take (i := 3) (v := ?_) rfl (by kernel_rfl) (by kernel_rfl) (by kernel_rfl) (fun _ _ _ h => h) (Or.inl ⟨by rfl, ?_⟩) (by assumption) ?_; rotate_left; (focus (intro w hSw; (try dsimp only at hSw); go_simp; (try with_reducible rfl))); (try simp only [List.getElem_toArray, List.getElem_cons_zero, List.getElem_cons_succ, Act.put, List.setIfInBounds_toArray, List.set_cons_zero, List.set_cons_succ]))
              (refine wpAnyH_take (i := 4) (v := ?_) rfl (by kernel_rfl) (by kernel_rfl) (by kernel_rfl) (fun _ _ _ h => h) (Or.inl ⟨by rfl, ?_⟩) (by assumption) ?_; rotate_left; (focus (intro w hSw; (try dsimp only at hSw); go_simp; (try with_reducible rfl))); (try simp only [List.getElem_toArray, List.getElem_cons_zero, List.getElem_cons_succ, Act.put, List.setIfInBounds_toArray, List.set_cons_zero, List.set_cons_succ]))
              (refine wpAnyH_take (i := 6) (v := ?_) rfl (by kernel_rfl) (by kernel_rfl) (by kernel_rfl) (fun _ _ _ h => h) (Or.inl ⟨by rfl, ?_⟩) (by assumption) ?_; rotate_left; (focus (intro w hSw; (try dsimp only at hSw); go_simp; (try with_reducible rfl))); (try simp only [List.getElem_toArray, List.getElem_cons_zero, List.getElem_cons_succ, Act.put, List.setIfInBounds_toArray, List.set_cons_zero, List.set_cons_succ])); (refine wpAnyH_take (i := 7) (v := ?_) rfl (by kernel_rfl) (by kernel_rfl) (by kernel_rfl) (fun _ _ _ h => h) (Or.inl ⟨by rfl, ?_⟩) (by assumption) ?_; rotate_left; (focus (intro w hSw; (try dsimp only at hSw); go_simp; (try with_reducible rfl))); (try simp only [List.getElem_toArray, List.getElem_cons_zero, List.getElem_cons_succ, Act.put, List.setIfInBounds_toArray, List.set_cons_zero, List.set_cons_succ])); (refine wpAnyH_take (i := 8) (v := ?_) rfl (by kernel_rfl) (by kernel_rfl) (by kernel_rfl) (fun _ _ _ h => h) (Or.inl ⟨by rfl, ?_⟩) (by assumption) ?_; rotate_left; (focus (intro w hSw; (try dsimp only at hSw); go_simp; (try with_reducible rfl))); (try simp only [List.getElem_toArray, List.getElem_cons_zero, List.getElem_cons_succ, Act.put, List.setIfInBounds_toArray, List.set_cons_zero, List.set_cons_succ]))
              (refine wpAnyH_take (i := 9) (v := ?_) rfl (by kernel_rfl) (by kernel_rfl) (by kernel_rfl) (fun _ _ _ h => h) (Or.inl ⟨by rfl, ?_⟩) (by assumption) ?_; rotate_left; (focus (intro w hSw; (try dsimp only at hSw); go_simp; rw [HAD.out])))
              (try simp only [List.getElem_toArray, List.getElem_cons_zero, List.getElem_cons_succ, Act.put, List.setIfInBounds_toArray, List.set_cons_zero, List.set_cons_succ])
              refine wpAnyH_ready (rs := [1]) (by kernel_rfl) (by simp) ?_; refine AllReadyH.cons rfl (fun K hK => ?_) AllReadyH.nil; go_simp
              obtain ⟨wc, hwc, HBz', hblkc⟩ : ∃ wa, (wr.alloc (.cells #[] 3)).drew = wa ∧ Below wr.heap.size wr wa ∧ wa.heap[wr.heap.size]? = some (.cells #[] 3) := ⟨_, rfl, (below_alloc (Nat.le_refl _) _).drew, World.alloc_heap_new _ _⟩
              rw [hwc]
              have HBz : Hid (Below wr.heap.size wr wc) := HBz'
              clear HBz'
              have Sc := old_of (bel HBw.out HBz.out)
              have HBzc := Sc.2
              refine hK.out _ _ Sc (fun hHeld => ?_); clear hK K; (try simp only [List.getElem_toArray, List.getElem_cons_zero, List.getElem_cons_succ, Act.put, List.setIfInBounds_toArray, List.set_cons_zero, List.set_cons_succ])
              refine wpAnyH_ready (rs := [5]) (by kernel_rfl) (by simp) ?_; refine AllReadyH.cons rfl (fun K hK => ?_) AllReadyH.nil; rw [if_pos (by rfl)]
              have HXc := Lib.hid (HX.out.go HM.out HBzc.out)
              refine wp_appendInts _ (.tmp 131) (.tmp 134) rfl wr.heap.size _ [] rfl (own_empty (Nat.le_refl _) hblkc) M _ _ _ x rfl (HXc.out.take (by omega)) (by simp; omega) HBz.out.size ?_
              intro v8 w8' ho8 hb8
              have HB8' : Hid (Below wr.heap.size wr w8') := HBz.out.trans hb8
              have S8 : Old ws.heap.size ws w8' := old_of (bel HBw.out HB8'.out)
              have HBz8 := S8.2
              clear hb8 hblkc
              refine hK.out _ _ S8 (fun hHeld => ?_); clear hK K; (try simp only [List.getElem_toArray, List.getElem_cons_zero, List.getElem_cons_succ, Act.put, List.setIfInBounds_toArray, List.set_cons_zero, List.set_cons_succ])
              refine wpAnyH_ready (rs := [10]) (by kernel_rfl) (by simp) ?_; refine AllReadyH.cons rfl (fun K hK => ?_) AllReadyH.nil; rw [if_pos (by rfl)]
              have HX8 := Lib.hid (HX.out.go HM.out HBz8.out)
              refine wp_appendInts _ (.tmp 135) (.tmp 139) rfl wr.heap.size _ _ rfl ho8 M _ _ _ (fun i => x (p1 + i)) rfl (HX8.out.behind (by omega) _ ad HAJ.out) (by simp [fromF]; omega) HB8'.out.size ?_
              intro v9 w9' ho9 hb9
              have hi9 := own_list (n := n - 1) (x := dropX x p) ho9 (by rw [← HP1.out]; exact fromF_drop x hpl) (by omega)
              obtain ⟨a9, z9, rfl⟩ : ∃ a c, v9 = .slice a (n - 1) c := (by obtain ⟨ao, cp, e, _⟩ := hi9; exact ⟨ao, cp, e⟩)
              have HI9 := Lib.hid hi9
              have S9 : Old ws.heap.size ws w9' := old_of (bel HBw.out (HB8'.out.trans hb9))
              have HBz9 := S9.2
              clear ho8 ho9 hi9 hb9
              refine hK.out _ _ S9 (fun hHeld => ?_); clear hK K; (try simp only [List.getElem_toArray, List.getElem_cons_zero, List.getElem_cons_succ, Act.put, List.setIfInBounds_toArray, List.set_cons_zero, List.set_cons_succ])
              refine wpAnyH_ready (rs := [11]) (by kernel_rfl) (by simp) ?_; refine AllReadyH.cons rfl (fun K hK => ?_) AllReadyH.nil; go_simp
              go_at_call 18
              refine (kFits_any N w9'.heap.size _ _ B (n - 1) (dropX x p) _ (HBK.out.go HBz9.out) HI9.out (Nat.le_refl _)).mono ?_
              rw [HED.out]
              rintro e wD ⟨rfl, hbD⟩
              have SD := old_of (bel HBz9.out hbD)
              have HBD := SD.2
              clear hbD
              refine hK.out _ _ SD (fun hHeld => ?_); clear hK K; (try simp only [List.getElem_toArray, List.getElem_cons_zero, List.getElem_cons_succ, Act.put, List.setIfInBounds_toArray, List.set_cons_zero, List.set_cons_succ])
              (refine wpAnyH_take (i := 12) (v := ?_) rfl (by kernel_rfl) (by kernel_rfl) (by kernel_rfl) (fun _ _ _ h => h) (Or.inl ⟨by rfl, ?_⟩) (by assumption) ?_; rotate_left; (focus (intro w hSw; (try dsimp only at hSw); go_simp; (try with_reducible rfl))); (try simp only [List.getElem_toArray, List.getElem_cons_zero, List.getElem_cons_succ, Act.put, List.setIfInBounds_toArray, List.set_cons_zero, List.set_cons_succ])); (refine wpAnyH_take (i := 13) (v := ?_) rfl (by kernel_rfl) (by kernel_rfl) (by kernel_rfl) (fun _ _ _ h => h) (Or.inl ⟨by rfl, ?_⟩) (by assumption) ?_; rotate_left; (focus (intro w hSw; (try dsimp only at hSw); go_simp; (try with_reducible rfl))); (try simp only [List.getElem_toArray, List.getElem_cons_zero, List.getElem_cons_succ, Act.put, List.setIfInBounds_toArray, List.set_cons_zero, List.set_cons_succ])); (refine wpAnyH_take (i := 14) (v := ?_) rfl (by kernel_rfl) (by kernel_rfl) (by kernel_rfl) (fun _ _ _ h => h) (Or.inl ⟨by rfl, ?_⟩) (by assumption) ?_; rotate_left; (focus (intro w hSw; (try dsimp only at hSw); go_simp; (try with_reducible rfl))); (try simp only [List.getElem_toArray, List.getElem_cons_zero, List.getElem_cons_succ, Act.put, List.setIfInBounds_toArray, List.set_cons_zero, List.set_cons_succ])); (refine wpAnyH_take (i := 15) (v := ?_) rfl (by kernel_rfl) (by kernel_rfl) (by kernel_rfl) (fun _ _ _ h => h) (Or.inl ⟨by rfl, ?_⟩) (by assumption) ?_; rotate_left; (focus (intro w hSw; (try dsimp only at hSw); go_simp; (try with_reducible rfl))); (try simp only [List.getElem_toArray, List.getElem_cons_zero, List.getElem_cons_succ, Act.put, List.setIfInBounds_toArray, List.set_cons_zero, List.set_cons_succ])); (refine wpAnyH_take (i := 16) (v := ?_) rfl (by kernel_rfl) (by kernel_rfl) (by kernel_rfl) (fun _ _ _ h => h) (Or.inl ⟨by rfl, ?_⟩) (by assumption) ?_; rotate_left; (focus (intro w hSw; (try dsimp only at hSw); go_simp; (try with_reducible rfl))); (try simp only [List.getElem_toArray, List.getElem_cons_zero, List.getElem_cons_succ, Act.put, List.setIfInBounds_toArray, List.set_cons_zero, List.set_cons_succ]))
              refine wpAnyH_done (by kernel_rfl) ?_ _; clear hHeld
              clear SD S9 S8 Sc Swd
              go_wp2_with (go_at_call 14; refine (works_any _).mono ?_; rintro e wE ⟨rfl, hbE⟩; have HBE := Lib.hid hbE; clear hbE)
              go_ret
              exact ⟨rfl, fin HB.out (bel HBD.out HBE.out)⟩

end Go.Proofs.Ytnnngbnimmcjiaa
