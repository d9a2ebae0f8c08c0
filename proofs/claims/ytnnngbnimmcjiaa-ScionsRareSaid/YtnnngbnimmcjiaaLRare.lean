/-
  LRare: ScionsRare returns true.
-/
import Derived.Test.YtnnngbnimmcjiaaRare
namespace Go.Proofs.Ytnnngbnimmcjiaa
open Go.RowKit

set_option maxHeartbeats 4000000 in
set_option maxRecDepth 100000 in
theorem crare_any (N : Nat) (v : Value) (B : SB) (w : World) (h : BookAt N w v B) :
    Calls Try.prog 4 #[v] w fun e w' => e = .returned (.bool true) ∧ Below w.heap.size w w' := by
  have h' := h
  obtain ⟨_, a1, z1, a2, z2, a3, z3, rfl, _⟩ := h'
  obtain ⟨ws, hws, HB, hsz, hblk⟩ := box1 w (.cells #[.slice a1 B.ns z1, .slice a2 B.ng z2, .slice a3 B.nw z3] 26)
  have q0 := cell_blk hblk 0 rfl
  have q1 := cell_blk hblk 1 rfl
  have q2 := cell_blk hblk 2 rfl
  have HBK := Lib.hid (h.go HB.out)
  have HB0 : Hid (Below ws.heap.size ws ws) := Below.refl _ _
  have HNS : Hid (N ≤ ws.heap.size) := HBK.out.1
  have hlens := h.lens
  obtain ⟨hlv, hls, hln⟩ := hlens
  clear hblk h
  cases hr : readyL B with
  | false =>
    have HRY := Lib.hid hr
    clear hr
    go_enter Try.func4, Try.ntmps4
    go_wp2_with (first
      | (go_at_call 12; refine (ready_any N _ B _ (HBK.out.go HB0.out)).mono ?_; rintro e w1 ⟨rfl, hb1⟩; rw [HRY.out]; (try clear c0); have HB1 := Lib.hid (bel HB0.out hb1); have c1 := (old_of HB1.out).1; clear hb1)
      | (go_at_call 14; refine (works_any _).mono ?_; rintro e w2 ⟨rfl, hb2⟩; (try clear c1); have HB2 := Lib.hid (bel HB1.out hb2); have c2 := (old_of HB2.out).1; clear hb2))
    go_ret
    exact ⟨rfl, fin HB.out HB2.out⟩
  | true =>
    have HRY := Lib.hid hr
    have hv : okL B = true := by unfold readyL at hr; rw [Bool.and_eq_true] at hr; exact hr.2
    have HV := Lib.hid hv
    have hG := goodL hv
    have HG := Lib.hid hG
    have hns := hG.ns
    obtain ⟨b, hb⟩ : ∃ b, bestL (rankG B) (giftsL B) = b := ⟨_, rfl⟩
    have HM : Hid (eNum B (sumN B) = (((sumN B : Nat) : Int), 0)) := by unfold Hid eNum; rw [hv]; rfl
    have HE : Hid (eBest B = (cntL B b, 0)) := by unfold Hid eBest eList; rw [hv, hb]; rfl
    have HS : Hid (eNum B (safeN B) = (((safeN B : Nat) : Int), 0)) := by unfold Hid eNum; rw [hv]; rfl
    have HF0 : Hid (0 < B.ns → cS B b 0 = aloneN B 0) := fun h0 => by rw [← hb]; exact rare_first hG h0
    have HCA : Hid (∀ s, cS B b s ≤ aloneN B s) := fun s => by rw [← hb]; exact alone_ge (best_in _) s
    have HAC : Hid (∀ s, s < B.ns → (aloneN B s : Int) ≤ B.C s) := fun s hs => alone_le hG hs
    have HA4 : Hid (∀ s, s < B.ns → aloneN B s ≤ 4) := fun s hs => by have h1 := alone_le hG hs; have h2 := (hG.C s hs).2; omega
    have HC4 : Hid (∀ s, s < B.ns → B.C s ≤ 4) := fun s hs => (hG.C s hs).2
    have HSU : Hid (sumC (cS B b) B.ns ≤ sumN B) := by rw [← hb]; exact rare_sum hG
    have HSA : Hid (sumN B ≤ sumC (aloneN B) B.ns) := rare_all hG
    have HSF : Hid (safeN B ≤ safeC (aloneN B) B.ns) := rare_safe hG
    have HEA : Hid (∀ s : Nat, s < B.ns → eAlone B s = (((aloneN B s : Nat) : Int), 0)) := fun s hs => by
      unfold eAlone
      rw [hv, decide_eq_true (show (0 : Int) ≤ (s : Int) by omega), decide_eq_true (show (s : Int) < (B.ns : Int) by omega), Int.toNat_natCast]
      rfl
    have HCN : Hid ((cntL B b).length = B.ns) := by unfold Hid; simp [cntL, fromF]
    have HCG : Hid (∀ i, i < B.ns → (cntL B b).getD i 0 = ((cS B b i : Nat) : Int)) := fun i hi => by simp [cntL, fromF, hi]
    obtain ⟨sn, hsn⟩ : ∃ x, sumN B = x := ⟨_, rfl⟩
    obtain ⟨fn, hfn⟩ : ∃ x, safeN B = x := ⟨_, rfl⟩
    have HM' : Hid (eNum B (sumN B) = ((sn : Int), 0)) := by unfold Hid; rw [HM.out, hsn]
    have HS' : Hid (eNum B (safeN B) = ((fn : Int), 0)) := by unfold Hid; rw [HS.out, hfn]
    rw [hsn] at HSU HSA
    rw [hfn] at HSF
    clear hr hv hG hb hsn hfn HM HS
    go_enter Try.func4, Try.ntmps4
    go_wp2_with (first
      | (go_at_call 12; refine (ready_any N _ B _ (HBK.out.go HB0.out)).mono ?_; rintro e w1 ⟨rfl, hb1⟩; rw [HRY.out]; (try clear c0); have HB1 := Lib.hid (bel HB0.out hb1); have c1 := (old_of HB1.out).1; clear hb1)
      | (go_at_call 15; refine (kMost_any N _ B _ (HBK.out.go HB1.out)).mono ?_; rw [HM'.out]; rintro e w2 ⟨rfl, hb2⟩; (try clear c1); have HB2 := Lib.hid (bel HB1.out hb2); have c2 := (old_of HB2.out).1; clear hb2)
      | (go_at_call 16; refine (kBest_any N _ B _ (HBK.out.go HB2.out)).mono ?_; rw [HE.out]; rintro e w3 ⟨v3, rfl, ho3, hb3⟩; replace ho3 : OwnI w2.heap.size w3 v3 (cntL B b) := ho3; have hi3 := ho3.ints (by rw [HCN.out]; omega); rw [HCN.out] at hi3; obtain ⟨a5, z5, rfl⟩ : ∃ a c, v3 = .slice a B.ns c := (by obtain ⟨ao, cp, e, _⟩ := hi3; exact ⟨ao, cp, e⟩); have HI3 := Lib.hid hi3; clear ho3 hi3; (try clear c2); have HB3 := Lib.hid (bel HB2.out hb3); have c3 := (old_of HB3.out).1; clear hb3)
      | (go_at_call 17; refine (kSafe_any N _ B _ (HBK.out.go HB3.out)).mono ?_; rw [HS'.out]; rintro e w4 ⟨rfl, hb4⟩; have HI4 := Lib.hid (HI3.out.mono hb4 hb4.size); (try clear c3); have HB4 := Lib.hid (bel HB3.out hb4); have c4 := (old_of HB4.out).1; clear hb4))
    clear c4 hws
    go_loopw [9, 10, 11, 12] (fun al su tw i wr => ∃ k : Nat, k ≤ B.ns ∧ i = .int .i64 k ∧ al = .int .i64 (sumC (aloneN B) k : Nat) ∧ su = .int .i64 (sumC (cS B b) k : Nat) ∧ tw = .int .i64 (safeC (aloneN B) k : Nat) ∧ Hid (Below w4.heap.size w4 wr)) (fun _ _ _ i _ => B.ns - (intOf i).toNat)
    case atStart => exact ⟨0, Nat.zero_le _, rfl, rfl, rfl, rfl, Below.refl _ _⟩
    case round =>
      obtain ⟨k, hk, rfl, rfl, rfl, rfl, HBr⟩ := hrel
      have HBw : Hid (Below ws.heap.size ws wr) := bel HB4.out HBr.out
      have r0 := (HBw.out.cell (p := ⟨w.heap.size, 0, none⟩) hsz).trans q0
      have r1 := (HBw.out.cell (p := ⟨w.heap.size, 1, none⟩) hsz).trans q1
      have r2 := (HBw.out.cell (p := ⟨w.heap.size, 2, none⟩) hsz).trans q2
      have hl1 : sumC (aloneN B) k ≤ 4 * k := sumC_le4 k fun i hi => HA4.out i (by omega)
      have hl2 : sumC (cS B b) k ≤ 4 * k := sumC_le4 k fun i hi => Nat.le_trans (HCA.out i) (HA4.out i (by omega))
      have hl3 := safeC_le4 (aloneN B) k
      have HN1 : Hid (sumC (aloneN B) (k + 1) = sumC (aloneN B) k + aloneN B k) := rfl
      have HN2 : Hid (sumC (cS B b) (k + 1) = sumC (cS B b) k + cS B b k) := rfl
      have HN3 : Hid (safeC (aloneN B) (k + 1) = safeC (aloneN B) k + (if 2 ≤ aloneN B k then 1 else 0)) := rfl
      obtain ⟨x1, hx1⟩ : ∃ x, sumC (aloneN B) k = x := ⟨_, rfl⟩
      obtain ⟨x2, hx2⟩ : ∃ x, sumC (cS B b) k = x := ⟨_, rfl⟩
      obtain ⟨x3, hx3⟩ : ∃ x, safeC (aloneN B) k = x := ⟨_, rfl⟩
      have HX1 := Lib.hid hx1
      have HX2 := Lib.hid hx2
      have HX3 := Lib.hid hx3
      rw [hx1] at hl1 HN1
      rw [hx2] at hl2 HN2
      rw [hx3] at hl3 HN3
      rw [hx1, hx2, hx3]
      clear hx1 hx2 hx3
      by_cases hkn : k < B.ns
      · have hki : (k : Int) < (B.ns : Int) := by omega
        have HAK := Lib.hid (HEA.out k hkn)
        have h1 := HCA.out k
        have h2 := HAC.out k hkn
        have h3 := HA4.out k hkn
        have h3c := HC4.out k hkn
        have HF : Hid (k = 0 → cS B b k = aloneN B k) := fun e => by subst e; exact HF0.out (by omega)
        obtain ⟨bp, bo, e, hbl, hbr⟩ := HI4.out.cells (by omega)
        cases e
        have cb := (HBr.out.cell (p := ⟨bp, bo + k, none⟩) hbl).trans (hbr k hkn)
        rw [HCG.out k hkn] at cb
        obtain ⟨cp, co, e, hcl, hcr⟩ := HBK.out.scions.cells (by omega)
        cases e
        have cc := (HBw.out.cell (p := ⟨cp, co + k, none⟩) (show cp < ws.heap.size by have := HNS.out; omega)).trans (hcr k hkn)
        obtain ⟨ck, hck⟩ : ∃ x, cS B b k = x := ⟨_, rfl⟩
        obtain ⟨ak, hak⟩ : ∃ x, aloneN B k = x := ⟨_, rfl⟩
        obtain ⟨sc, hsc⟩ : ∃ x : Nat, B.C k = x := ⟨(B.C k).toNat, by omega⟩
        rw [hck] at cb h1 HN2 HF
        rw [hak] at h1 h2 h3 HN1 HN3 HAK HF
        rw [hsc] at cc h2 h3c
        clear hck hak hsc hbr hcr
        have t1 : ¬ (ak : Int) < 0 := by omega
        have t2 : ¬ (sc : Int) < (ak : Int) := by omega
        have t3 : ¬ (ck : Int) < 0 := by omega
        have t4 : ¬ (ak : Int) < (ck : Int) := by omega
        have hw1 : IntKind.i64.wrap ((x1 : Int) + (ak : Int)) = ((x1 + ak : Nat) : Int) := by rw [IntWalk.i64_in _ (by omega)]; omega
        have hw2 : IntKind.i64.wrap ((x2 : Int) + (ck : Int)) = ((x2 + ck : Nat) : Int) := by rw [IntWalk.i64_in _ (by omega)]; omega
        have hbp : bp < wr.heap.size := Nat.lt_of_lt_of_le hbl HBr.out.size
        have hcp : cp < wr.heap.size := by have := HNS.out; have := HBw.out.size; omega
        have hwr : w.heap.size < wr.heap.size := Nat.lt_of_lt_of_le hsz HBw.out.size
        by_cases hk0 : k = 0
        · subst hk0
          have hce : ck = ak := HF.out rfl
          subst hce
          have HAK0 : Hid (eAlone B 0 = ((ck : Int), 0)) := HAK.out
          have cb0 : wr.cell? ⟨bp, bo, none⟩ = some (.int .i64 ck) := cb
          have cc0 : wr.cell? ⟨cp, co, none⟩ = some (.int .i64 sc) := cc
          clear cb cc
          go_wp2_with (go_at_call 22; refine (kAlone_any N _ B 0 _ (HBK.out.go HBw.out)).mono ?_; rw [HAK0.out]; rintro e w5 ⟨rfl, hb5⟩; have HB5 := Lib.hid hb5; have cb := (hb5.cell (p := ⟨bp, bo, none⟩) hbp).trans cb0; have cc := (hb5.cell (p := ⟨cp, co, none⟩) hcp).trans cc0; have r0 := (hb5.cell (p := ⟨w.heap.size, 0, none⟩) hwr).trans r0; clear hb5)
          go_quiet (fail)
          by_cases h2a : 2 ≤ ck
          · have h2i : (2 : Int) ≤ (ck : Int) := by omega
            have HP : Hid (safeC (aloneN B) (0 + 1) = x3 + 1) := by unfold Hid; rw [HN3.out, if_pos h2a]
            clear h2a
            go_wp2
            go_roundw
            case rel => exact ⟨0 + 1, by omega, by go_num, by rw [HN1.out]; go_num, by rw [HN2.out]; go_num, by rw [HP.out]; go_num, below_drewN (bel HBr.out HB5.out) _⟩
            case measure => simp [intOf]; omega
          · have h2i : ¬ (2 : Int) ≤ (ck : Int) := by omega
            have HP : Hid (safeC (aloneN B) (0 + 1) = x3) := by unfold Hid; rw [HN3.out, if_neg h2a]; rfl
            clear h2a
            go_wp2
            go_roundw
            case rel => exact ⟨0 + 1, by omega, by go_num, by rw [HN1.out]; go_num, by rw [HN2.out]; go_num, by rw [HP.out], below_drewN (bel HBr.out HB5.out) _⟩
            case measure => simp [intOf]; omega
        · have hk0i : ((k : Int) == 0) = false := by simp; omega
          go_wp2_with (go_at_call 22; refine (kAlone_any N _ B _ _ (HBK.out.go HBw.out)).mono ?_; rw [HAK.out]; rintro e w5 ⟨rfl, hb5⟩; have HB5 := Lib.hid hb5; have cb := (hb5.cell (p := ⟨bp, bo + k, none⟩) hbp).trans cb; have cc := (hb5.cell (p := ⟨cp, co + k, none⟩) hcp).trans cc; have r0 := (hb5.cell (p := ⟨w.heap.size, 0, none⟩) hwr).trans r0; clear hb5)
          go_quiet (fail)
          by_cases h2a : 2 ≤ ak
          · have h2i : (2 : Int) ≤ (ak : Int) := by omega
            have HP : Hid (safeC (aloneN B) (k + 1) = x3 + 1) := by unfold Hid; rw [HN3.out, if_pos h2a]
            clear h2a
            go_wp2
            go_roundw
            case rel => exact ⟨k + 1, by omega, by go_num, by rw [HN1.out]; go_num, by rw [HN2.out]; go_num, by rw [HP.out]; go_num, below_drewN (bel HBr.out HB5.out) _⟩
            case measure => simp [intOf]; omega
          · have h2i : ¬ (2 : Int) ≤ (ak : Int) := by omega
            have HP : Hid (safeC (aloneN B) (k + 1) = x3) := by unfold Hid; rw [HN3.out, if_neg h2a]; rfl
            clear h2a
            go_wp2
            go_roundw
            case rel => exact ⟨k + 1, by omega, by go_num, by rw [HN1.out]; go_num, by rw [HN2.out]; go_num, by rw [HP.out], below_drewN (bel HBr.out HB5.out) _⟩
            case measure => simp [intOf]; omega
      · have hkk : k = B.ns := by omega
        subst hkk
        have e1 := HSU.out
        have e2 := HSA.out
        have e3 := HSF.out
        rw [HX2.out] at e1
        rw [HX1.out] at e2
        rw [HX3.out] at e3
        have f1 : (x2 : Int) ≤ (sn : Int) := by omega
        have f2 : (sn : Int) ≤ (x1 : Int) := by omega
        have f3 : (0 : Int) ≤ (fn : Int) := by omega
        have f4 : (fn : Int) ≤ (x3 : Int) := by omega
        clear e1 e2 e3
        go_wp2_with (go_at_call 14; refine (works_any _).mono ?_; rintro e w9 ⟨rfl, hb9⟩; have HB9 := Lib.hid hb9; clear hb9)
        go_ret
        exact ⟨rfl, fin HB.out (bel HBw.out HB9.out)⟩

end Go.Proofs.Ytnnngbnimmcjiaa
