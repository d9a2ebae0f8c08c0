/-
  LMade: KeysMade for every book and all nodes.
-/
import Derived.Test.YtghimbggbgcgkaaLBest
import Derived.Test.YtghimbggbgcgkaaMade2
import Derived.Test.YtghimbggbgcgkaaDataK
namespace Go.Proofs.Ytghimbggbgcgkaa
open Go.RowKit

section
variable {H : Type} {enc : TypeId × Value → H}
set_option maxRecDepth 100000 in
theorem open_nodes1 {w : World} {v : Value} {base : Nat} {d : DataW H} {ps : List MemPlace} (hv : Value.okWide Try.prog w .any base 24 v)
    (h : DataW.Trod enc Try.prog w 0 (fun _ => true) true 24 v d ps) (hw : ∀ n ∈ d.weights Try.prog 24, n ≤ reachBytes) (hlt : ∀ p ∈ ps, p.block < w.heap.size) :
    ∃ D, NodesAt w.heap.size w v D := by
  obtain ⟨fuel, h⟩ := h
  obtain ⟨a, c, D, hcs, hr⟩ := open_nodes h hw hlt
  obtain rfl := okWide_slice Try.underlying24 hv hcs
  exact ⟨D, hr⟩
end

set_option maxHeartbeats 8000000 in
set_option maxRecDepth 100000 in
theorem cmade_any (N : Nat) (v u : Value) (B : KB) (D : Nd) (w : World) (h : BookAt N w v B) (hu : NodesAt N w u D) :
    Calls Try.prog 6 #[v, u] w fun e w' => e = .returned (.bool true) ∧ Below w.heap.size w w' := by
  have hN := h.1
  have h' := h
  obtain ⟨_, a1, z1, a2, z2, a3, z3, rfl, _⟩ := h'
  obtain ⟨ws, hws, HB, hsz, hblk⟩ := box1 w (.cells #[.slice a1 B.nv z1, .slice a2 B.ns z2, .slice a3 B.D.n z3] 26)
  have q0 := cell_blk hblk 0 rfl
  have q1 := cell_blk hblk 1 rfl
  have q2 := cell_blk hblk 2 rfl
  have HBK := Lib.hid (h.go HB.out)
  have HB0 : Hid (Below ws.heap.size ws ws) := Below.refl _ _
  have HNS : Hid (N ≤ ws.heap.size) := HBK.out.1
  have hlens := h.lens
  obtain ⟨hlv, hls, hln⟩ := hlens
  clear hblk h
  have HU := Lib.hid (hu.go hN HB.out)
  clear hu
  cases hrd : readyB B with
  | false =>
    have HRD := Lib.hid hrd
    clear hrd
    go_enter Try.func6, Try.ntmps6
    go_wp2_with (first
      | (go_at_call 15; refine (ready_any N _ B _ (HBK.out.go HB0.out)).mono ?_; rintro e w1 ⟨rfl, hb1⟩; rw [HRD.out]; (try clear c0); have HB1 := Lib.hid (bel HB0.out hb1); have c1 := (old_of HB1.out).1; clear hb1)
      | (go_at_call 17; refine (works_any _).mono ?_; rintro e w2 ⟨rfl, hb2⟩; (try clear c1); have HB2 := Lib.hid (bel HB1.out hb2); have c2 := (old_of HB2.out).1; clear hb2))
    go_ret
    exact ⟨rfl, fin HB.out HB2.out⟩
  | true =>
    have HRD := Lib.hid hrd
    have hfar : farB B = false := by unfold readyB at hrd; cases hf : farB B with | false => rfl | true => rw [hf] at hrd; cases hrd
    have hok : okKB B = true := by unfold readyB at hrd; cases hf : okKB B with | true => rfl | false => rw [hf] at hrd; simp at hrd
    have HNS7 : Hid (okKB B = true → B.ns ≤ 7) := fun hk => near_ns7 hfar hk
    have HG := Lib.hid (goodB hok)
    cases hfn : farN D with
    | true =>
      have HFN := Lib.hid hfn
      clear hrd hfar hok hfn
      go_enter Try.func6, Try.ntmps6
      go_wp2_with (first
        | (go_at_call 15; refine (ready_any N _ B _ (HBK.out.go HB0.out)).mono ?_; rintro e w1 ⟨rfl, hb1⟩; rw [HRD.out]; (try clear c0); have HB1 := Lib.hid (bel HB0.out hb1); have c1 := (old_of HB1.out).1; clear hb1)
        | (go_at_call 31; refine (far_any _ _ D _ (HU.out.go HNS.out HB1.out)).mono ?_; rw [HFN.out]; rintro e wq ⟨rfl, hwq⟩; rw [hwq]; clear hwq wq)
        | (go_at_call 17; refine (works_any _).mono ?_; rintro e w2 ⟨rfl, hb2⟩; (try clear c1); have HB2 := Lib.hid (bel HB1.out hb2); have c2 := (old_of HB2.out).1; clear hb2))
      go_ret
      exact ⟨rfl, fin HB.out HB2.out⟩
    | false =>
      have HFN := Lib.hid hfn
      cases hd : diffB B with
      | false =>
        have HDD : Hid (eDiff B = 3) := by unfold Hid eDiff; rw [hok, hd]; rfl
        have HE1 : Hid (eLeast B false = (0, 3)) := by unfold Hid eLeast; rw [hok, hd]; rfl
        have HE2 : Hid (eLeast B true = (0, 3)) := by unfold Hid eLeast; rw [hok, hd]; rfl
        have HE3 : Hid (eFew B = (0, 3)) := by unfold Hid eFew; rw [hok, hd]; rfl
        clear hrd hfar hok hfn hd
        go_enter Try.func6, Try.ntmps6
        go_wp2_with (first
          | (go_at_call 15; refine (ready_any N _ B _ (HBK.out.go HB0.out)).mono ?_; rintro e w1 ⟨rfl, hb1⟩; rw [HRD.out]; (try clear c0); have HB1 := Lib.hid (bel HB0.out hb1); have c1 := (old_of HB1.out).1; clear hb1)
          | (go_at_call 31; have hx := HFN; clear HFN; refine (far_any _ _ D _ (HU.out.go HNS.out HB1.out)).mono ?_; rw [hx.out]; rintro e wq ⟨rfl, hwq⟩; rw [hwq]; clear hwq wq)
          | (go_at_call 32; refine (kBest_any N _ B _ (HBK.out.go HB1.out)).mono ?_; rw [HE1.out]; rintro e w4 ⟨rfl, hb4⟩; (try clear c1); have HB4 := Lib.hid (bel HB1.out hb4); have c4 := (old_of HB4.out).1; clear hb4)
          | (go_at_call 33; refine (kMean_any N _ B _ (HBK.out.go HB4.out)).mono ?_; rw [HE2.out]; rintro e w5 ⟨rfl, hb5⟩; (try clear c4); have HB5 := Lib.hid (bel HB4.out hb5); have c5 := (old_of HB5.out).1; clear hb5)
          | (go_at_call 34; refine (kFew_any N _ B _ (HBK.out.go HB5.out)).mono ?_; rw [HE3.out]; rintro e w6 ⟨rfl, hb6⟩; (try clear c5); have HB6 := Lib.hid (bel HB5.out hb6); have c6 := (old_of HB6.out).1; clear hb6)
          | (go_at_call 35; refine (kMake_any N _ B _ (HBK.out.go HB6.out) HNS7.out).mono ?_; rintro e w8 ⟨⟨nd, l, rfl, hnd, hz, _⟩, hb8⟩; obtain rfl := hz (by rw [HDD.out]; decide); rw [HDD.out]; obtain ⟨aN, cN, hnv, _, _⟩ := id hnd; rw [show (ndOf []).n = 0 from rfl] at hnv; subst hnv; have HND := Lib.hid hnd; clear hnd hz; (try clear c6); have HB8 := Lib.hid (bel HB6.out hb8); have c8 := (old_of HB8.out).1; clear hb8)
          | (go_at_call 36; refine (isKnown3 _).mono ?_; rintro e wq ⟨rfl, hwq⟩; rw [hwq]; clear hwq wq)
          | (go_at_call 31; refine (far_any _ _ (ndOf []) _ HND.out).mono ?_; rw [farN_nil]; rintro e wq ⟨rfl, hwq⟩; rw [hwq]; clear hwq wq)
          | (go_at_call 17; refine (works_any _).mono ?_; rintro e wH ⟨rfl, hbH⟩; (try clear c8); have HBH := Lib.hid (bel HB8.out hbH); have cH := (old_of HBH.out).1; clear hbH))
        go_ret
        exact ⟨rfl, fin HB.out HBH.out⟩
      | true =>
        have HDD : Hid (eDiff B = 0) := by unfold Hid eDiff; rw [hok, hd]; rfl
        have HDF := Lib.hid hd
        obtain ⟨m1, hm1⟩ : ∃ x, leastL B false 8 (List.range B.ns) = x := ⟨_, rfl⟩
        obtain ⟨t1, ht1⟩ : ∃ x, leastL B true 8 (List.range B.ns) = x := ⟨_, rfl⟩
        obtain ⟨fw, hfw⟩ : ∃ x, fewF (pairsL B B.ns) B.nv (2 ^ B.nv) = x := ⟨_, rfl⟩
        have HE1 : Hid (eLeast B false = (m1, 0)) := by unfold Hid eLeast; rw [hok, hd, ← hm1]; rfl
        have HE2 : Hid (eLeast B true = (t1, 0)) := by unfold Hid eLeast; rw [hok, hd, ← ht1]; rfl
        have HE3 : Hid (eFew B = ((fw : Int), 0)) := by unfold Hid eFew; rw [hok, hd, ← hfw]; rfl
        obtain ⟨n1, n2, n3, n4, n5⟩ := made_numbers HG.out hd
        rw [hm1] at n1 n2 n4 n5
        rw [hfw] at n2 n3
        rw [ht1] at n4 n5
        have hns8 := HG.out.ns
        have hnv5 := HG.out.nv
        have hmul : 0 ≤ m1 * (B.ns : Int) ∧ m1 * (B.ns : Int) ≤ 5 * 8 := ⟨Int.mul_nonneg n1 (by omega), Int.mul_le_mul (by omega) (by omega) (by omega) (by omega)⟩
        obtain ⟨mm, hmm⟩ : ∃ mm, m1 * (B.ns : Int) = mm := ⟨_, rfl⟩
        rw [hmm] at n5 hmul
        have hwr : IntKind.i64.wrap (m1 * (B.ns : Int)) = mm := by rw [hmm]; exact IntWalk.i64_in _ (by omega)
        have b1 : ¬ m1 < 0 := by omega
        have b2 : ¬ (fw : Int) < m1 := by omega
        have b3 : ¬ (B.nv : Int) < (fw : Int) := by omega
        have b4 : ¬ t1 < m1 := by omega
        have b5 : ¬ mm < t1 := by omega
        have HM1 := Lib.hid hm1
        have HT1 := Lib.hid ht1
        clear hmm hm1 ht1 hfw n1 n2 n3 n4 n5 hmul
        cases hon : okN B.nv B.V B.ns D 40 with
        | false =>
          have HON := Lib.hid hon
          clear hrd hfar hok hfn hd hon
          go_enter Try.func6, Try.ntmps6
          go_wp2_with (first
            | (go_at_call 15; refine (ready_any N _ B _ (HBK.out.go HB0.out)).mono ?_; rintro e w1 ⟨rfl, hb1⟩; rw [HRD.out]; (try clear c0); have HB1 := Lib.hid (bel HB0.out hb1); have c1 := (old_of HB1.out).1; clear hb1)
            | (go_at_call 31; have hx := HFN; clear HFN; refine (far_any _ _ D _ (HU.out.go HNS.out HB1.out)).mono ?_; rw [hx.out]; rintro e wq ⟨rfl, hwq⟩; rw [hwq]; clear hwq wq)
            | (go_at_call 32; refine (kBest_any N _ B _ (HBK.out.go HB1.out)).mono ?_; rw [HE1.out]; rintro e w4 ⟨rfl, hb4⟩; (try clear c1); have HB4 := Lib.hid (bel HB1.out hb4); have c4 := (old_of HB4.out).1; clear hb4)
            | (go_at_call 33; refine (kMean_any N _ B _ (HBK.out.go HB4.out)).mono ?_; rw [HE2.out]; rintro e w5 ⟨rfl, hb5⟩; (try clear c4); have HB5 := Lib.hid (bel HB4.out hb5); have c5 := (old_of HB5.out).1; clear hb5)
            | (go_at_call 34; refine (kFew_any N _ B _ (HBK.out.go HB5.out)).mono ?_; rw [HE3.out]; rintro e w6 ⟨rfl, hb6⟩; (try clear c5); have HB6 := Lib.hid (bel HB5.out hb6); have c6 := (old_of HB6.out).1; clear hb6)
            | (go_at_call 35; refine (kMake_any N _ B _ (HBK.out.go HB6.out) HNS7.out).mono ?_; rintro e w8 ⟨⟨nd, l, rfl, hnd, _, hk⟩, hb8⟩; rw [HDD.out]; obtain ⟨ss, hk⟩ := hk HDD.out; obtain ⟨aN, cN, hnv, _, _⟩ := id hnd; subst hnv; have HMK := Lib.hid (madeK HDD.out hk); have HND := Lib.hid hnd; clear hnd hk; obtain ⟨D1, hDe⟩ : ∃ D1, ndOf l = D1 := ⟨_, rfl⟩; rw [hDe] at HMK HND ⊢; clear hDe; have hN8 := hb8.size; have HBM := Lib.hid ((HBK.out.go (bel HB6.out hb8)).raise (Nat.le_trans HBK.out.1 (Nat.le_trans HB6.out.size hN8)) (Nat.le_refl _)); clear hN8; (try clear c6); have HB8 := Lib.hid (bel HB6.out hb8); have c8 := (old_of HB8.out).1; clear hb8)
            | (go_at_call 36; refine (isKnown0 _).mono ?_; rintro e wq ⟨rfl, hwq⟩; rw [hwq]; clear hwq wq)
            | (go_at_call 31; refine (far_any _ _ D1 _ HND.out).mono ?_; rw [HMK.out.far]; rintro e wq ⟨rfl, hwq⟩; rw [hwq]; clear hwq wq)
            | (go_at_call 37; have hnd := HND.out; have hbm := HBM.out; clear HND HBM; refine (areNodes_any _ _ _ B D1 40 (by decide) _ hbm hnd).mono ?_; rw [HMK.out.okN]; rintro e wA ⟨rfl, hbA⟩; have HNDA := Lib.hid (hnd.go (Nat.le_refl _) hbA); have HBMA := Lib.hid (hbm.go hbA); clear hnd hbm; (try clear c8); have HBA := Lib.hid (bel HB8.out hbA); have cA := (old_of HBA.out).1; clear hbA)
            | (go_at_call 38; have hnd := HNDA.out; have hbm := HBMA.out; clear HNDA HBMA; refine (names_any _ _ _ B D1 _ hbm hnd HG.out (goodN HMK.out.okN).1 (Nat.le_trans (goodN HMK.out.okN).2 (by decide))).mono ?_; clear hnd hbm; rw [HMK.out.is]; rintro e wB ⟨rfl, hbB⟩; have hworst : ¬ m1 < (worstN B D1 B.ns : Int) := Int.not_lt.2 (Int.le_trans HMK.out.worst (Int.le_of_eq (congrArg Prod.fst HE1.out))); (try clear cA); have HBB := Lib.hid (bel HBA.out hbB); have cB := (old_of HBB.out).1; clear hbB)
            | (go_at_call 37; refine (areNodes_any _ _ _ B D 40 (by decide) _ (HBK.out.go HBB.out) (HU.out.go HNS.out HBB.out)).mono ?_; rw [HON.out]; rintro e wC ⟨rfl, hbC⟩; (try clear cB); have HBC := Lib.hid (bel HBB.out hbC); have cC := (old_of HBC.out).1; clear hbC)
            | (go_at_call 17; refine (works_any _).mono ?_; rintro e wH ⟨rfl, hbH⟩; (try clear cC); have HBH := Lib.hid (bel HBC.out hbH); have cH := (old_of HBH.out).1; clear hbH))
          go_ret
          exact ⟨rfl, fin HB.out HBH.out⟩
        | true =>
          have HON := Lib.hid hon
          have HGN := Lib.hid (goodN hon).1
          have H1000 : Hid (D.n ≤ 1000) := Nat.le_trans (goodN hon).2 (by decide)
          cases hik : isK B D B.ns with
          | false =>
            have HIK := Lib.hid hik
            clear hrd hfar hok hfn hd hon hik
            go_enter Try.func6, Try.ntmps6
            go_wp2_with (first
              | (go_at_call 15; refine (ready_any N _ B _ (HBK.out.go HB0.out)).mono ?_; rintro e w1 ⟨rfl, hb1⟩; rw [HRD.out]; (try clear c0); have HB1 := Lib.hid (bel HB0.out hb1); have c1 := (old_of HB1.out).1; clear hb1)
              | (go_at_call 31; have hx := HFN; clear HFN; refine (far_any _ _ D _ (HU.out.go HNS.out HB1.out)).mono ?_; rw [hx.out]; rintro e wq ⟨rfl, hwq⟩; rw [hwq]; clear hwq wq)
              | (go_at_call 32; refine (kBest_any N _ B _ (HBK.out.go HB1.out)).mono ?_; rw [HE1.out]; rintro e w4 ⟨rfl, hb4⟩; (try clear c1); have HB4 := Lib.hid (bel HB1.out hb4); have c4 := (old_of HB4.out).1; clear hb4)
              | (go_at_call 33; refine (kMean_any N _ B _ (HBK.out.go HB4.out)).mono ?_; rw [HE2.out]; rintro e w5 ⟨rfl, hb5⟩; (try clear c4); have HB5 := Lib.hid (bel HB4.out hb5); have c5 := (old_of HB5.out).1; clear hb5)
              | (go_at_call 34; refine (kFew_any N _ B _ (HBK.out.go HB5.out)).mono ?_; rw [HE3.out]; rintro e w6 ⟨rfl, hb6⟩; (try clear c5); have HB6 := Lib.hid (bel HB5.out hb6); have c6 := (old_of HB6.out).1; clear hb6)
              | (go_at_call 35; refine (kMake_any N _ B _ (HBK.out.go HB6.out) HNS7.out).mono ?_; rintro e w8 ⟨⟨nd, l, rfl, hnd, _, hk⟩, hb8⟩; rw [HDD.out]; obtain ⟨ss, hk⟩ := hk HDD.out; obtain ⟨aN, cN, hnv, _, _⟩ := id hnd; subst hnv; have HMK := Lib.hid (madeK HDD.out hk); have HND := Lib.hid hnd; clear hnd hk; obtain ⟨D1, hDe⟩ : ∃ D1, ndOf l = D1 := ⟨_, rfl⟩; rw [hDe] at HMK HND ⊢; clear hDe; have hN8 := hb8.size; have HBM := Lib.hid ((HBK.out.go (bel HB6.out hb8)).raise (Nat.le_trans HBK.out.1 (Nat.le_trans HB6.out.size hN8)) (Nat.le_refl _)); clear hN8; (try clear c6); have HB8 := Lib.hid (bel HB6.out hb8); have c8 := (old_of HB8.out).1; clear hb8)
              | (go_at_call 36; refine (isKnown0 _).mono ?_; rintro e wq ⟨rfl, hwq⟩; rw [hwq]; clear hwq wq)
              | (go_at_call 31; refine (far_any _ _ D1 _ HND.out).mono ?_; rw [HMK.out.far]; rintro e wq ⟨rfl, hwq⟩; rw [hwq]; clear hwq wq)
              | (go_at_call 37; have hnd := HND.out; have hbm := HBM.out; clear HND HBM; refine (areNodes_any _ _ _ B D1 40 (by decide) _ hbm hnd).mono ?_; rw [HMK.out.okN]; rintro e wA ⟨rfl, hbA⟩; have HNDA := Lib.hid (hnd.go (Nat.le_refl _) hbA); have HBMA := Lib.hid (hbm.go hbA); clear hnd hbm; (try clear c8); have HBA := Lib.hid (bel HB8.out hbA); have cA := (old_of HBA.out).1; clear hbA)
              | (go_at_call 38; have hnd := HNDA.out; have hbm := HBMA.out; clear HNDA HBMA; refine (names_any _ _ _ B D1 _ hbm hnd HG.out (goodN HMK.out.okN).1 (Nat.le_trans (goodN HMK.out.okN).2 (by decide))).mono ?_; clear hnd hbm; rw [HMK.out.is]; rintro e wB ⟨rfl, hbB⟩; have hworst : ¬ m1 < (worstN B D1 B.ns : Int) := Int.not_lt.2 (Int.le_trans HMK.out.worst (Int.le_of_eq (congrArg Prod.fst HE1.out))); (try clear cA); have HBB := Lib.hid (bel HBA.out hbB); have cB := (old_of HBB.out).1; clear hbB)
              | (go_at_call 37; refine (areNodes_any _ _ _ B D 40 (by decide) _ (HBK.out.go HBB.out) (HU.out.go HNS.out HBB.out)).mono ?_; rw [HON.out]; rintro e wC ⟨rfl, hbC⟩; (try clear cB); have HBC := Lib.hid (bel HBB.out hbC); have cC := (old_of HBC.out).1; clear hbC)
              | (go_at_call 38; refine (names_any _ _ _ B D _ (HBK.out.go HBC.out) (HU.out.go HNS.out HBC.out) HG.out HGN.out H1000.out).mono ?_; rw [HIK.out]; rintro e wD ⟨rfl, hbD⟩; (try clear cC); have HBD := Lib.hid (bel HBC.out hbD); have cD := (old_of HBD.out).1; clear hbD)
              | (go_at_call 17; refine (works_any _).mono ?_; rintro e wH ⟨rfl, hbH⟩; (try clear cD); have HBH := Lib.hid (bel HBD.out hbH); have cH := (old_of HBH.out).1; clear hbH))
            go_ret
            exact ⟨rfl, fin HB.out HBH.out⟩
          | true =>
            have HIK := Lib.hid hik
            obtain ⟨o1, o2⟩ := made_none HG.out hd (goodN hon).1 hik
            obtain ⟨W2, hW2⟩ : ∃ x, worstN B D B.ns = x := ⟨_, rfl⟩
            obtain ⟨S2, hS2⟩ : ∃ x, sumN B D B.ns = x := ⟨_, rfl⟩
            rw [HM1.out, hW2] at o1
            rw [HT1.out, hS2] at o2
            have HW2 := Lib.hid hW2
            have HS2 := Lib.hid hS2
            clear hrd hfar hok hfn hd hon hik hW2 hS2
            go_enter Try.func6, Try.ntmps6
            go_wp2_with (first
              | (go_at_call 15; refine (ready_any N _ B _ (HBK.out.go HB0.out)).mono ?_; rintro e w1 ⟨rfl, hb1⟩; rw [HRD.out]; (try clear c0); have HB1 := Lib.hid (bel HB0.out hb1); have c1 := (old_of HB1.out).1; clear hb1)
              | (go_at_call 31; have hx := HFN; clear HFN; refine (far_any _ _ D _ (HU.out.go HNS.out HB1.out)).mono ?_; rw [hx.out]; rintro e wq ⟨rfl, hwq⟩; rw [hwq]; clear hwq wq)
              | (go_at_call 32; refine (kBest_any N _ B _ (HBK.out.go HB1.out)).mono ?_; rw [HE1.out]; rintro e w4 ⟨rfl, hb4⟩; (try clear c1); have HB4 := Lib.hid (bel HB1.out hb4); have c4 := (old_of HB4.out).1; clear hb4)
              | (go_at_call 33; refine (kMean_any N _ B _ (HBK.out.go HB4.out)).mono ?_; rw [HE2.out]; rintro e w5 ⟨rfl, hb5⟩; (try clear c4); have HB5 := Lib.hid (bel HB4.out hb5); have c5 := (old_of HB5.out).1; clear hb5)
              | (go_at_call 34; refine (kFew_any N _ B _ (HBK.out.go HB5.out)).mono ?_; rw [HE3.out]; rintro e w6 ⟨rfl, hb6⟩; (try clear c5); have HB6 := Lib.hid (bel HB5.out hb6); have c6 := (old_of HB6.out).1; clear hb6)
              | (go_at_call 35; refine (kMake_any N _ B _ (HBK.out.go HB6.out) HNS7.out).mono ?_; rintro e w8 ⟨⟨nd, l, rfl, hnd, _, hk⟩, hb8⟩; rw [HDD.out]; obtain ⟨ss, hk⟩ := hk HDD.out; obtain ⟨aN, cN, hnv, _, _⟩ := id hnd; subst hnv; have HMK := Lib.hid (madeK HDD.out hk); have HND := Lib.hid hnd; clear hnd hk; obtain ⟨D1, hDe⟩ : ∃ D1, ndOf l = D1 := ⟨_, rfl⟩; rw [hDe] at HMK HND ⊢; clear hDe; have hN8 := hb8.size; have HBM := Lib.hid ((HBK.out.go (bel HB6.out hb8)).raise (Nat.le_trans HBK.out.1 (Nat.le_trans HB6.out.size hN8)) (Nat.le_refl _)); clear hN8; (try clear c6); have HB8 := Lib.hid (bel HB6.out hb8); have c8 := (old_of HB8.out).1; clear hb8)
              | (go_at_call 36; refine (isKnown0 _).mono ?_; rintro e wq ⟨rfl, hwq⟩; rw [hwq]; clear hwq wq)
              | (go_at_call 31; refine (far_any _ _ D1 _ HND.out).mono ?_; rw [HMK.out.far]; rintro e wq ⟨rfl, hwq⟩; rw [hwq]; clear hwq wq)
              | (go_at_call 37; have hnd := HND.out; have hbm := HBM.out; clear HND HBM; refine (areNodes_any _ _ _ B D1 40 (by decide) _ hbm hnd).mono ?_; rw [HMK.out.okN]; rintro e wA ⟨rfl, hbA⟩; have HNDA := Lib.hid (hnd.go (Nat.le_refl _) hbA); have HBMA := Lib.hid (hbm.go hbA); clear hnd hbm; (try clear c8); have HBA := Lib.hid (bel HB8.out hbA); have cA := (old_of HBA.out).1; clear hbA)
              | (go_at_call 38; have hnd := HNDA.out; have hbm := HBMA.out; clear HNDA HBMA; refine (names_any _ _ _ B D1 _ hbm hnd HG.out (goodN HMK.out.okN).1 (Nat.le_trans (goodN HMK.out.okN).2 (by decide))).mono ?_; clear hnd hbm; rw [HMK.out.is]; rintro e wB ⟨rfl, hbB⟩; have hworst : ¬ m1 < (worstN B D1 B.ns : Int) := Int.not_lt.2 (Int.le_trans HMK.out.worst (Int.le_of_eq (congrArg Prod.fst HE1.out))); (try clear cA); have HBB := Lib.hid (bel HBA.out hbB); have cB := (old_of HBB.out).1; clear hbB)
              | (go_at_call 37; refine (areNodes_any _ _ _ B D 40 (by decide) _ (HBK.out.go HBB.out) (HU.out.go HNS.out HBB.out)).mono ?_; rw [HON.out]; rintro e wC ⟨rfl, hbC⟩; (try clear cB); have HBC := Lib.hid (bel HBB.out hbC); have cC := (old_of HBC.out).1; clear hbC)
              | (go_at_call 38; refine (names_any _ _ _ B D _ (HBK.out.go HBC.out) (HU.out.go HNS.out HBC.out) HG.out HGN.out H1000.out).mono ?_; rw [HIK.out, HW2.out, HS2.out]; rintro e wD ⟨rfl, hbD⟩; (try clear cC); have HBD := Lib.hid (bel HBC.out hbD); have cD := (old_of HBD.out).1; clear hbD)
              | (go_at_call 17; refine (works_any _).mono ?_; rintro e wH ⟨rfl, hbH⟩; (try clear cD); have HBH := Lib.hid (bel HBD.out hbH); have cH := (old_of HBH.out).1; clear hbH))
            go_ret
            exact ⟨rfl, fin HB.out HBH.out⟩

end Go.Proofs.Ytghimbggbgcgkaa
