/-
  LBest: ScionsBest returns true.
-/
import Derived.Test.YtnnngbnimmcjiaaLFits
import Derived.Test.YtnnngbnimmcjiaaRBest
namespace Go.Proofs.Ytnnngbnimmcjiaa
open Go.RowKit

theorem tailG_up (B : SB) : ∀ (f : Nat) (b : List Nat), f ≤ B.nw → b.Pairwise (· < ·) → (∀ k, k ∈ b → k < B.nw - f) → ∀ x, x ∈ tailG B f b → x.Pairwise (· < ·) := by
  intro f
  induction f with
  | zero => intro b _ _ _ x hx; simp [tailG] at hx
  | succ f ih =>
    intro b hf hp hk x hx
    unfold tailG at hx
    rcases List.mem_append.1 hx with h | h
    · split at h
      · have hp2 : (b ++ [B.nw - (f + 1)]).Pairwise (· < ·) := by
          rw [List.pairwise_append]
          exact ⟨hp, List.pairwise_singleton _ _, fun a ha c hc => by rw [List.mem_singleton.1 hc]; exact hk a ha⟩
        rcases List.mem_cons.1 h with h | h
        · rw [h]; exact hp2
        · refine ih _ (by omega) hp2 (fun k hkm => ?_) x h
          rcases List.mem_append.1 hkm with h | h
          · have := hk k h; omega
          · have := List.mem_singleton.1 h; omega
      · cases h
    · exact ih b (by omega) hp (fun k h => by have := hk k h; omega) x h
theorem giftsL_up {B : SB} {x : List Nat} (h : x ∈ giftsL B) : x.Pairwise (· < ·) := by
  rcases List.mem_cons.1 h with h | h
  · rw [h]; exact List.Pairwise.nil
  · exact tailG_up B B.nw [] (Nat.le_refl _) List.Pairwise.nil (fun k hk => by cases hk) x h
theorem bestL_up {B : SB} (f : List Nat → Nat) : (bestL f (giftsL B)).Pairwise (· < ·) := by
  rcases bestL_mem f (giftsL B) with e | e
  · rw [e]; exact List.Pairwise.nil
  · exact giftsL_up e
theorem okGift_of {B : SB} {g : List Nat} (h : GOK B g) (hp : g.Pairwise (· < ·)) : okGift B.nw g.length (fun i => ((g.getD i 0 : Nat) : Int)) = true := by
  unfold okGift
  refine allB_true.2 fun i hi => ?_
  have hm : g.getD i 0 ∈ g := by rw [List.getD_eq_getElem?_getD, List.getElem?_eq_getElem hi]; exact List.getElem_mem _
  have h1 := h.lt _ hm
  have h2 := h.top
  simp only [Bool.and_eq_true, Bool.or_eq_true, decide_eq_true_eq]
  refine ⟨⟨by omega, by omega⟩, ?_⟩
  rcases Nat.eq_zero_or_pos i with h0 | h0
  · exact .inl (by omega)
  · refine .inr ?_
    have := List.pairwise_iff_getElem.1 hp (i - 1) i (by omega) hi (by omega)
    simp only [List.getD_eq_getElem?_getD, List.getElem?_eq_getElem hi, List.getElem?_eq_getElem (show i - 1 < g.length by omega), Option.getD_some]
    omega
theorem sameI_cnt (B : SB) (g : List Nat) : sameI B.ns (fun i => ((cS B g i : Nat) : Int)) (cntL B g).length (fun i => (cntL B g).getD i 0) = true := by
  unfold sameI
  rw [Bool.and_eq_true, decide_eq_true_eq, allB_true]
  refine ⟨by simp [cntL, fromF], fun i hi => decide_eq_true ?_⟩
  simp [cntL, fromF, hi]

set_option maxHeartbeats 4000000 in
set_option maxRecDepth 100000 in
theorem cbest_any (N : Nat) (v : Value) (B : SB) (w : World) (h : BookAt N w v B) :
    Calls Try.prog 10 #[v] w fun e w' => e = .returned (.bool true) ∧ Below w.heap.size w w' := by
  have h' := h
  obtain ⟨_, a1, z1, a2, z2, a3, z3, rfl, _⟩ := h'
  obtain ⟨ws, hws, HB, hsz, hblk⟩ := box1 w (.cells #[.slice a1 B.ns z1, .slice a2 B.ng z2, .slice a3 B.nw z3] 26)
  have q0 := cell_blk hblk 0 rfl
  have q1 := cell_blk hblk 1 rfl
  have q2 := cell_blk hblk 2 rfl
  have HBK := Lib.hid (h.go HB.out)
  have HB0 : Hid (Below ws.heap.size ws ws) := Below.refl _ _
  have HNS : Hid (N ≤ ws.heap.size) := HBK.out.1
  have hlens := h.lens
  obtain ⟨hlv, hls, hln⟩ := hlens
  clear hblk h
  cases hfar : farL B with
  | true =>
    have HFA := Lib.hid hfar
    clear hfar
    go_enter Try.func10, Try.ntmps10
    go_wp2_with (first
      | (go_at_call 33; refine (Far_any N _ B _ (HBK.out.go HB0.out)).mono ?_; rintro e w1 ⟨rfl, hb1⟩; rw [HFA.out]; (try clear c0); have HB1 := Lib.hid (bel HB0.out hb1); have c1 := (old_of HB1.out).1; clear hb1)
      | (go_at_call 14; refine (works_any _).mono ?_; rintro e w2 ⟨rfl, hb2⟩; (try clear c1); have HB2 := Lib.hid (bel HB1.out hb2); have c2 := (old_of HB2.out).1; clear hb2))
    go_ret
    exact ⟨rfl, fin HB.out HB2.out⟩
  | false =>
    have HFA := Lib.hid hfar
    obtain ⟨l1, l2, l3, _⟩ := farL_le hfar
    have HNE := Lib.hid (And.intro l1 (And.intro l2 l3))
    have hns1 : B.ns ≤ 1000 := by omega
    clear hfar l1 l2 l3
    cases hv : okL B with
    | false =>
      have HE : Hid (eBest B = ([], 60)) := by unfold Hid eBest eList; rw [hv]; rfl
      have HGI : Hid (eGift B (rankG B) = ([], 60)) := by unfold Hid eGift; rw [hv]; rfl
      have HSL : Hid (sameI ([] : List Int).length (fun i => ([] : List Int).getD i 0) ([] : List Int).length (fun i => ([] : List Int).getD i 0) = true) := sameI_self _ _
      clear hv
      go_enter Try.func10, Try.ntmps10
      go_wp2_with (first
        | (go_at_call 33; refine (Far_any N _ B _ (HBK.out.go HB0.out)).mono ?_; rintro e w1 ⟨rfl, hb1⟩; rw [HFA.out]; (try clear c0); have HB1 := Lib.hid (bel HB0.out hb1); have c1 := (old_of HB1.out).1; clear hb1)
        | (go_at_call 26; refine (copy_near N _ B _ (HBK.out.go HB1.out) HNE.out.1 HNE.out.2.1 HNE.out.2.2).mono ?_; rintro e w2 ⟨b1, d1, b2, d2, b3, d3, rfl, how2, hbk2, hb2⟩; clear how2; have HBK2 := Lib.hid hbk2; clear hbk2; (try clear c1); have HB2 := Lib.hid (bel HB1.out hb2); have c2 := (old_of HB2.out).1; clear hb2; clear c2; obtain ⟨w4, hw4, HB34, hsz4, hblk4⟩ := box1 w2 (.cells #[.slice b1 B.ns d1, .slice b2 B.ng d2, .slice b3 B.nw d3] 26); have x0 := cell_blk hblk4 0 rfl; have x1 := cell_blk hblk4 1 rfl; have x2 := cell_blk hblk4 2 rfl; have HB4 : Hid (Below ws.heap.size ws w4) := bel HB2.out HB34.out; have HBK4 := Lib.hid (HBK2.out.mono HB34.out HB34.out.size (Nat.le_refl _)); have HBF4 : Hid (BookAt w4.heap.size w4 _ B) := Lib.hid ((HBK.out.go HB4.out).mono (Below.refl _ _) (Nat.le_trans HNS.out HB4.out.size) (Nat.le_refl _)); have q0 := (HB4.out.cell (p := ⟨w.heap.size, 0, none⟩) hsz).trans q0; have q1 := (HB4.out.cell (p := ⟨w.heap.size, 1, none⟩) hsz).trans q1; have q2 := (HB4.out.cell (p := ⟨w.heap.size, 2, none⟩) hsz).trans q2; have hsz4b : w.heap.size < w4.heap.size := Nat.lt_of_lt_of_le hsz HB4.out.size; have HBz : Hid (Below w4.heap.size w4 w4) := Below.refl _ _; clear hblk4 hws)
        | (go_at_call 16; refine (kBest_any w4.heap.size _ B _ (HBK4.out.go HBz.out)).mono ?_; rw [HE.out]; rintro e w5 ⟨v5, rfl, ho5, hb5⟩; have P5 := Lib.hid ho5; clear ho5; (try clear cz); have HB5 := Lib.hid (bel HBz.out hb5); have c5 := (old_of HB5.out).1; clear hb5)
        | (go_at_call 42; refine (rBest_any w4.heap.size _ B _ (HBF4.out.go HB5.out)).mono ?_; rw [HE.out]; rintro e w6 ⟨v6, rfl, ho6, hb6⟩; replace P5 := Lib.hid (show OwnI _ _ _ _ from own_below P5.out hb6); have P6 := Lib.hid ho6; clear ho6; (try clear c5); have HB6 := Lib.hid (bel HB5.out hb6); have c6 := (old_of HB6.out).1; clear hb6)
        | (go_at_call 43; refine (kGive_any w4.heap.size _ B _ (HBK4.out.go HB6.out)).mono ?_; rw [HGI.out]; rintro e w7 ⟨⟨v7, rfl, hu7⟩, hb7⟩; obtain rfl : v7 = .slice none 0 0 := (by rcases hu7 with ⟨_, h⟩ | ⟨h, _⟩; exact h; exact absurd rfl h); replace P5 := Lib.hid (show OwnI _ _ _ _ from own_below P5.out hb7); replace P6 := Lib.hid (show OwnI _ _ _ _ from own_below P6.out hb7); clear hu7; (try clear c6); have HB7 := Lib.hid (bel HB6.out hb7); have c7 := (old_of HB7.out).1; clear hb7)
        | (go_at_call 32; refine (sameInts_any _ _ _ _ _ _ _ _ (P5.out.ints (by simp)) (P6.out.ints (by simp))).mono ?_; rintro e wE ⟨rfl, qE, hE⟩; rw [HSL.out]; have hbE : Below w7.heap.size w7 wE := (by rw [hE]; exact below_drewN (Below.refl _ _) _); clear P5 P6 hE; (try clear c7); have HBE := Lib.hid (bel HB7.out hbE); have cE := (old_of HBE.out).1; clear hbE)
        | (go_at_call 38; refine (same_any _ _ _ _ B _ (HBK4.out.go HBE.out) (HBF4.out.go HBE.out)).mono ?_; rintro e wF ⟨rfl, hbF⟩; (try clear cE); have HBF := Lib.hid (bel HBE.out hbF); have cF := (old_of HBF.out).1; clear hbF)
        | (go_at_call 14; refine (works_any _).mono ?_; rintro e wH ⟨rfl, hbH⟩; (try clear cF); have HBH := Lib.hid (bel HBF.out hbH); have cH := (old_of HBH.out).1; clear hbH))
      go_ret
      exact ⟨rfl, fin HB.out (fin HB4.out HBH.out)⟩
    | true =>
      have HG := Lib.hid (goodL hv)
      obtain ⟨g, hg⟩ : ∃ g, bestL (rankG B) (giftsL B) = g := ⟨_, rfl⟩
      have HE : Hid (eBest B = (cntL B g, 0)) := by unfold Hid eBest eList; rw [hv, hg]; rfl
      have HGI : Hid (eGift B (rankG B) = (g, 0)) := by unfold Hid eGift; rw [hv, hg]; rfl
      have HOK : Hid (GOK B g) := by rw [← hg]; exact bestL_ok _
      have HUP : Hid (g.Pairwise (· < ·)) := by rw [← hg]; exact bestL_up _
      have HCL : Hid ((cntL B g).length ≤ 140737488351232) := by unfold Hid; simp [cntL, fromF]; omega
      have HSL : Hid (sameI (cntL B g).length (fun i => (cntL B g).getD i 0) (cntL B g).length (fun i => (cntL B g).getD i 0) = true) := sameI_self _ _
      have HSC := Lib.hid (sameI_cnt B g)
      obtain ⟨n, hn⟩ : ∃ n, g.length = n := ⟨_, rfl⟩
      have hn12 : n ≤ 12 := by have := HOK.out.len; have := HOK.out.top; have := HG.out.nw; omega
      have HIG : Hid (okGift B.nw n (fun i => ((g.getD i 0 : Nat) : Int)) = true) := by rw [← hn]; exact okGift_of HOK.out HUP.out
      have HIF : Hid (fitL B (natL n (fun i => ((g.getD i 0 : Nat) : Int))) = true) := by unfold Hid; rw [← hn, natL_nums]; exact HOK.out.fit
      have HIC : Hid (cS B (natL n (fun i => ((g.getD i 0 : Nat) : Int))) = cS B g) := by unfold Hid; rw [← hn, natL_nums]
      have HN := Lib.hid hn
      have hn40 : ¬ (40 : Int) < (n : Int) := by omega
      clear hv hg hn
      go_enter Try.func10, Try.ntmps10
      go_wp2_with (first
        | (go_at_call 33; refine (Far_any N _ B _ (HBK.out.go HB0.out)).mono ?_; rintro e w1 ⟨rfl, hb1⟩; rw [HFA.out]; (try clear c0); have HB1 := Lib.hid (bel HB0.out hb1); have c1 := (old_of HB1.out).1; clear hb1)
        | (go_at_call 26; refine (copy_near N _ B _ (HBK.out.go HB1.out) HNE.out.1 HNE.out.2.1 HNE.out.2.2).mono ?_; rintro e w2 ⟨b1, d1, b2, d2, b3, d3, rfl, how2, hbk2, hb2⟩; clear how2; have HBK2 := Lib.hid hbk2; clear hbk2; (try clear c1); have HB2 := Lib.hid (bel HB1.out hb2); have c2 := (old_of HB2.out).1; clear hb2; clear c2; obtain ⟨w4, hw4, HB34, hsz4, hblk4⟩ := box1 w2 (.cells #[.slice b1 B.ns d1, .slice b2 B.ng d2, .slice b3 B.nw d3] 26); have x0 := cell_blk hblk4 0 rfl; have x1 := cell_blk hblk4 1 rfl; have x2 := cell_blk hblk4 2 rfl; have HB4 : Hid (Below ws.heap.size ws w4) := bel HB2.out HB34.out; have HBK4 := Lib.hid (HBK2.out.mono HB34.out HB34.out.size (Nat.le_refl _)); have HBF4 : Hid (BookAt w4.heap.size w4 _ B) := Lib.hid ((HBK.out.go HB4.out).mono (Below.refl _ _) (Nat.le_trans HNS.out HB4.out.size) (Nat.le_refl _)); have q0 := (HB4.out.cell (p := ⟨w.heap.size, 0, none⟩) hsz).trans q0; have q1 := (HB4.out.cell (p := ⟨w.heap.size, 1, none⟩) hsz).trans q1; have q2 := (HB4.out.cell (p := ⟨w.heap.size, 2, none⟩) hsz).trans q2; have hsz4b : w.heap.size < w4.heap.size := Nat.lt_of_lt_of_le hsz HB4.out.size; have HBz : Hid (Below w4.heap.size w4 w4) := Below.refl _ _; clear hblk4 hws)
        | (go_at_call 16; refine (kBest_any w4.heap.size _ B _ (HBK4.out.go HBz.out)).mono ?_; rw [HE.out]; rintro e w5 ⟨v5, rfl, ho5, hb5⟩; have P5 := Lib.hid ho5; clear ho5; (try clear cz); have HB5 := Lib.hid (bel HBz.out hb5); have c5 := (old_of HB5.out).1; clear hb5)
        | (go_at_call 42; refine (rBest_any w4.heap.size _ B _ (HBF4.out.go HB5.out)).mono ?_; rw [HE.out]; rintro e w6 ⟨v6, rfl, ho6, hb6⟩; replace P5 := Lib.hid (show OwnI _ _ _ _ from own_below P5.out hb6); have P6 := Lib.hid ho6; clear ho6; (try clear c5); have HB6 := Lib.hid (bel HB5.out hb6); have c6 := (old_of HB6.out).1; clear hb6)
        | (go_at_call 43; refine (kGive_any w4.heap.size _ B _ (HBK4.out.go HB6.out)).mono ?_; rw [HGI.out]; rintro e w7 ⟨⟨v7, rfl, hu7⟩, hb7⟩; replace hu7 : GU w6.heap.size w7 v7 g := hu7; obtain ⟨a7, c7', hv7⟩ := hu7.form; rw [HN.out] at hv7; subst hv7; have hi7 := hu7.ints (by have := HN.out; omega); rw [HN.out] at hi7; have HI7 := Lib.hid hi7; replace P5 := Lib.hid (show OwnI _ _ _ _ from own_below P5.out hb7); replace P6 := Lib.hid (show OwnI _ _ _ _ from own_below P6.out hb7); clear hu7 hi7; (try clear c6); have HB7 := Lib.hid (bel HB6.out hb7); have c7 := (old_of HB7.out).1; clear hb7; have HBy : Hid (Below w7.heap.size w7 w7) := Below.refl _ _)
        | (go_at_call 32; have t5 := P5; clear P5; refine (sameInts_any _ _ _ _ _ _ _ _ (t5.out.ints HCL.out) (P6.out.ints HCL.out)).mono ?_; rintro e wE ⟨rfl, qE, hE⟩; rw [HSL.out]; have hbE : Below w7.heap.size w7 wE := (by rw [hE]; exact below_drewN (Below.refl _ _) _); replace P6 := Lib.hid (show OwnI _ _ _ _ from own_below P6.out hbE); clear t5 hE; have HByE := Lib.hid hbE; (try clear c7); have HBE := Lib.hid (bel HB7.out hbE); have cE := (old_of HBE.out).1; clear hbE)
        | (go_at_call 38; refine (same_any _ _ _ _ B _ (HBK4.out.go HBE.out) (HBF4.out.go HBE.out)).mono ?_; rintro e wF ⟨rfl, hbF⟩; replace P6 := Lib.hid (show OwnI _ _ _ _ from own_below P6.out hbF); have HByF := Lib.hid (bel HByE.out hbF); (try clear cE); have HBF := Lib.hid (bel HBE.out hbF); have cF := (old_of HBF.out).1; clear hbF)
        | (go_at_call 44; refine (isGift_any w4.heap.size w7.heap.size _ _ B n _ _ (HBF4.out.go HBF.out) (HI7.out.go (Nat.le_refl _) HByF.out) HByF.out.size).mono ?_; rw [HIG.out]; rintro e wG ⟨rfl, hbG⟩; replace P6 := Lib.hid (show OwnI _ _ _ _ from own_below P6.out hbG); have HByG := Lib.hid (bel HByF.out hbG); (try clear cF); have HBG := Lib.hid (bel HBF.out hbG); have cG := (old_of HBG.out).1; clear hbG)
        | (go_at_call 45; refine (isFit_any w4.heap.size w7.heap.size _ _ B 4 n _ _ (HBF4.out.go HBG.out) HG.out (HI7.out.go (Nat.le_refl _) HByG.out) HByG.out.size (okGift_nat HIG.out) (by omega)).mono ?_; rw [HIF.out]; rintro e wJ ⟨rfl, hbJ⟩; replace P6 := Lib.hid (show OwnI _ _ _ _ from own_below P6.out hbJ); have HByJ := Lib.hid (bel HByG.out hbJ); (try clear cG); have HBJ := Lib.hid (bel HBG.out hbJ); have cJ := (old_of HBJ.out).1; clear hbJ)
        | (go_at_call 19; refine (counts_any w4.heap.size w7.heap.size _ _ B 4 n _ _ (HBF4.out.go HBJ.out) HG.out (HI7.out.go (Nat.le_refl _) HByJ.out) HByJ.out.size (okGift_nat HIG.out) (by omega)).mono ?_; rw [HIC.out]; rintro e wK ⟨⟨gK, rfl, _, hnK⟩, hbK⟩; replace P6 := Lib.hid (show OwnI _ _ _ _ from own_below P6.out hbK); have HNK := Lib.hid hnK; clear hnK; (try clear cJ); have HBK := Lib.hid (bel HBJ.out hbK); have cK := (old_of HBK.out).1; clear hbK)
        | (go_at_call 32; refine (sameInts_any wK.heap.size _ _ _ _ _ _ _ (HNK.out.ints hns1) (P6.out.ints HCL.out)).mono ?_; rintro e wL ⟨rfl, qL, hL⟩; rw [HSC.out]; have hbL : Below wK.heap.size wK wL := (by rw [hL]; exact below_drewN (Below.refl _ _) _); clear P6 hL; (try clear cK); have HBL := Lib.hid (bel HBK.out hbL); have cL := (old_of HBL.out).1; clear hbL)
        | (go_at_call 14; refine (works_any _).mono ?_; rintro e wH ⟨rfl, hbH⟩; (try clear cL); have HBH := Lib.hid (bel HBL.out hbH); have cH := (old_of HBH.out).1; clear hbH))
      go_ret
      exact ⟨rfl, fin HB.out (fin HB4.out HBH.out)⟩

end Go.Proofs.Ytnnngbnimmcjiaa
