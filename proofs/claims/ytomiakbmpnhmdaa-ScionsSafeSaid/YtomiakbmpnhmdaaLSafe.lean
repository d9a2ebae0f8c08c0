/-
  LSafe: ScionsSafe returns true.
-/
import Derived.Test.YtomiakbmpnhmdaaLBest
import Derived.Test.YtomiakbmpnhmdaaRWeak
namespace Go.Proofs.Ytomiakbmpnhmdaa
open Go.RowKit

set_option maxHeartbeats 4000000 in
set_option maxRecDepth 100000 in
theorem csafe_any (N : Nat) (v : Value) (B : SB) (w : World) (h : BookAt N w v B) :
    Calls Try.prog 11 #[v] w fun e w' => e = .returned (.bool true) ∧ Below w.heap.size w w' := by
  have h' := h
  obtain ⟨_, a1, z1, a2, z2, a3, z3, rfl, _⟩ := h'
  obtain ⟨ws, hws, HB, hsz, hblk⟩ := box1 w (.cells #[.slice a1 B.ns z1, .slice a2 B.ng z2, .slice a3 B.nw z3] 26)
  have q0 := cell_blk hblk 0 rfl
  have q1 := cell_blk hblk 1 rfl
  have q2 := cell_blk hblk 2 rfl
  have HBK := Lib.hid (h.go HB.out)
  have HB0 : Hid (Below ws.heap.size ws ws) := Below.refl _ _
  have HNS : Hid (N ≤ ws.heap.size) := HBK.out.1
  have hlens := h.lens
  obtain ⟨hlv, hls, hln⟩ := hlens
  clear hblk h
  cases hfar : farL B with
  | true =>
    have HFA := Lib.hid hfar
    clear hfar
    go_enter Try.func11, Try.ntmps11
    go_wp2_with (first
      | (go_at_call 33; refine (Far_any N _ B _ (HBK.out.go HB0.out)).mono ?_; rintro e w1 ⟨rfl, hb1⟩; rw [HFA.out]; (try clear c0); have HB1 := Lib.hid (bel HB0.out hb1); have c1 := (old_of HB1.out).1; clear hb1)
      | (go_at_call 14; refine (works_any _).mono ?_; rintro e w2 ⟨rfl, hb2⟩; (try clear c1); have HB2 := Lib.hid (bel HB1.out hb2); have c2 := (old_of HB2.out).1; clear hb2))
    go_ret
    exact ⟨rfl, fin HB.out HB2.out⟩
  | false =>
    have HFA := Lib.hid hfar
    obtain ⟨l1, l2, l3, _⟩ := farL_le hfar
    have HNE := Lib.hid (And.intro l1 (And.intro l2 l3))
    have hns1 : B.ns ≤ 1000 := by omega
    clear hfar l1 l2 l3
    cases hv : okL B with
    | false =>
      have HE : Hid (eNum B (safeN B) = (0, 60)) := by unfold Hid eNum; rw [hv]; rfl
      have HW : Hid (eList B (sel (weakP B) B.ng) = ([], 60)) := by unfold Hid eList; rw [hv]; rfl
      have HGI : Hid (eGift B (safeG B) = ([], 60)) := by unfold Hid eGift; rw [hv]; rfl
      have HSL : Hid (sameI ([] : List Int).length (fun i => ([] : List Int).getD i 0) ([] : List Int).length (fun i => ([] : List Int).getD i 0) = true) := sameI_self _ _
      clear hv
      go_enter Try.func11, Try.ntmps11
      go_wp2_with (first
        | (go_at_call 33; refine (Far_any N _ B _ (HBK.out.go HB0.out)).mono ?_; rintro e w1 ⟨rfl, hb1⟩; rw [HFA.out]; (try clear c0); have HB1 := Lib.hid (bel HB0.out hb1); have c1 := (old_of HB1.out).1; clear hb1)
        | (go_at_call 26; refine (copy_near N _ B _ (HBK.out.go HB1.out) HNE.out.1 HNE.out.2.1 HNE.out.2.2).mono ?_; rintro e w2 ⟨b1, d1, b2, d2, b3, d3, rfl, how2, hbk2, hb2⟩; clear how2; have HBK2 := Lib.hid hbk2; clear hbk2; (try clear c1); have HB2 := Lib.hid (bel HB1.out hb2); have c2 := (old_of HB2.out).1; clear hb2; clear c2; obtain ⟨w4, hw4, HB34, hsz4, hblk4⟩ := box1 w2 (.cells #[.slice b1 B.ns d1, .slice b2 B.ng d2, .slice b3 B.nw d3] 26); have x0 := cell_blk hblk4 0 rfl; have x1 := cell_blk hblk4 1 rfl; have x2 := cell_blk hblk4 2 rfl; have HB4 : Hid (Below ws.heap.size ws w4) := bel HB2.out HB34.out; have HBK4 := Lib.hid (HBK2.out.mono HB34.out HB34.out.size (Nat.le_refl _)); have HBF4 : Hid (BookAt w4.heap.size w4 _ B) := Lib.hid ((HBK.out.go HB4.out).mono (Below.refl _ _) (Nat.le_trans HNS.out HB4.out.size) (Nat.le_refl _)); have q0 := (HB4.out.cell (p := ⟨w.heap.size, 0, none⟩) hsz).trans q0; have q1 := (HB4.out.cell (p := ⟨w.heap.size, 1, none⟩) hsz).trans q1; have q2 := (HB4.out.cell (p := ⟨w.heap.size, 2, none⟩) hsz).trans q2; have hsz4b : w.heap.size < w4.heap.size := Nat.lt_of_lt_of_le hsz HB4.out.size; have HBz : Hid (Below w4.heap.size w4 w4) := Below.refl _ _; clear hblk4 hws)
        | (go_at_call 17; refine (kSafe_any w4.heap.size _ B _ (HBK4.out.go HBz.out)).mono ?_; rw [HE.out]; rintro e w8 ⟨rfl, hb8⟩; (try clear cz); have HB8 := Lib.hid (bel HBz.out hb8); have c8 := (old_of HB8.out).1; clear hb8)
        | (go_at_call 46; refine (rSafeE_any w4.heap.size _ B _ (HBF4.out.go HB8.out)).mono ?_; rw [HE.out]; rintro e w9 ⟨rfl, hb9⟩; (try clear c8); have HB9 := Lib.hid (bel HB8.out hb9); have c9 := (old_of HB9.out).1; clear hb9)
        | (go_at_call 31; refine (kWeak_any w4.heap.size _ B _ (HBK4.out.go HB9.out)).mono ?_; rw [HW.out]; rintro e w5 ⟨v5, rfl, ho5, hb5⟩; have P5 := Lib.hid ho5; clear ho5; (try clear c9); have HB5 := Lib.hid (bel HB9.out hb5); have c5 := (old_of HB5.out).1; clear hb5)
        | (go_at_call 47; refine (rWeak_any w4.heap.size _ B _ (HBF4.out.go HB5.out)).mono ?_; rw [HW.out]; rintro e w6 ⟨v6, rfl, ho6, hb6⟩; replace P5 := Lib.hid (show OwnI _ _ _ _ from own_below P5.out hb6); have P6 := Lib.hid ho6; clear ho6; (try clear c5); have HB6 := Lib.hid (bel HB5.out hb6); have c6 := (old_of HB6.out).1; clear hb6)
        | (go_at_call 30; refine (kSave_any w4.heap.size _ B _ (HBK4.out.go HB6.out)).mono ?_; rw [HGI.out]; rintro e w7 ⟨⟨v7, rfl, hu7⟩, hb7⟩; obtain rfl : v7 = .slice none 0 0 := (by rcases hu7 with ⟨_, h⟩ | ⟨h, _⟩; exact h; exact absurd rfl h); replace P5 := Lib.hid (show OwnI _ _ _ _ from own_below P5.out hb7); replace P6 := Lib.hid (show OwnI _ _ _ _ from own_below P6.out hb7); clear hu7; (try clear c6); have HB7 := Lib.hid (bel HB6.out hb7); have c7 := (old_of HB7.out).1; clear hb7)
        | (go_at_call 32; refine (sameInts_any _ _ _ _ _ _ _ _ (P5.out.ints (by simp)) (P6.out.ints (by simp))).mono ?_; rintro e wE ⟨rfl, qE, hE⟩; rw [HSL.out]; have hbE : Below w7.heap.size w7 wE := (by rw [hE]; exact below_drewN (Below.refl _ _) _); clear P5 P6 hE; (try clear c7); have HBE := Lib.hid (bel HB7.out hbE); have cE := (old_of HBE.out).1; clear hbE)
        | (go_at_call 38; refine (same_any _ _ _ _ B _ (HBK4.out.go HBE.out) (HBF4.out.go HBE.out)).mono ?_; rintro e wF ⟨rfl, hbF⟩; (try clear cE); have HBF := Lib.hid (bel HBE.out hbF); have cF := (old_of HBF.out).1; clear hbF)
        | (go_at_call 14; refine (works_any _).mono ?_; rintro e wH ⟨rfl, hbH⟩; (try clear cF); have HBH := Lib.hid (bel HBF.out hbH); have cH := (old_of HBH.out).1; clear hbH))
      go_ret
      exact ⟨rfl, fin HB.out (fin HB4.out HBH.out)⟩
    | true =>
      have HG := Lib.hid (goodL hv)
      obtain ⟨g, hg⟩ : ∃ g, bestL (safeG B) (giftsL B) = g := ⟨_, rfl⟩
      obtain ⟨sn, hsn⟩ : ∃ sn, safeN B = sn := ⟨_, rfl⟩
      have HE : Hid (eNum B (safeN B) = ((sn : Int), 0)) := by unfold Hid eNum; rw [hv, hsn]; rfl
      have HW : Hid (eList B (sel (weakP B) B.ng) = (sel (weakP B) B.ng, 0)) := by unfold Hid eList; rw [hv]; rfl
      have HGI : Hid (eGift B (safeG B) = (g, 0)) := by unfold Hid eGift; rw [hv, hg]; rfl
      have HOK : Hid (GOK B g) := by rw [← hg]; exact bestL_ok _
      have HUP : Hid (g.Pairwise (· < ·)) := by rw [← hg]; exact bestL_up _
      have HCL : Hid ((sel (weakP B) B.ng).length ≤ 140737488351232) := by unfold Hid; have := sel_len (weakP B) B.ng; have := HG.out.ng; omega
      have HSL : Hid (sameI (sel (weakP B) B.ng).length (fun i => (sel (weakP B) B.ng).getD i 0) (sel (weakP B) B.ng).length (fun i => (sel (weakP B) B.ng).getD i 0) = true) := sameI_self _ _
      have HSV : Hid (safeG B g = sn) := by unfold Hid; rw [← hsn]; unfold safeN; rw [hg]
      clear hsn
      obtain ⟨n, hn⟩ : ∃ n, g.length = n := ⟨_, rfl⟩
      have hn12 : n ≤ 12 := by have := HOK.out.len; have := HOK.out.top; have := HG.out.nw; omega
      have HIG : Hid (okGift B.nw n (fun i => ((g.getD i 0 : Nat) : Int)) = true) := by rw [← hn]; exact okGift_of HOK.out HUP.out
      have HIF : Hid (fitL B (natL n (fun i => ((g.getD i 0 : Nat) : Int))) = true) := by unfold Hid; rw [← hn, natL_nums]; exact HOK.out.fit
      have HIC : Hid (natL n (fun i => ((g.getD i 0 : Nat) : Int)) = g) := by unfold Hid; rw [← hn, natL_nums]
      have HN := Lib.hid hn
      have hn40 : ¬ (40 : Int) < (n : Int) := by omega
      clear hv hg hn
      go_enter Try.func11, Try.ntmps11
      go_wp2_with (first
        | (go_at_call 33; refine (Far_any N _ B _ (HBK.out.go HB0.out)).mono ?_; rintro e w1 ⟨rfl, hb1⟩; rw [HFA.out]; (try clear c0); have HB1 := Lib.hid (bel HB0.out hb1); have c1 := (old_of HB1.out).1; clear hb1)
        | (go_at_call 26; refine (copy_near N _ B _ (HBK.out.go HB1.out) HNE.out.1 HNE.out.2.1 HNE.out.2.2).mono ?_; rintro e w2 ⟨b1, d1, b2, d2, b3, d3, rfl, how2, hbk2, hb2⟩; clear how2; have HBK2 := Lib.hid hbk2; clear hbk2; (try clear c1); have HB2 := Lib.hid (bel HB1.out hb2); have c2 := (old_of HB2.out).1; clear hb2; clear c2; obtain ⟨w4, hw4, HB34, hsz4, hblk4⟩ := box1 w2 (.cells #[.slice b1 B.ns d1, .slice b2 B.ng d2, .slice b3 B.nw d3] 26); have x0 := cell_blk hblk4 0 rfl; have x1 := cell_blk hblk4 1 rfl; have x2 := cell_blk hblk4 2 rfl; have HB4 : Hid (Below ws.heap.size ws w4) := bel HB2.out HB34.out; have HBK4 := Lib.hid (HBK2.out.mono HB34.out HB34.out.size (Nat.le_refl _)); have HBF4 : Hid (BookAt w4.heap.size w4 _ B) := Lib.hid ((HBK.out.go HB4.out).mono (Below.refl _ _) (Nat.le_trans HNS.out HB4.out.size) (Nat.le_refl _)); have q0 := (HB4.out.cell (p := ⟨w.heap.size, 0, none⟩) hsz).trans q0; have q1 := (HB4.out.cell (p := ⟨w.heap.size, 1, none⟩) hsz).trans q1; have q2 := (HB4.out.cell (p := ⟨w.heap.size, 2, none⟩) hsz).trans q2; have hsz4b : w.heap.size < w4.heap.size := Nat.lt_of_lt_of_le hsz HB4.out.size; have HBz : Hid (Below w4.heap.size w4 w4) := Below.refl _ _; clear hblk4 hws)
        | (go_at_call 17; refine (kSafe_any w4.heap.size _ B _ (HBK4.out.go HBz.out)).mono ?_; rw [HE.out]; rintro e w8 ⟨rfl, hb8⟩; (try clear cz); have HB8 := Lib.hid (bel HBz.out hb8); have c8 := (old_of HB8.out).1; clear hb8)
        | (go_at_call 46; refine (rSafeE_any w4.heap.size _ B _ (HBF4.out.go HB8.out)).mono ?_; rw [HE.out]; rintro e w9 ⟨rfl, hb9⟩; (try clear c8); have HB9 := Lib.hid (bel HB8.out hb9); have c9 := (old_of HB9.out).1; clear hb9)
        | (go_at_call 31; refine (kWeak_any w4.heap.size _ B _ (HBK4.out.go HB9.out)).mono ?_; rw [HW.out]; rintro e w5 ⟨v5, rfl, ho5, hb5⟩; have P5 := Lib.hid ho5; clear ho5; (try clear c9); have HB5 := Lib.hid (bel HB9.out hb5); have c5 := (old_of HB5.out).1; clear hb5)
        | (go_at_call 47; refine (rWeak_any w4.heap.size _ B _ (HBF4.out.go HB5.out)).mono ?_; rw [HW.out]; rintro e w6 ⟨v6, rfl, ho6, hb6⟩; replace P5 := Lib.hid (show OwnI _ _ _ _ from own_below P5.out hb6); have P6 := Lib.hid ho6; clear ho6; (try clear c5); have HB6 := Lib.hid (bel HB5.out hb6); have c6 := (old_of HB6.out).1; clear hb6)
        | (go_at_call 30; refine (kSave_any w4.heap.size _ B _ (HBK4.out.go HB6.out)).mono ?_; rw [HGI.out]; rintro e w7 ⟨⟨v7, rfl, hu7⟩, hb7⟩; replace hu7 : GU w6.heap.size w7 v7 g := hu7; obtain ⟨a7, c7', hv7⟩ := hu7.form; rw [HN.out] at hv7; subst hv7; have hi7 := hu7.ints (by have := HN.out; omega); rw [HN.out] at hi7; have HI7 := Lib.hid hi7; replace P5 := Lib.hid (show OwnI _ _ _ _ from own_below P5.out hb7); replace P6 := Lib.hid (show OwnI _ _ _ _ from own_below P6.out hb7); clear hu7 hi7; (try clear c6); have HB7 := Lib.hid (bel HB6.out hb7); have c7 := (old_of HB7.out).1; clear hb7; have HBy : Hid (Below w7.heap.size w7 w7) := Below.refl _ _)
        | (go_at_call 32; have t5 := P5; clear P5; refine (sameInts_any _ _ _ _ _ _ _ _ (t5.out.ints HCL.out) (P6.out.ints HCL.out)).mono ?_; rintro e wE ⟨rfl, qE, hE⟩; rw [HSL.out]; have hbE : Below w7.heap.size w7 wE := (by rw [hE]; exact below_drewN (Below.refl _ _) _); clear t5 hE P6; have HByE := Lib.hid hbE; (try clear c7); have HBE := Lib.hid (bel HB7.out hbE); have cE := (old_of HBE.out).1; clear hbE)
        | (go_at_call 38; refine (same_any _ _ _ _ B _ (HBK4.out.go HBE.out) (HBF4.out.go HBE.out)).mono ?_; rintro e wF ⟨rfl, hbF⟩; have HByF := Lib.hid (bel HByE.out hbF); (try clear cE); have HBF := Lib.hid (bel HBE.out hbF); have cF := (old_of HBF.out).1; clear hbF)
        | (go_at_call 44; refine (isGift_any w4.heap.size w7.heap.size _ _ B n _ _ (HBF4.out.go HBF.out) (HI7.out.go (Nat.le_refl _) HByF.out) HByF.out.size).mono ?_; rw [HIG.out]; rintro e wG ⟨rfl, hbG⟩; have HByG := Lib.hid (bel HByF.out hbG); (try clear cF); have HBG := Lib.hid (bel HBF.out hbG); have cG := (old_of HBG.out).1; clear hbG)
        | (go_at_call 45; refine (isFit_any w4.heap.size w7.heap.size _ _ B 4 n _ _ (HBF4.out.go HBG.out) HG.out (HI7.out.go (Nat.le_refl _) HByG.out) HByG.out.size (okGift_nat HIG.out) (by omega)).mono ?_; rw [HIF.out]; rintro e wJ ⟨rfl, hbJ⟩; have HByJ := Lib.hid (bel HByG.out hbJ); (try clear cG); have HBJ := Lib.hid (bel HBG.out hbJ); have cJ := (old_of HBJ.out).1; clear hbJ)
        | (go_at_call 21; refine (safeOf_any w4.heap.size w7.heap.size _ _ B n _ g _ (HBF4.out.go HBJ.out) HG.out HOK.out (HI7.out.go (Nat.le_refl _) HByJ.out) HByJ.out.size (okGift_nat HIG.out) (by omega) HIC.out).mono ?_; rw [HSV.out]; rintro e wL ⟨rfl, hbL⟩; (try clear cJ); have HBL := Lib.hid (bel HBJ.out hbL); have cL := (old_of HBL.out).1; clear hbL)
        | (go_at_call 14; refine (works_any _).mono ?_; rintro e wH ⟨rfl, hbH⟩; (try clear cL); have HBH := Lib.hid (bel HBL.out hbH); have cH := (old_of HBH.out).1; clear hbH))
      go_ret
      exact ⟨rfl, fin HB.out (fin HB4.out HBH.out)⟩

end Go.Proofs.Ytomiakbmpnhmdaa
