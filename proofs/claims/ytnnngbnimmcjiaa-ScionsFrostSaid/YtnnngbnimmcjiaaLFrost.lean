/-
  LFrost: ScionsFrost returns true.
-/
import Derived.Test.YtnnngbnimmcjiaaEach1
namespace Go.Proofs.Ytnnngbnimmcjiaa
open Go.RowKit

theorem GU.slice {lo : Nat} {W : World} {u : Value} {g : List Nat} (h : GU lo W u g) : ∃ a c, u = .slice a g.length c := h.form

set_option maxHeartbeats 8000000 in
set_option maxRecDepth 100000 in
theorem cfrost_any (N M : Nat) (v u : Value) (B : SB) (n : Nat) (x : Nat → Int) (f : Int) (w : World) (h : BookAt N w v B) (hu : IntsAt M w u n x) (hM : M ≤ w.heap.size) :
    Calls Try.prog 6 #[v, u, .int .i64 f] w fun e w' => e = .returned (.bool true) ∧ Below w.heap.size w w' := by
  have hn := hu.len
  obtain ⟨au, cu, rfl, _, _⟩ := id hu
  have h' := h
  obtain ⟨_, a1, z1, a2, z2, a3, z3, rfl, _⟩ := h'
  obtain ⟨ws, hws, HB, hsz, hblk⟩ := box1 w (.cells #[.slice a1 B.ns z1, .slice a2 B.ng z2, .slice a3 B.nw z3] 26)
  have q0 := cell_blk hblk 0 rfl
  have q1 := cell_blk hblk 1 rfl
  have q2 := cell_blk hblk 2 rfl
  have HBK := Lib.hid (h.go HB.out)
  have HB0 : Hid (Below ws.heap.size ws ws) := Below.refl _ _
  have HNS : Hid (N ≤ ws.heap.size) := HBK.out.1
  have hlens := h.lens
  obtain ⟨hlv, hls, hln⟩ := hlens
  clear hblk h
  have HX := Lib.hid (hu.go hM HB.out)
  have HM : Hid (M ≤ ws.heap.size) := Nat.le_trans hM HB.out.size
  clear hu hM
  cases hr : readyL B with
  | false =>
    have HRY := Lib.hid hr
    clear hr
    go_enter Try.func6, Try.ntmps6
    go_wp2_with (first
      | (go_at_call 12; refine (ready_any N _ B _ (HBK.out.go HB0.out)).mono ?_; rintro e w1 ⟨rfl, hb1⟩; rw [HRY.out]; (try clear c0); have HB1 := Lib.hid (bel HB0.out hb1); have c1 := (old_of HB1.out).1; clear hb1)
      | (go_at_call 14; refine (works_any _).mono ?_; rintro e w2 ⟨rfl, hb2⟩; (try clear c1); have HB2 := Lib.hid (bel HB1.out hb2); have c2 := (old_of HB2.out).1; clear hb2))
    go_ret
    exact ⟨rfl, fin HB.out HB2.out⟩
  | true =>
    have HRY := Lib.hid hr
    have hv : okL B = true := by unfold readyL at hr; rw [Bool.and_eq_true] at hr; exact hr.2
    have hG := goodL hv
    have HG := Lib.hid hG
    cases hf : fitsL B n x with
    | false =>
      have HFT := Lib.hid hf
      clear hr hv hG hf
      go_enter Try.func6, Try.ntmps6
      go_wp2_with (first
        | (go_at_call 12; refine (ready_any N _ B _ (HBK.out.go HB0.out)).mono ?_; rintro e w1 ⟨rfl, hb1⟩; rw [HRY.out]; (try clear c0); have HB1 := Lib.hid (bel HB0.out hb1); have c1 := (old_of HB1.out).1; clear hb1)
        | (go_at_call 13; refine (fits_any N M _ _ B n x _ (HBK.out.go HB1.out) HG.out (HX.out.go HM.out HB1.out) (Nat.le_trans HM.out HB1.out.size)).mono ?_; rintro e w2 ⟨rfl, hb2⟩; rw [HFT.out]; (try clear c1); have HB2 := Lib.hid (bel HB1.out hb2); have c2 := (old_of HB2.out).1; clear hb2)
        | (go_at_call 14; refine (works_any _).mono ?_; rintro e w3 ⟨rfl, hb3⟩; (try clear c2); have HB3 := Lib.hid (bel HB2.out hb3); have c3 := (old_of HB3.out).1; clear hb3))
      go_ret
      exact ⟨rfl, fin HB.out HB3.out⟩
    | true =>
      have HFT := Lib.hid hf
      cases hq : (decide (0 ≤ f) && decide (f < 4)) with
      | false =>
        have HQ := Lib.hid hq
        clear hr hv hG hf hq
        go_enter Try.func6, Try.ntmps6
        go_wp2_with (first
          | (go_at_call 12; refine (ready_any N _ B _ (HBK.out.go HB0.out)).mono ?_; rintro e w1 ⟨rfl, hb1⟩; rw [HRY.out]; (try clear c0); have HB1 := Lib.hid (bel HB0.out hb1); have c1 := (old_of HB1.out).1; clear hb1)
          | (go_at_call 13; refine (fits_any N M _ _ B n x _ (HBK.out.go HB1.out) HG.out (HX.out.go HM.out HB1.out) (Nat.le_trans HM.out HB1.out.size)).mono ?_; rintro e w2 ⟨rfl, hb2⟩; rw [HFT.out]; (try clear c1); have HB2 := Lib.hid (bel HB1.out hb2); have c2 := (old_of HB2.out).1; clear hb2)
          | (go_at_call 27; refine (isFrost_eq _ _ _ HQ.out).mono ?_; rintro e w' ⟨rfl, rfl⟩)
          | (go_at_call 14; refine (works_any _).mono ?_; rintro e w3 ⟨rfl, hb3⟩; (try clear c2); have HB3 := Lib.hid (bel HB2.out hb3); have c3 := (old_of HB3.out).1; clear hb3))
        go_ret
        exact ⟨rfl, fin HB.out HB3.out⟩
      | true =>
        obtain ⟨q, rfl⟩ : ∃ q : Nat, f = q := ⟨f.toNat, by simp at hq; omega⟩
        have hq4 : q < 4 := by simp at hq; omega
        have HQ := Lib.hid hq
        obtain ⟨hn40, hgi, hfi⟩ := fits_ok hf
        have hmem := fits_mem hf
        have hns := hG.ns
        obtain ⟨g, hg⟩ : ∃ g, natL n x = g := ⟨_, rfl⟩
        have HNG := Lib.hid hg
        have HMM : Hid (g ∈ giftsL B) := by rw [← hg]; exact hmem
        have HGK : Hid (GOK B g) := giftsL_ok HMM.out
        have HXX := Lib.hid (okGift_nat hgi)
        have HT1 : Hid (∀ s, cT B g s q ≤ 1) := fun s => cT_one B s q _ g rfl HGK.out.fit
        obtain ⟨L, hL⟩ : ∃ L, sel (lostP B g q) B.ns = L := ⟨_, rfl⟩
        have HLN : Hid (L.length ≤ B.ns) := by rw [← hL]; exact sel_len _ _
        obtain ⟨ll, hll⟩ : ∃ ll, L.length = ll := ⟨_, rfl⟩
        have HLL := Lib.hid hll
        have hlln : ll ≤ B.ns := by rw [← hll]; exact HLN.out
        have HLI : Hid (∀ s : Nat, s < B.ns → (anyB ll fun i => decide (L.getD i 0 = (s : Int))) = (decide (cS B g s = 1) && decide (cT B g s q = 1))) := fun s hs => by
          rw [← hll, ← hL, sel_in hs]; exact lost_is (HT1.out s)
        have HEL : Hid (eLost B n x q = (L, 0)) := by
          unfold Hid eLost
          rw [hv, hgi, hfi, hq, hg, Int.toNat_natCast, lost_sel hG HMM.out q, hL]
          rfl
        obtain ⟨b, hb⟩ : ∃ b, bestL (safeG B) (giftsL B) = b := ⟨_, rfl⟩
        have HBM : Hid (b ∈ giftsL B) := by rw [← hb]; exact best_in _
        have HSV : Hid (eGift B (safeG B) = (b, 0)) := by unfold Hid eGift; rw [hv, hb]; rfl
        have HBG : Hid (GOK B b) := giftsL_ok HBM.out
        obtain ⟨m, hm⟩ : ∃ m, b.length = m := ⟨_, rfl⟩
        have HMB := Lib.hid hm
        have hm12 : m ≤ 12 := by have := HBG.out.len; have := HBG.out.top; have := hG.nw; omega
        have HIG : Hid (okGift B.nw m (fun i => ((b.getD i 0 : Nat) : Int)) = true) := by rw [← hm]; exact okGift_of HBG.out (giftsL_up HBM.out)
        have HBN : Hid (natL m (fun i => ((b.getD i 0 : Nat) : Int)) = b) := by unfold Hid; rw [← hm, natL_nums]
        have HFS : Hid (fitsL B m (fun i => ((b.getD i 0 : Nat) : Int)) = true) := by
          unfold Hid fitsL; rw [decide_eq_true (show m ≤ 40 by omega), HIG.out, HBN.out, HBG.out.fit]; rfl
        obtain ⟨L2, hL2⟩ : ∃ L, sel (lostP B b q) B.ns = L := ⟨_, rfl⟩
        have HLN2 : Hid (L2.length ≤ B.ns) := by rw [← hL2]; exact sel_len _ _
        obtain ⟨l2, hl2⟩ : ∃ ll, L2.length = ll := ⟨_, rfl⟩
        have HLL2 := Lib.hid hl2
        have hl2n : l2 ≤ B.ns := by rw [← hl2]; exact HLN2.out
        have HL1 : Hid (∀ i, i < l2 → ∃ s : Nat, L2.getD i 0 = (s : Int) ∧ s < B.ns ∧ cS B b s = 1) := by rw [← hl2, ← hL2]; exact fun i hi => lost_one hi
        have HEL2 : Hid (eLost B m (fun i => ((b.getD i 0 : Nat) : Int)) q = (L2, 0)) := by
          unfold Hid eLost
          rw [hv, HIG.out, HBN.out, HBG.out.fit, hq, Int.toNat_natCast, lost_sel hG HBM.out q, hL2]
          rfl
        obtain ⟨y, hy⟩ : ∃ y : Nat → Int, (fun i => ((b.getD i 0 : Nat) : Int)) = y := ⟨_, rfl⟩
        have HYE := Lib.hid hy
        have HYY : Hid (∀ i, i < m → 0 ≤ y i ∧ y i < B.nw) := by rw [← hy]; exact okGift_nat HIG.out
        rw [hy] at HFS HEL2 HBN
        have hn1 : n ≤ 1000 := by omega
        clear hr hv hG hf hgi hfi hmem hg hb hm hq hL hL2 HIG hy hll hl2
        have hlgi : ¬ (B.ns : Int) < (ll : Int) := by omega
        have hlgi2 : ¬ (B.ns : Int) < (l2 : Int) := by omega
        have hmk := run_make_row' (P := Try.prog) 22 3 (.int .i64 0) 8 Try.underlying22 Try.infoInt rfl .i64 .i64 B.ns (by omega) (by omega)
        go_enter Try.func6, Try.ntmps6
        go_upto_region 3 with (first
          | (go_at_call 12; refine (ready_any N _ B _ (HBK.out.go HB0.out)).mono ?_; rintro e w1 ⟨rfl, hb1⟩; rw [HRY.out]; (try clear c0); have HB1 := Lib.hid (bel HB0.out hb1); have c1 := (old_of HB1.out).1; clear hb1)
          | (go_at_call 13; refine (fits_any N M _ _ B n x _ (HBK.out.go HB1.out) HG.out (HX.out.go HM.out HB1.out) (Nat.le_trans HM.out HB1.out.size)).mono ?_; rintro e w2 ⟨rfl, hb2⟩; rw [HFT.out]; (try clear c1); have HB2 := Lib.hid (bel HB1.out hb2); have c2 := (old_of HB2.out).1; clear hb2)
          | (go_at_call 27; refine (isFrost_eq _ _ _ HQ.out).mono ?_; rintro e wF ⟨rfl, hwF⟩; rw [hwF]; clear hwF wF))
        clear hws c2
        have S2d := old_of HB2.out.drew; have HB2d := S2d.2
        refine wp_region_held_drew (S := (fun w' => (∀ b o, b < ws.heap.size → w'.cell? ⟨b, o, none⟩ = ws.cell? ⟨b, o, none⟩) ∧ Hid (Below ws.heap.size ws w'))) (by kernel_rfl) S2d (fun hHeld => ?_)
        (refine wpAnyH_take (i := 0) (v := ?_) rfl (by kernel_rfl) (by kernel_rfl) (by kernel_rfl) (fun _ _ _ h => h) (Or.inl ⟨by rfl, ?_⟩) (by assumption) ?_; rotate_left; (focus (intro w hSw; (try dsimp only at hSw); go_simp; (try with_reducible rfl))); (try simp only [List.getElem_toArray, List.getElem_cons_zero, List.getElem_cons_succ, Act.put, List.setIfInBounds_toArray, List.set_cons_zero, List.set_cons_succ]))
        (refine wpAnyH_take (i := 2) (v := ?_) rfl (by kernel_rfl) (by kernel_rfl) (by kernel_rfl) (fun _ _ _ h => h) (Or.inl ⟨by rfl, ?_⟩) (by assumption) ?_; rotate_left; (focus (intro w hSw; (try dsimp only at hSw); go_simp; (try with_reducible rfl))); (try simp only [List.getElem_toArray, List.getElem_cons_zero, List.getElem_cons_succ, Act.put, List.setIfInBounds_toArray, List.set_cons_zero, List.set_cons_succ]))
        (refine wpAnyH_take (i := 4) (v := ?_) rfl (by kernel_rfl) (by kernel_rfl) (by kernel_rfl) (fun _ _ _ h => h) (Or.inl ⟨by rfl, ?_⟩) (by assumption) ?_; rotate_left; (focus (intro w hSw; (try dsimp only at hSw); go_simp; (try with_reducible rfl))); (try simp only [List.getElem_toArray, List.getElem_cons_zero, List.getElem_cons_succ, Act.put, List.setIfInBounds_toArray, List.set_cons_zero, List.set_cons_succ]))
        refine wpAnyH_ready (rs := [1]) (by kernel_rfl) (by simp) ?_; refine AllReadyH.cons rfl (fun K hK => ?_) AllReadyH.nil; go_simp
        obtain ⟨wa, hwa, HBz', hblka⟩ : ∃ wa, (w2.alloc (.cells #[] 3)).drew = wa ∧ Below w2.heap.size w2 wa ∧ wa.heap[w2.heap.size]? = some (.cells #[] 3) := ⟨_, rfl, (below_alloc (Nat.le_refl _) _).drew, World.alloc_heap_new _ _⟩
        rw [hwa]
        have HBz : Hid (Below w2.heap.size w2 wa) := HBz'
        clear HBz'
        have Sa := old_of (bel HB2.out HBz.out)
        have HBza := Sa.2
        refine hK.out _ _ Sa (fun hHeld => ?_); clear hK K; (try simp only [List.getElem_toArray, List.getElem_cons_zero, List.getElem_cons_succ, Act.put, List.setIfInBounds_toArray, List.set_cons_zero, List.set_cons_succ])
        refine wpAnyH_ready (rs := [3]) (by kernel_rfl) (by simp) ?_; refine AllReadyH.cons rfl (fun K hK => ?_) AllReadyH.nil; rw [if_pos (by rfl)]
        refine wp_appendInts _ (.tmp 34) (.tmp 35) rfl w2.heap.size _ [] rfl (own_empty (Nat.le_refl _) hblka) M _ _ _ x rfl (HX.out.go HM.out HBza.out) (by simp; omega) HBz.out.size ?_
        intro v3 w3 ho3 hb3
        have hi3 := own_list ho3 (List.nil_append _) hn1
        obtain ⟨a3', z3', rfl⟩ : ∃ a c, v3 = .slice a n c := (by obtain ⟨ao, cp, e, _⟩ := hi3; exact ⟨ao, cp, e⟩)
        have HI3 := Lib.hid hi3
        have S3 : Old ws.heap.size ws w3 := old_of (bel HB2.out (HBz.out.trans hb3))
        have HB3 := S3.2
        clear ho3 hi3 hb3 hblka
        refine hK.out _ _ S3 (fun hHeld => ?_); clear hK K; (try simp only [List.getElem_toArray, List.getElem_cons_zero, List.getElem_cons_succ, Act.put, List.setIfInBounds_toArray, List.set_cons_zero, List.set_cons_succ])
        refine wpAnyH_ready (rs := [5]) (by kernel_rfl) (by simp) ?_; refine AllReadyH.cons rfl (fun K hK => ?_) AllReadyH.nil; go_simp
        go_at_call 28
        refine (kLost_any N w3.heap.size _ _ B n x q _ (HBK.out.go HB3.out) HI3.out (Nat.le_refl _)).mono ?_
        rw [HEL.out]
        rintro e w4 ⟨v4, rfl, ho4, hb4⟩
        replace ho4 : OwnI w3.heap.size w4 v4 L := ho4
        have hi4 := ho4.ints (by rw [HLL.out]; omega)
        rw [HLL.out] at hi4
        obtain ⟨a4, z4, rfl⟩ : ∃ a c, v4 = .slice a ll c := (by obtain ⟨ao, cp, e, _⟩ := hi4; exact ⟨ao, cp, e⟩)
        have HI4 := Lib.hid hi4
        have S4 := old_of (bel HB3.out hb4)
        have HB4 := S4.2
        clear hb4 ho4 hi4
        refine hK.out _ _ S4 (fun hHeld => ?_); clear hK K; (try simp only [List.getElem_toArray, List.getElem_cons_zero, List.getElem_cons_succ, Act.put, List.setIfInBounds_toArray, List.set_cons_zero, List.set_cons_succ])
        (refine wpAnyH_take (i := 6) (v := ?_) rfl (by kernel_rfl) (by kernel_rfl) (by kernel_rfl) (fun _ _ _ h => h) (Or.inl ⟨by rfl, ?_⟩) (by assumption) ?_; rotate_left; (focus (intro w hSw; (try dsimp only at hSw); go_simp; (try with_reducible rfl))); (try simp only [List.getElem_toArray, List.getElem_cons_zero, List.getElem_cons_succ, Act.put, List.setIfInBounds_toArray, List.set_cons_zero, List.set_cons_succ])); (refine wpAnyH_take (i := 7) (v := ?_) rfl (by kernel_rfl) (by kernel_rfl) (by kernel_rfl) (fun _ _ _ h => h) (Or.inl ⟨by rfl, ?_⟩) (by assumption) ?_; rotate_left; (focus (intro w hSw; (try dsimp only at hSw); go_simp; (try with_reducible rfl))); (try simp only [List.getElem_toArray, List.getElem_cons_zero, List.getElem_cons_succ, Act.put, List.setIfInBounds_toArray, List.set_cons_zero, List.set_cons_succ])); (refine wpAnyH_take (i := 8) (v := ?_) rfl (by kernel_rfl) (by kernel_rfl) (by kernel_rfl) (fun _ _ _ h => h) (Or.inl ⟨by rfl, ?_⟩) (by assumption) ?_; rotate_left; (focus (intro w hSw; (try dsimp only at hSw); go_simp; (try with_reducible rfl))); (try simp only [List.getElem_toArray, List.getElem_cons_zero, List.getElem_cons_succ, Act.put, List.setIfInBounds_toArray, List.set_cons_zero, List.set_cons_succ])); (refine wpAnyH_take (i := 9) (v := ?_) rfl (by kernel_rfl) (by kernel_rfl) (by kernel_rfl) (fun _ _ _ h => h) (Or.inl ⟨by rfl, ?_⟩) (by assumption) ?_; rotate_left; (focus (intro w hSw; (try dsimp only at hSw); go_simp; (try with_reducible rfl))); (try simp only [List.getElem_toArray, List.getElem_cons_zero, List.getElem_cons_succ, Act.put, List.setIfInBounds_toArray, List.set_cons_zero, List.set_cons_succ])); (refine wpAnyH_take (i := 10) (v := ?_) rfl (by kernel_rfl) (by kernel_rfl) (by kernel_rfl) (fun _ _ _ h => h) (Or.inl ⟨by rfl, ?_⟩) (by assumption) ?_; rotate_left; (focus (intro w hSw; (try dsimp only at hSw); go_simp; (try with_reducible rfl))); (try simp only [List.getElem_toArray, List.getElem_cons_zero, List.getElem_cons_succ, Act.put, List.setIfInBounds_toArray, List.set_cons_zero, List.set_cons_succ]))
        refine wpAnyH_done (by kernel_rfl) ?_ _; clear hHeld
        have r0 := (HB4.out.cell (p := ⟨w.heap.size, 0, none⟩) hsz).trans q0
        have r1 := (HB4.out.cell (p := ⟨w.heap.size, 1, none⟩) hsz).trans q1
        have r2 := (HB4.out.cell (p := ⟨w.heap.size, 2, none⟩) hsz).trans q2
        have hsz4 := Nat.lt_of_lt_of_le hsz HB4.out.size
        clear S4 S3 Sa S2d
        go_upto_region 6 with fail
        go_cut [9, 10] (fun a b wx => ∃ g1 gp, a = .slice (some ⟨g1, 0, none⟩) B.ns B.ns ∧ b = .slice (some ⟨gp, 0, none⟩) B.ns B.ns ∧ Hid (g1 ≠ gp ∧ w4.heap.size ≤ g1 ∧ w4.heap.size ≤ gp) ∧ Hid (NB wx g1 B.ns (cS B g)) ∧ Hid (NB wx gp B.ns (fun _ => 0)) ∧ Hid (Below w4.heap.size w4 wx))
        case first =>
          have HB0d : Hid (Below w4.heap.size w4 w4.drew) := (Below.refl _ _).drew
          have S0d := old_of HB0d.out
          have HBq : Hid (Below ws.heap.size ws w4.drew) := bel HB4.out HB0d.out
          refine wp_region_held_drew (S := (fun w' => (∀ b o, b < w4.heap.size → w'.cell? ⟨b, o, none⟩ = w4.cell? ⟨b, o, none⟩) ∧ Hid (Below w4.heap.size w4 w'))) (by kernel_rfl) S0d (fun hHeld => ?_)
          (refine wpAnyH_take (i := 0) (v := ?_) rfl (by kernel_rfl) (by kernel_rfl) (by kernel_rfl) (fun _ _ _ h => h) (Or.inl ⟨by rfl, ?_⟩) (by assumption) ?_; rotate_left; (focus (intro w hSw; (try dsimp only at hSw); go_simp; (try with_reducible rfl))); (try simp only [List.getElem_toArray, List.getElem_cons_zero, List.getElem_cons_succ, Act.put, List.setIfInBounds_toArray, List.set_cons_zero, List.set_cons_succ])); (refine wpAnyH_take (i := 1) (v := ?_) rfl (by kernel_rfl) (by kernel_rfl) (by kernel_rfl) (fun _ _ _ h => h) (Or.inl ⟨by rfl, ?_⟩) (by assumption) ?_; rotate_left; (focus (intro w hSw; (try dsimp only at hSw); go_simp; (try with_reducible rfl))); (try simp only [List.getElem_toArray, List.getElem_cons_zero, List.getElem_cons_succ, Act.put, List.setIfInBounds_toArray, List.set_cons_zero, List.set_cons_succ]))
          (refine wpAnyH_take (i := 3) (v := ?_) rfl (by kernel_rfl) (by kernel_rfl) (by kernel_rfl) (fun _ _ _ h => h) (Or.inl ⟨by rfl, ?_⟩) (by assumption) ?_; rotate_left; (focus (intro w hSw; (try dsimp only at hSw); go_simp; (try with_reducible rfl))); (try simp only [List.getElem_toArray, List.getElem_cons_zero, List.getElem_cons_succ, Act.put, List.setIfInBounds_toArray, List.set_cons_zero, List.set_cons_succ])); (refine wpAnyH_take (i := 4) (v := ?_) rfl (by kernel_rfl) (by kernel_rfl) (by kernel_rfl) (fun _ _ _ h => h) (Or.inl ⟨by rfl, ?_⟩) (by assumption) ?_; rotate_left; (focus (intro w hSw; (try dsimp only at hSw); go_simp; (try with_reducible rfl))); (try simp only [List.getElem_toArray, List.getElem_cons_zero, List.getElem_cons_succ, Act.put, List.setIfInBounds_toArray, List.set_cons_zero, List.set_cons_succ])); (refine wpAnyH_take (i := 5) (v := ?_) rfl (by kernel_rfl) (by kernel_rfl) (by kernel_rfl) (fun _ _ _ h => h) (Or.inl ⟨by rfl, ?_⟩) (by assumption) ?_; rotate_left; (focus (intro w hSw; (try dsimp only at hSw); go_simp; (try with_reducible rfl))); (try simp only [List.getElem_toArray, List.getElem_cons_zero, List.getElem_cons_succ, Act.put, List.setIfInBounds_toArray, List.set_cons_zero, List.set_cons_succ]))
          refine wpAnyH_ready (rs := [2, 6]) (by kernel_rfl) (by simp) ?_; refine AllReadyH.cons rfl (fun K hK => ?_) (AllReadyH.cons rfl (fun K hK => ?_) AllReadyH.nil)
          · go_simp
            go_at_call 19
            refine (counts_any N M _ _ B 4 n x _ (HBK.out.go HBq.out) HG.out (HX.out.go HM.out HBq.out) (Nat.le_trans HM.out HBq.out.size) HXX.out hn1).mono ?_
            rw [HNG.out]
            rintro e w5 ⟨⟨g1, rfl, hg0, hnb⟩, hb5⟩
            have HG0 : Hid (w4.heap.size ≤ g1) := hg0
            have HNB := Lib.hid hnb
            have S5 := old_of (bel HB0d.out hb5)
            have HB5 := S5.2
            clear hb5 hnb hg0
            refine hK.out _ _ S5 (fun hHeld => ?_); clear hK K; (try simp only [List.getElem_toArray, List.getElem_cons_zero, List.getElem_cons_succ, Act.put, List.setIfInBounds_toArray, List.set_cons_zero, List.set_cons_succ])
            (refine wpAnyH_take (i := 7) (v := ?_) rfl (by kernel_rfl) (by kernel_rfl) (by kernel_rfl) (fun _ _ _ h => h) (Or.inl ⟨by rfl, ?_⟩) (by assumption) ?_; rotate_left; (focus (intro w hSw; (try dsimp only at hSw); go_simp; (try with_reducible rfl))); (try simp only [List.getElem_toArray, List.getElem_cons_zero, List.getElem_cons_succ, Act.put, List.setIfInBounds_toArray, List.set_cons_zero, List.set_cons_succ]))
            refine wpAnyH_ready (rs := [6]) (by kernel_rfl) (by simp) ?_; refine AllReadyH.cons rfl (fun K hK => ?_) AllReadyH.nil; go_simp
            obtain ⟨w6, hw6, HB6, hsz6, hblk6⟩ := box1 w5 (.cells (madeCells #[.int .i64 0] B.ns) 3)
            rw [hw6]
            have S6 := old_of (bel HB5.out HB6.out)
            have HP6 := Lib.hid (NB.made hblk6)
            have HN6 := Lib.hid (HNB.out.keep (HB6.out.block _ HNB.out.lt))
            have hlt := HNB.out.lt
            refine hK.out _ _ S6 (fun hHeld => ?_)
            clear hK K hw6
            (try simp only [List.getElem_toArray, List.getElem_cons_zero, List.getElem_cons_succ, Act.put, List.setIfInBounds_toArray, List.set_cons_zero, List.set_cons_succ])
            (refine wpAnyH_take (i := 8) (v := ?_) rfl (by kernel_rfl) (by kernel_rfl) (by kernel_rfl) (fun _ _ _ h => h) (Or.inl ⟨by rfl, ?_⟩) (by assumption) ?_; rotate_left; (focus (intro w hSw; (try dsimp only at hSw); go_simp; (try with_reducible rfl))); (try simp only [List.getElem_toArray, List.getElem_cons_zero, List.getElem_cons_succ, Act.put, List.setIfInBounds_toArray, List.set_cons_zero, List.set_cons_succ]))
            refine wpAnyH_done (by kernel_rfl) ?_ _; clear hHeld
            go_wp2_with fail
            go_meet
            exact ⟨g1, w5.heap.size, rfl, rfl, ⟨by omega, HG0.out, HB5.out.size⟩, HN6, HP6, S6.2⟩
          · go_simp
            obtain ⟨w5, hw5, hb5, hblk5⟩ : ∃ w5, (w4.alloc (.cells (madeCells #[.int .i64 0] B.ns) 3)).drew = w5 ∧ Below w4.heap.size w4 w5 ∧ w5.heap[w4.heap.size]? = some (.cells (madeCells #[.int .i64 0] B.ns) 3) := ⟨_, rfl, (below_alloc (Nat.le_refl _) _).drew, World.alloc_heap_new _ _⟩
            rw [hw5]
            have HP5 := Lib.hid (NB.made hblk5)
            have S5 := old_of hb5
            have HB5 := S5.2
            have HBq5 : Hid (Below ws.heap.size ws w5) := bel HB4.out HB5.out
            refine hK.out _ _ S5 (fun hHeld => ?_)
            clear hK K hw5 hblk5 hb5
            (try simp only [List.getElem_toArray, List.getElem_cons_zero, List.getElem_cons_succ, Act.put, List.setIfInBounds_toArray, List.set_cons_zero, List.set_cons_succ])
            refine wpAnyH_ready (rs := [2]) (by kernel_rfl) (by simp) ?_; refine AllReadyH.cons rfl (fun K hK => ?_) AllReadyH.nil; go_simp
            go_at_call 19
            refine (counts_any N M _ _ B 4 n x _ (HBK.out.go HBq5.out) HG.out (HX.out.go HM.out HBq5.out) (Nat.le_trans HM.out HBq5.out.size) HXX.out hn1).mono ?_
            rw [HNG.out]
            rintro e w6 ⟨⟨g1, rfl, hg0, hnb⟩, hb6⟩
            have HNB := Lib.hid hnb
            have S6 := old_of (bel HB5.out hb6)
            have HP6 := Lib.hid (HP5.out.keep (hb6.block _ HP5.out.lt))
            have hlt := HP5.out.lt
            have hs1 := HB5.out.size
            refine hK.out _ _ S6 (fun hHeld => ?_); clear hK K; (try simp only [List.getElem_toArray, List.getElem_cons_zero, List.getElem_cons_succ, Act.put, List.setIfInBounds_toArray, List.set_cons_zero, List.set_cons_succ])
            (refine wpAnyH_take (i := 7) (v := ?_) rfl (by kernel_rfl) (by kernel_rfl) (by kernel_rfl) (fun _ _ _ h => h) (Or.inl ⟨by rfl, ?_⟩) (by assumption) ?_; rotate_left; (focus (intro w hSw; (try dsimp only at hSw); go_simp; (try with_reducible rfl))); (try simp only [List.getElem_toArray, List.getElem_cons_zero, List.getElem_cons_succ, Act.put, List.setIfInBounds_toArray, List.set_cons_zero, List.set_cons_succ])); (refine wpAnyH_take (i := 8) (v := ?_) rfl (by kernel_rfl) (by kernel_rfl) (by kernel_rfl) (fun _ _ _ h => h) (Or.inl ⟨by rfl, ?_⟩) (by assumption) ?_; rotate_left; (focus (intro w hSw; (try dsimp only at hSw); go_simp; (try with_reducible rfl))); (try simp only [List.getElem_toArray, List.getElem_cons_zero, List.getElem_cons_succ, Act.put, List.setIfInBounds_toArray, List.set_cons_zero, List.set_cons_succ]))
            refine wpAnyH_done (by kernel_rfl) ?_ _; clear hHeld
            go_wp2_with fail
            go_meet
            exact ⟨g1, w4.heap.size, rfl, rfl, ⟨by omega, by omega, Nat.le_refl _⟩, HNB, HP6, S6.2⟩
        case rest =>
          obtain ⟨g1, gp, rfl, rfl, hne, HC, HP, HBc⟩ := hcut
          have HNE := hne
          obtain ⟨hgg, hgs, hgps⟩ := hne.out
          have HP0 : Hid (NB wc gp B.ns (fun s => cT B (natL 0 x) s q)) := HP.out
          clear hmk r0 r1 r2 HP
          go_wp2
          go_loopw [11] (fun i wr => ∃ k : Nat, k ≤ n ∧ i = .int .i64 k ∧ Hid (NB wr gp B.ns (fun s => cT B (natL k x) s q)) ∧ Hid (NB wr g1 B.ns (cS B g)) ∧ Hid (Below w4.heap.size w4 wr)) (fun i _ => n - (intOf i).toNat)
          case atStart => exact ⟨0, Nat.zero_le _, rfl, HP0, HC, HBc⟩
          case round =>
            obtain ⟨k, hk, rfl, HP, HCr, HBr⟩ := hrel
            have HBW : Hid (Below ws.heap.size ws wr) := bel HB4.out HBr.out
            by_cases hkn : k < n
            · have hki : (k : Int) < (n : Int) := by omega
              obtain ⟨b', off, e, hbM, HR⟩ := HX.out.cells (by omega)
              cases e
              have hbs : b' < ws.heap.size := by have := HM.out; omega
              obtain ⟨y', hy', hyn'⟩ : ∃ y : Nat, x k = y ∧ y < B.nw := ⟨(x k).toNat, by have := HXX.out k hkn; omega, by have := HXX.out k hkn; omega⟩
              obtain ⟨b3, off3, e3, hb3, HR3⟩ := HBK.out.wants.cells (by omega)
              cases e3
              have hb3s : b3 < ws.heap.size := by have := HNS.out; omega
              obtain ⟨s', hs', hsn', hse'⟩ : ∃ s, B.sN y' = s ∧ s < B.ns ∧ B.S y' = s := ⟨_, rfl, HG.out.sN hyn'⟩
              obtain ⟨a', ha', han', hae'⟩ : ∃ a, B.gN y' = a ∧ a < B.ng ∧ B.G y' = a := ⟨_, rfl, HG.out.gN hyn'⟩
              obtain ⟨f', hf', hfn', hfe'⟩ : ∃ f, B.fN y' = f ∧ f < 4 ∧ B.F (B.gN y') = f := ⟨_, rfl, HG.out.fN hyn'⟩
              rw [ha'] at hfe'
              obtain ⟨b2, off2, e2, hb2, HR2⟩ := HBK.out.gardens.cells (by omega)
              cases e2
              have hb2s : b2 < ws.heap.size := by have := HNS.out; omega
              have HL : Hid (natL (k + 1) x = natL k x ++ [y']) := by unfold Hid; rw [natL_succ, hy']; rfl
              have HC2 : Hid (∀ s, cT B (natL (k + 1) x) s q = cT B (natL k x) s q + if s' = s ∧ f' = q then 1 else 0) := fun s => by rw [HL.out, cT_snoc, hs', hf']
              have hwz : ws.heap.size ≤ wr.heap.size := HBW.out.size
              have hwz4 : w4.heap.size ≤ wr.heap.size := HBr.out.size
              have c0 := (HBW.out.cell (p := ⟨b', off + k, none⟩) hbs).trans (HR k hkn)
              rw [hy'] at c0
              have c1 := (HBW.out.cell (p := ⟨b3, off3 + y' * 2, none⟩) hb3s).trans (HR3 y' hyn').1
              have c2 := (HBW.out.cell (p := ⟨b3, off3 + y' * 2 + 1, none⟩) hb3s).trans (HR3 y' hyn').2
              have g3 := (HR2 a' han').2
              rw [hae'] at c1
              rw [hse'] at c2
              rw [hfe'] at g3
              have HG3 := Lib.hid g3
              have r2 := (HBW.out.cell (p := ⟨w.heap.size, 2, none⟩) hsz).trans q2
              have hyi' : (y' : Int) < (B.nw : Int) := by omega
              have hbw' : b' < wr.heap.size := by omega
              have hb3w' : b3 < wr.heap.size := by omega
              have hhw' : w.heap.size < wr.heap.size := by omega
              have hgpw : gp < wr.heap.size := HP.out.lt
              have hg1w : g1 < wr.heap.size := HCr.out.lt
              have HBZi : Hid (Below wr.heap.size wr wr.drew) := (Below.refl _ _).drew
              have SId := old_of HBZi.out
              clear hy' hs' ha' hf' hse' hae' hfe' hyn' HR HR2 HR3 g3
              go_wp2
              refine wp_region_held_drew (S := (fun w' => (∀ b o, b < wr.heap.size → w'.cell? ⟨b, o, none⟩ = wr.cell? ⟨b, o, none⟩) ∧ Hid (Below wr.heap.size wr w'))) (by kernel_rfl) SId (fun hHeld => ?_)
              (refine wpAnyH_take (i := 0) (v := ?_) rfl (by kernel_rfl) (by kernel_rfl) (by kernel_rfl) (fun _ _ _ h => h) (Or.inl ⟨by rfl, ?_⟩) (by assumption) ?_; rotate_left; (focus (intro w hSw; (try dsimp only at hSw); go_simp; (try with_reducible rfl))); (try simp only [List.getElem_toArray, List.getElem_cons_zero, List.getElem_cons_succ, Act.put, List.setIfInBounds_toArray, List.set_cons_zero, List.set_cons_succ])); (refine wpAnyH_take (i := 1) (v := ?_) rfl (by kernel_rfl) (by kernel_rfl) (by kernel_rfl) (fun _ _ _ h => h) (Or.inl ⟨by rfl, ?_⟩) (by assumption) ?_; rotate_left; (focus (intro w hSw; (try dsimp only at hSw); go_simp; (try with_reducible rfl))); (try simp only [List.getElem_toArray, List.getElem_cons_zero, List.getElem_cons_succ, Act.put, List.setIfInBounds_toArray, List.set_cons_zero, List.set_cons_succ])); (refine wpAnyH_take (i := 2) (v := ?_) rfl (by kernel_rfl) (by kernel_rfl) (by kernel_rfl) (fun _ _ _ h => h) (Or.inl ⟨by rfl, ?_⟩) (by assumption) ?_; rotate_left; (focus (intro w hSw; (try dsimp only at hSw); go_simp; (try with_reducible rfl))); (try simp only [List.getElem_toArray, List.getElem_cons_zero, List.getElem_cons_succ, Act.put, List.setIfInBounds_toArray, List.set_cons_zero, List.set_cons_succ])); (refine wpAnyH_take (i := 3) (v := ?_) rfl (by kernel_rfl) (by kernel_rfl) (by kernel_rfl) (fun _ _ _ h => h) (Or.inl ⟨by rfl, ?_⟩) (by assumption) ?_; rotate_left; (focus (intro w hSw; (try dsimp only at hSw); go_simp; (try with_reducible rfl))); (try simp only [List.getElem_toArray, List.getElem_cons_zero, List.getElem_cons_succ, Act.put, List.setIfInBounds_toArray, List.set_cons_zero, List.set_cons_succ])); (refine wpAnyH_take (i := 4) (v := ?_) rfl (by kernel_rfl) (by kernel_rfl) (by kernel_rfl) (fun _ _ _ h => h) (Or.inl ⟨by rfl, ?_⟩) (by assumption) ?_; rotate_left; (focus (intro w hSw; (try dsimp only at hSw); go_simp; (try with_reducible rfl))); (try simp only [List.getElem_toArray, List.getElem_cons_zero, List.getElem_cons_succ, Act.put, List.setIfInBounds_toArray, List.set_cons_zero, List.set_cons_succ])); (refine wpAnyH_take (i := 5) (v := ?_) rfl (by kernel_rfl) (by kernel_rfl) (by kernel_rfl) (fun _ _ _ h => h) (Or.inl ⟨by rfl, ?_⟩) (by assumption) ?_; rotate_left; (focus (intro w hSw; (try dsimp only at hSw); go_simp; (try with_reducible rfl))); (try simp only [List.getElem_toArray, List.getElem_cons_zero, List.getElem_cons_succ, Act.put, List.setIfInBounds_toArray, List.set_cons_zero, List.set_cons_succ])); (refine wpAnyH_take (i := 6) (v := ?_) rfl (by kernel_rfl) (by kernel_rfl) (by kernel_rfl) (fun _ _ _ h => h) (Or.inl ⟨by rfl, ?_⟩) (by assumption) ?_; rotate_left; (focus (intro w hSw; (try dsimp only at hSw); go_simp; (try with_reducible rfl))); (try simp only [List.getElem_toArray, List.getElem_cons_zero, List.getElem_cons_succ, Act.put, List.setIfInBounds_toArray, List.set_cons_zero, List.set_cons_succ])); (refine wpAnyH_take (i := 7) (v := ?_) rfl (by kernel_rfl) (by kernel_rfl) (by kernel_rfl) (fun _ _ _ h => h) (Or.inl ⟨by rfl, ?_⟩) (by assumption) ?_; rotate_left; (focus (intro w hSw; (try dsimp only at hSw); go_simp; (try with_reducible rfl))); (try simp only [List.getElem_toArray, List.getElem_cons_zero, List.getElem_cons_succ, Act.put, List.setIfInBounds_toArray, List.set_cons_zero, List.set_cons_succ]))
              refine wpAnyH_ready (rs := [8]) (by kernel_rfl) (by simp) ?_; refine AllReadyH.cons rfl (fun K hK => ?_) AllReadyH.nil; go_simp
              obtain ⟨wa', hwa', hba, hca⟩ : ∃ wa, (wr.alloc (.cells #[.int .i64 0, .int .i64 0] 43)).drew = wa ∧ Below wr.heap.size wr wa ∧ wa.heap[wr.heap.size]? = some (.cells #[.int .i64 0, .int .i64 0] 43) := ⟨_, rfl, (below_alloc (Nat.le_refl _) _).drew, World.alloc_heap_new _ _⟩
              rw [hwa']
              have HBa' := Lib.hid hba
              have HCa := Lib.hid hca
              have Sa := old_of hba
              clear hwa' hba hca
              refine hK.out _ _ Sa (fun hHeld => ?_)
              clear hK K
              (try simp only [List.getElem_toArray, List.getElem_cons_zero, List.getElem_cons_succ, Act.put, List.setIfInBounds_toArray, List.set_cons_zero, List.set_cons_succ])
              have z0 := cell_blk HCa.out 0 rfl
              have z1 := cell_blk HCa.out 1 rfl
              have zf0 := free_blk HCa.out 0
              have zf1 := free_blk HCa.out 1
              refine wpAnyH_ready (rs := [9]) (by kernel_rfl) (by simp) ?_; refine AllReadyH.cons rfl (fun K hK => ?_) AllReadyH.nil; go_simp
              obtain ⟨wb1, hwb, hcb, hbb⟩ := put2 HCa.out (.int .i64 a') (.int .i64 s')
              rw [hwb]
              have HBb1 : Hid (Below wr.heap.size wr wb1) := HBa'.out.trans hbb
              have HCb1 := Lib.hid hcb
              have Sb := old_of HBb1.out
              clear hwb hcb hbb z0 z1 zf0 zf1 Sa
              refine hK.out _ _ Sb (fun hHeld => ?_)
              clear hK K
              (try simp only [List.getElem_toArray, List.getElem_cons_zero, List.getElem_cons_succ, Act.put, List.setIfInBounds_toArray, List.set_cons_zero, List.set_cons_succ])
              refine wpAnyH_done (by kernel_rfl) ?_ _; clear hHeld
              clear Sb SId
              obtain ⟨g0, hg0⟩ : ∃ g0, wr.heap.size = g0 := ⟨_, rfl⟩
              have HG1 := Lib.hid hg0
              have HBX : Hid (Below w4.heap.size w4 wb1) := bel HBr.out HBb1.out
              have HPb := Lib.hid (HP.out.keep (HBb1.out.block gp hgpw))
              have HCb := Lib.hid (HCr.out.keep (HBb1.out.block g1 hg1w))
              have hgp0 : gp < g0 := by rw [← hg0]; exact hgpw
              rw [hg0] at HCb1 ⊢
              have y0 := cell_blk HCb1.out 0 rfl
              have y1 := cell_blk HCb1.out 1 rfl
              have HBY : Hid (Below ws.heap.size ws wb1) := bel HB4.out HBX.out
              have r1 := (HBY.out.cell (p := ⟨w.heap.size, 1, none⟩) hsz).trans q1
              have d1 := (HBY.out.cell (p := ⟨b2, off2 + a' * 2 + 1, none⟩) hb2s).trans HG3.out
              have hai' : (a' : Int) < (B.ng : Int) := by omega
              clear hg0 c0 c1 c2 r2
              by_cases hff : f' = q
              · have hb2 : ((f' : Int) == (q : Int)) = true := by simp; omega
                have hsi' : (s' : Int) < (B.ns : Int) := by omega
                have cc := HPb.out.cell hsn'
                have fz := HPb.out.free s'
                have hcl : cT B (natL k x) s' q ≤ 1000 := Nat.le_trans List.countP_le_length (by rw [natL_len]; omega)
                obtain ⟨z, hz⟩ : ∃ z, cT B (natL k x) s' q = z := ⟨_, rfl⟩
                have HZ := Lib.hid hz
                have HFF := Lib.hid hff
                rw [hz] at cc hcl
                clear hz hff
                go_upto_region 9 with fail
                have HN4 : Hid (NB (wb1.setCell ⟨gp, s', none⟩ (.int .i64 (z + 1 : Nat))) gp B.ns (fun s => cT B (natL (k + 1) x) s q)) := by
                  refine NB.congr (HPb.out.set hsn' (z + 1)) fun i _ => ?_
                  rw [HC2.out]
                  by_cases e : i = s'
                  · subst e; simp [HZ.out, HFF.out]
                  · rw [if_neg e, if_neg fun h => e h.1.symm]; rfl
                have HB5 : Hid (Below w4.heap.size w4 (wb1.setCell ⟨gp, s', none⟩ (.int .i64 (z + 1 : Nat)))) := HBX.out.setCell (p := ⟨gp, s', none⟩) hgps _
                have HN5 : Hid (NB (wb1.setCell ⟨gp, s', none⟩ (.int .i64 (z + 1 : Nat))) g1 B.ns (cS B g)) := HCb.out.keep (Below.heap_setCell _ _ _ _ (by show g1 ≠ gp; exact hgg))
                obtain ⟨w5, hw5⟩ : ∃ w5, wb1.setCell ⟨gp, s', none⟩ (.int .i64 (z + 1 : Nat)) = w5 := ⟨_, rfl⟩
                rw [show ((z : Int) + 1) = ((z + 1 : Nat) : Int) by omega]
                rw [hw5] at HN4 HB5 HN5 ⊢
                clear hw5 y0 y1 cc fz r1 d1
                go_wp2
                go_roundw
                case rel => exact ⟨k + 1, by omega, by go_num, HN4, HN5, HB5⟩
                case measure => simp [intOf]; omega
              · have hb2 : ((f' : Int) == (q : Int)) = false := by simp; omega
                have HPN : Hid (NB wb1 gp B.ns (fun s => cT B (natL (k + 1) x) s q)) := NB.congr HPb.out fun i _ => by rw [HC2.out, if_neg fun h => hff h.2]; rfl
                clear hff
                go_wp2
                go_roundw
                case rel => exact ⟨k + 1, by omega, by go_num, HPN, HCb, HBX⟩
                case measure => simp [intOf]; omega
            · have hkk : k = n := by omega
              subst hkk
              rw [HNG.out] at HP
              have HI5 := Lib.hid (HI4.out.mono HBr.out (Nat.le_refl _))
              obtain ⟨w5, hw5⟩ : ∃ w5, w5 = wr := ⟨_, rfl⟩
              subst hw5
              have HB5 := HBW
              have hgp5 := HP.out.lt
              have hg15 := HCr.out.lt
              have h45 := HBr.out.size
              clear HBr HBc HC HP0
              go_wp2
              go_loopw [13] (fun i wr => ∃ k : Nat, k ≤ B.ns ∧ i = .int .i64 k ∧ Hid (Below w5.heap.size w5 wr)) (fun i _ => B.ns - (intOf i).toNat)
              case atStart => exact ⟨0, Nat.zero_le _, rfl, Below.refl _ _⟩
              case round =>
                obtain ⟨k, hk, rfl, HBr⟩ := hrel
                by_cases hkn : k < B.ns
                · have hki : (k : Int) < (B.ns : Int) := by omega
                  have ct := (HBr.out.cell (p := ⟨gp, k, none⟩) hgp5).trans (HP.out.cell hkn)
                  have cc := (HBr.out.cell (p := ⟨g1, k, none⟩) hg15).trans (HCr.out.cell hkn)
                  have HIr := Lib.hid (HI5.out.mono (((Below.mono HBr.out h45)).trans ((Below.refl _ wr).drew)) (Nat.le_refl _))
                  have HIN := Lib.hid (HLI.out k hkn)
                  have ht := HT1.out k
                  obtain ⟨ck, hck⟩ : ∃ z, cS B g k = z := ⟨_, rfl⟩
                  obtain ⟨tk, htk⟩ : ∃ z, cT B g k q = z := ⟨_, rfl⟩
                  simp only [htk] at ct
                  rw [hck] at cc HIN
                  rw [htk] at HIN ht
                  clear hck htk
                  have ht1 : ¬ (1 : Int) < (tk : Int) := by omega
                  have ht1b : decide (1 < tk) = false := decide_eq_false (by omega)
                  have ht1c : decide ((1 : Int) < (tk : Int)) = false := decide_eq_false (by omega)
                  by_cases hc1 : ck = 1
                  · have hcb : ((ck : Int) == 1) = true := by simp; omega
                    by_cases htt : tk = 1
                    · have htb : ((tk : Int) == 1) = true := by simp; omega
                      have HI1 : Hid ((anyB ll fun i => decide (L.getD i 0 = (k : Int))) = true) := by rw [decide_eq_true hc1, decide_eq_true htt] at HIN; exact HIN.out
                      clear hc1 htt ht HIN
                      go_wp2
                      refine wp_region_held_drew (S := fun w' => w'.cell? ⟨gp, k, none⟩ = some (.int .i64 tk) ∧ w'.cell? ⟨g1, k, none⟩ = some (.int .i64 ck)) (by kernel_rfl) ⟨ct, cc⟩ (fun hHeld => ?_)
                      (refine wpAnyH_take (i := 0) (v := ?_) rfl (by kernel_rfl) (by kernel_rfl) (by kernel_rfl) (fun _ _ _ h => h) (Or.inl ⟨by rfl, ?_⟩) (by assumption) ?_; rotate_left; (focus (intro w hSw; (try dsimp only at hSw); go_simp; (try with_reducible rfl))); (try simp only [List.getElem_toArray, List.getElem_cons_zero, List.getElem_cons_succ, Act.put, List.setIfInBounds_toArray, List.set_cons_zero, List.set_cons_succ])); (refine wpAnyH_take (i := 1) (v := ?_) rfl (by kernel_rfl) (by kernel_rfl) (by kernel_rfl) (fun _ _ _ h => h) (Or.inl ⟨by rfl, ?_⟩) (by assumption) ?_; rotate_left; (focus (intro w hSw; (try dsimp only at hSw); go_simp; (try with_reducible rfl))); (try simp only [List.getElem_toArray, List.getElem_cons_zero, List.getElem_cons_succ, Act.put, List.setIfInBounds_toArray, List.set_cons_zero, List.set_cons_succ])); (refine wpAnyH_take (i := 2) (v := ?_) rfl (by kernel_rfl) (by kernel_rfl) (by kernel_rfl) (fun _ _ _ h => h) (Or.inl ⟨by rfl, ?_⟩) (by assumption) ?_; rotate_left; (focus (intro w hSw; (try dsimp only at hSw); go_simp; (try with_reducible rfl))); (try simp only [List.getElem_toArray, List.getElem_cons_zero, List.getElem_cons_succ, Act.put, List.setIfInBounds_toArray, List.set_cons_zero, List.set_cons_succ])); (refine wpAnyH_take (i := 3) (v := ?_) rfl (by kernel_rfl) (by kernel_rfl) (by kernel_rfl) (fun _ _ _ h => h) (Or.inl ⟨by rfl, ?_⟩) (by assumption) ?_; rotate_left; (focus (intro w hSw; (try dsimp only at hSw); go_simp; (try with_reducible rfl))); (try simp only [List.getElem_toArray, List.getElem_cons_zero, List.getElem_cons_succ, Act.put, List.setIfInBounds_toArray, List.set_cons_zero, List.set_cons_succ])); (refine wpAnyH_take (i := 4) (v := ?_) rfl (by kernel_rfl) (by kernel_rfl) (by kernel_rfl) (fun _ _ _ h => h) (Or.inl ⟨by rfl, ?_⟩) (by assumption) ?_; rotate_left; (focus (intro w hSw; (try dsimp only at hSw); go_simp; (try with_reducible rfl))); (try simp only [List.getElem_toArray, List.getElem_cons_zero, List.getElem_cons_succ, Act.put, List.setIfInBounds_toArray, List.set_cons_zero, List.set_cons_succ])); (refine wpAnyH_take (i := 5) (v := ?_) rfl (by kernel_rfl) (by kernel_rfl) (by kernel_rfl) (fun _ _ _ h => h) (Or.inl ⟨by rfl, ?_⟩) (by assumption) ?_; rotate_left; (focus (intro w hSw; (try dsimp only at hSw); go_simp; (try with_reducible rfl))); (try simp only [List.getElem_toArray, List.getElem_cons_zero, List.getElem_cons_succ, Act.put, List.setIfInBounds_toArray, List.set_cons_zero, List.set_cons_succ])); (refine wpAnyH_take (i := 6) (v := ?_) rfl (by kernel_rfl) (by kernel_rfl) (by kernel_rfl) (fun _ _ _ h => h) (Or.inl ⟨by rfl, ?_⟩) (by assumption) ?_; rotate_left; (focus (intro w hSw; (try dsimp only at hSw); go_simp; (try with_reducible rfl))); (try simp only [List.getElem_toArray, List.getElem_cons_zero, List.getElem_cons_succ, Act.put, List.setIfInBounds_toArray, List.set_cons_zero, List.set_cons_succ])); (refine wpAnyH_take (i := 7) (v := ?_) rfl (by kernel_rfl) (by kernel_rfl) (by kernel_rfl) (fun _ _ _ h => h) (Or.inl ⟨by rfl, ?_⟩) (by assumption) ?_; rotate_left; (focus (intro w hSw; (try dsimp only at hSw); go_simp; (try with_reducible rfl))); (try simp only [List.getElem_toArray, List.getElem_cons_zero, List.getElem_cons_succ, Act.put, List.setIfInBounds_toArray, List.set_cons_zero, List.set_cons_succ]))
                      (refine wpAnyH_take (i := 9) (v := ?_) rfl (by kernel_rfl) (by kernel_rfl) (by kernel_rfl) (fun _ _ _ h => h) (Or.inl ⟨by rfl, ?_⟩) (by assumption) ?_; rotate_left; (focus (intro w hSw; (try dsimp only at hSw); go_simp; (try with_reducible rfl))); (try simp only [List.getElem_toArray, List.getElem_cons_zero, List.getElem_cons_succ, Act.put, List.setIfInBounds_toArray, List.set_cons_zero, List.set_cons_succ])); (refine wpAnyH_take (i := 10) (v := ?_) rfl (by kernel_rfl) (by kernel_rfl) (by kernel_rfl) (fun _ _ _ h => h) (Or.inl ⟨by rfl, ?_⟩) (by assumption) ?_; rotate_left; (focus (intro w hSw; (try dsimp only at hSw); go_simp; (try with_reducible rfl))); (try simp only [List.getElem_toArray, List.getElem_cons_zero, List.getElem_cons_succ, Act.put, List.setIfInBounds_toArray, List.set_cons_zero, List.set_cons_succ])); (refine wpAnyH_take (i := 11) (v := ?_) rfl (by kernel_rfl) (by kernel_rfl) (by kernel_rfl) (fun _ _ _ h => h) (Or.inl ⟨by rfl, ?_⟩) (by assumption) ?_; rotate_left; (focus (intro w hSw; (try dsimp only at hSw); go_simp; (try with_reducible rfl))); (try simp only [List.getElem_toArray, List.getElem_cons_zero, List.getElem_cons_succ, Act.put, List.setIfInBounds_toArray, List.set_cons_zero, List.set_cons_succ])); (refine wpAnyH_take (i := 12) (v := ?_) rfl (by kernel_rfl) (by kernel_rfl) (by kernel_rfl) (fun _ _ _ h => h) (Or.inl ⟨by rfl, ?_⟩) (by assumption) ?_; rotate_left; (focus (intro w hSw; (try dsimp only at hSw); go_simp; (try with_reducible rfl))); (try simp only [List.getElem_toArray, List.getElem_cons_zero, List.getElem_cons_succ, Act.put, List.setIfInBounds_toArray, List.set_cons_zero, List.set_cons_succ])); (refine wpAnyH_take (i := 13) (v := ?_) rfl (by kernel_rfl) (by kernel_rfl) (by kernel_rfl) (fun _ _ _ h => h) (Or.inl ⟨by rfl, ?_⟩) (by assumption) ?_; rotate_left; (focus (intro w hSw; (try dsimp only at hSw); go_simp; (try with_reducible rfl))); (try simp only [List.getElem_toArray, List.getElem_cons_zero, List.getElem_cons_succ, Act.put, List.setIfInBounds_toArray, List.set_cons_zero, List.set_cons_succ]))
                      refine wpAnyH_ready (rs := [8]) (by kernel_rfl) (by simp) ?_; refine AllReadyH.cons rfl (fun K hK => ?_) AllReadyH.nil; go_simp
                      go_at_call 29
                      refine (in_any _ _ ll _ _ _ HIr.out).mono ?_
                      rintro e w' ⟨rfl, hw'⟩
                      rw [hw', HI1.out]
                      clear hw'
                      refine hK.out _ _ ⟨ct, cc⟩ (fun hHeld => ?_)
                      clear hK K
                      (try simp only [List.getElem_toArray, List.getElem_cons_zero, List.getElem_cons_succ, Act.put, List.setIfInBounds_toArray, List.set_cons_zero, List.set_cons_succ])
                      (refine wpAnyH_take (i := 14) (v := ?_) rfl (by kernel_rfl) (by kernel_rfl) (by kernel_rfl) (fun _ _ _ h => h) (Or.inl ⟨by rfl, ?_⟩) (by assumption) ?_; rotate_left; (focus (intro w hSw; (try dsimp only at hSw); go_simp; (try with_reducible rfl))); (try simp only [List.getElem_toArray, List.getElem_cons_zero, List.getElem_cons_succ, Act.put, List.setIfInBounds_toArray, List.set_cons_zero, List.set_cons_succ]))
                      (refine wpAnyH_take (i := 15) (v := ?_) rfl (by kernel_rfl) (by kernel_rfl) (by kernel_rfl) (fun _ _ _ h => h) (Or.inl ⟨by rfl, ?_⟩) (by assumption) ?_; rotate_left; (focus (intro w hSw; (try dsimp only at hSw); go_simp; (try with_reducible rfl))); (try simp only [List.getElem_toArray, List.getElem_cons_zero, List.getElem_cons_succ, Act.put, List.setIfInBounds_toArray, List.set_cons_zero, List.set_cons_succ])); (refine wpAnyH_take (i := 16) (v := ?_) rfl (by kernel_rfl) (by kernel_rfl) (by kernel_rfl) (fun _ _ _ h => h) (Or.inl ⟨by rfl, ?_⟩) (by assumption) ?_; rotate_left; (focus (intro w hSw; (try dsimp only at hSw); go_simp; (try with_reducible rfl))); (try simp only [List.getElem_toArray, List.getElem_cons_zero, List.getElem_cons_succ, Act.put, List.setIfInBounds_toArray, List.set_cons_zero, List.set_cons_succ])); (refine wpAnyH_take (i := 17) (v := ?_) rfl (by kernel_rfl) (by kernel_rfl) (by kernel_rfl) (fun _ _ _ h => h) (Or.inl ⟨by rfl, ?_⟩) (by assumption) ?_; rotate_left; (focus (intro w hSw; (try dsimp only at hSw); go_simp; (try with_reducible rfl))); (try simp only [List.getElem_toArray, List.getElem_cons_zero, List.getElem_cons_succ, Act.put, List.setIfInBounds_toArray, List.set_cons_zero, List.set_cons_succ])); (refine wpAnyH_take (i := 18) (v := ?_) rfl (by kernel_rfl) (by kernel_rfl) (by kernel_rfl) (fun _ _ _ h => h) (Or.inl ⟨by rfl, ?_⟩) (by assumption) ?_; rotate_left; (focus (intro w hSw; (try dsimp only at hSw); go_simp; (try with_reducible rfl))); (try simp only [List.getElem_toArray, List.getElem_cons_zero, List.getElem_cons_succ, Act.put, List.setIfInBounds_toArray, List.set_cons_zero, List.set_cons_succ])); (refine wpAnyH_take (i := 19) (v := ?_) rfl (by kernel_rfl) (by kernel_rfl) (by kernel_rfl) (fun _ _ _ h => h) (Or.inl ⟨by rfl, ?_⟩) (by assumption) ?_; rotate_left; (focus (intro w hSw; (try dsimp only at hSw); go_simp; (try with_reducible rfl))); (try simp only [List.getElem_toArray, List.getElem_cons_zero, List.getElem_cons_succ, Act.put, List.setIfInBounds_toArray, List.set_cons_zero, List.set_cons_succ]))
                      (refine wpAnyH_take (i := 20) (v := ?_) rfl (by kernel_rfl) (by kernel_rfl) (by kernel_rfl) (fun _ _ _ h => h) (Or.inl ⟨by rfl, ?_⟩) (by assumption) ?_; rotate_left; (focus (intro w hSw; (try dsimp only at hSw); go_simp; (try with_reducible rfl))); (try simp only [List.getElem_toArray, List.getElem_cons_zero, List.getElem_cons_succ, Act.put, List.setIfInBounds_toArray, List.set_cons_zero, List.set_cons_succ])); (refine wpAnyH_take (i := 21) (v := ?_) rfl (by kernel_rfl) (by kernel_rfl) (by kernel_rfl) (fun _ _ _ h => h) (Or.inl ⟨by rfl, ?_⟩) (by assumption) ?_; rotate_left; (focus (intro w hSw; (try dsimp only at hSw); go_simp; (try with_reducible rfl))); (try simp only [List.getElem_toArray, List.getElem_cons_zero, List.getElem_cons_succ, Act.put, List.setIfInBounds_toArray, List.set_cons_zero, List.set_cons_succ])); (refine wpAnyH_take (i := 22) (v := ?_) rfl (by kernel_rfl) (by kernel_rfl) (by kernel_rfl) (fun _ _ _ h => h) (Or.inl ⟨by rfl, ?_⟩) (by assumption) ?_; rotate_left; (focus (intro w hSw; (try dsimp only at hSw); go_simp; (try with_reducible rfl))); (try simp only [List.getElem_toArray, List.getElem_cons_zero, List.getElem_cons_succ, Act.put, List.setIfInBounds_toArray, List.set_cons_zero, List.set_cons_succ]))
                      refine wpAnyH_done (by kernel_rfl) ?_ _; clear hHeld
                      go_wp2
                      go_roundw
                      case rel => exact ⟨k + 1, by omega, by go_num, HBr.out.drew⟩
                      case measure => simp [intOf]; omega
                    · have htb : ((tk : Int) == 1) = false := by simp; omega
                      have HI1 : Hid ((anyB ll fun i => decide (L.getD i 0 = (k : Int))) = false) := by rw [decide_eq_false htt, Bool.and_false] at HIN; exact HIN.out
                      clear hc1 htt ht HIN
                      go_wp2
                      refine wp_region_held_drew (S := fun w' => w'.cell? ⟨gp, k, none⟩ = some (.int .i64 tk) ∧ w'.cell? ⟨g1, k, none⟩ = some (.int .i64 ck)) (by kernel_rfl) ⟨ct, cc⟩ (fun hHeld => ?_)
                      (refine wpAnyH_take (i := 0) (v := ?_) rfl (by kernel_rfl) (by kernel_rfl) (by kernel_rfl) (fun _ _ _ h => h) (Or.inl ⟨by rfl, ?_⟩) (by assumption) ?_; rotate_left; (focus (intro w hSw; (try dsimp only at hSw); go_simp; (try with_reducible rfl))); (try simp only [List.getElem_toArray, List.getElem_cons_zero, List.getElem_cons_succ, Act.put, List.setIfInBounds_toArray, List.set_cons_zero, List.set_cons_succ])); (refine wpAnyH_take (i := 1) (v := ?_) rfl (by kernel_rfl) (by kernel_rfl) (by kernel_rfl) (fun _ _ _ h => h) (Or.inl ⟨by rfl, ?_⟩) (by assumption) ?_; rotate_left; (focus (intro w hSw; (try dsimp only at hSw); go_simp; (try with_reducible rfl))); (try simp only [List.getElem_toArray, List.getElem_cons_zero, List.getElem_cons_succ, Act.put, List.setIfInBounds_toArray, List.set_cons_zero, List.set_cons_succ])); (refine wpAnyH_take (i := 2) (v := ?_) rfl (by kernel_rfl) (by kernel_rfl) (by kernel_rfl) (fun _ _ _ h => h) (Or.inl ⟨by rfl, ?_⟩) (by assumption) ?_; rotate_left; (focus (intro w hSw; (try dsimp only at hSw); go_simp; (try with_reducible rfl))); (try simp only [List.getElem_toArray, List.getElem_cons_zero, List.getElem_cons_succ, Act.put, List.setIfInBounds_toArray, List.set_cons_zero, List.set_cons_succ])); (refine wpAnyH_take (i := 3) (v := ?_) rfl (by kernel_rfl) (by kernel_rfl) (by kernel_rfl) (fun _ _ _ h => h) (Or.inl ⟨by rfl, ?_⟩) (by assumption) ?_; rotate_left; (focus (intro w hSw; (try dsimp only at hSw); go_simp; (try with_reducible rfl))); (try simp only [List.getElem_toArray, List.getElem_cons_zero, List.getElem_cons_succ, Act.put, List.setIfInBounds_toArray, List.set_cons_zero, List.set_cons_succ])); (refine wpAnyH_take (i := 4) (v := ?_) rfl (by kernel_rfl) (by kernel_rfl) (by kernel_rfl) (fun _ _ _ h => h) (Or.inl ⟨by rfl, ?_⟩) (by assumption) ?_; rotate_left; (focus (intro w hSw; (try dsimp only at hSw); go_simp; (try with_reducible rfl))); (try simp only [List.getElem_toArray, List.getElem_cons_zero, List.getElem_cons_succ, Act.put, List.setIfInBounds_toArray, List.set_cons_zero, List.set_cons_succ])); (refine wpAnyH_take (i := 5) (v := ?_) rfl (by kernel_rfl) (by kernel_rfl) (by kernel_rfl) (fun _ _ _ h => h) (Or.inl ⟨by rfl, ?_⟩) (by assumption) ?_; rotate_left; (focus (intro w hSw; (try dsimp only at hSw); go_simp; (try with_reducible rfl))); (try simp only [List.getElem_toArray, List.getElem_cons_zero, List.getElem_cons_succ, Act.put, List.setIfInBounds_toArray, List.set_cons_zero, List.set_cons_succ])); (refine wpAnyH_take (i := 6) (v := ?_) rfl (by kernel_rfl) (by kernel_rfl) (by kernel_rfl) (fun _ _ _ h => h) (Or.inl ⟨by rfl, ?_⟩) (by assumption) ?_; rotate_left; (focus (intro w hSw; (try dsimp only at hSw); go_simp; (try with_reducible rfl))); (try simp only [List.getElem_toArray, List.getElem_cons_zero, List.getElem_cons_succ, Act.put, List.setIfInBounds_toArray, List.set_cons_zero, List.set_cons_succ])); (refine wpAnyH_take (i := 7) (v := ?_) rfl (by kernel_rfl) (by kernel_rfl) (by kernel_rfl) (fun _ _ _ h => h) (Or.inl ⟨by rfl, ?_⟩) (by assumption) ?_; rotate_left; (focus (intro w hSw; (try dsimp only at hSw); go_simp; (try with_reducible rfl))); (try simp only [List.getElem_toArray, List.getElem_cons_zero, List.getElem_cons_succ, Act.put, List.setIfInBounds_toArray, List.set_cons_zero, List.set_cons_succ]))
                      (refine wpAnyH_take (i := 9) (v := ?_) rfl (by kernel_rfl) (by kernel_rfl) (by kernel_rfl) (fun _ _ _ h => h) (Or.inl ⟨by rfl, ?_⟩) (by assumption) ?_; rotate_left; (focus (intro w hSw; (try dsimp only at hSw); go_simp; (try with_reducible rfl))); (try simp only [List.getElem_toArray, List.getElem_cons_zero, List.getElem_cons_succ, Act.put, List.setIfInBounds_toArray, List.set_cons_zero, List.set_cons_succ])); (refine wpAnyH_take (i := 10) (v := ?_) rfl (by kernel_rfl) (by kernel_rfl) (by kernel_rfl) (fun _ _ _ h => h) (Or.inl ⟨by rfl, ?_⟩) (by assumption) ?_; rotate_left; (focus (intro w hSw; (try dsimp only at hSw); go_simp; (try with_reducible rfl))); (try simp only [List.getElem_toArray, List.getElem_cons_zero, List.getElem_cons_succ, Act.put, List.setIfInBounds_toArray, List.set_cons_zero, List.set_cons_succ])); (refine wpAnyH_take (i := 11) (v := ?_) rfl (by kernel_rfl) (by kernel_rfl) (by kernel_rfl) (fun _ _ _ h => h) (Or.inl ⟨by rfl, ?_⟩) (by assumption) ?_; rotate_left; (focus (intro w hSw; (try dsimp only at hSw); go_simp; (try with_reducible rfl))); (try simp only [List.getElem_toArray, List.getElem_cons_zero, List.getElem_cons_succ, Act.put, List.setIfInBounds_toArray, List.set_cons_zero, List.set_cons_succ])); (refine wpAnyH_take (i := 12) (v := ?_) rfl (by kernel_rfl) (by kernel_rfl) (by kernel_rfl) (fun _ _ _ h => h) (Or.inl ⟨by rfl, ?_⟩) (by assumption) ?_; rotate_left; (focus (intro w hSw; (try dsimp only at hSw); go_simp; (try with_reducible rfl))); (try simp only [List.getElem_toArray, List.getElem_cons_zero, List.getElem_cons_succ, Act.put, List.setIfInBounds_toArray, List.set_cons_zero, List.set_cons_succ])); (refine wpAnyH_take (i := 13) (v := ?_) rfl (by kernel_rfl) (by kernel_rfl) (by kernel_rfl) (fun _ _ _ h => h) (Or.inl ⟨by rfl, ?_⟩) (by assumption) ?_; rotate_left; (focus (intro w hSw; (try dsimp only at hSw); go_simp; (try with_reducible rfl))); (try simp only [List.getElem_toArray, List.getElem_cons_zero, List.getElem_cons_succ, Act.put, List.setIfInBounds_toArray, List.set_cons_zero, List.set_cons_succ]))
                      refine wpAnyH_ready (rs := [8]) (by kernel_rfl) (by simp) ?_; refine AllReadyH.cons rfl (fun K hK => ?_) AllReadyH.nil; go_simp
                      go_at_call 29
                      refine (in_any _ _ ll _ _ _ HIr.out).mono ?_
                      rintro e w' ⟨rfl, hw'⟩
                      rw [hw', HI1.out]
                      clear hw'
                      refine hK.out _ _ ⟨ct, cc⟩ (fun hHeld => ?_)
                      clear hK K
                      (try simp only [List.getElem_toArray, List.getElem_cons_zero, List.getElem_cons_succ, Act.put, List.setIfInBounds_toArray, List.set_cons_zero, List.set_cons_succ])
                      (refine wpAnyH_take (i := 14) (v := ?_) rfl (by kernel_rfl) (by kernel_rfl) (by kernel_rfl) (fun _ _ _ h => h) (Or.inl ⟨by rfl, ?_⟩) (by assumption) ?_; rotate_left; (focus (intro w hSw; (try dsimp only at hSw); go_simp; (try with_reducible rfl))); (try simp only [List.getElem_toArray, List.getElem_cons_zero, List.getElem_cons_succ, Act.put, List.setIfInBounds_toArray, List.set_cons_zero, List.set_cons_succ]))
                      (refine wpAnyH_take (i := 15) (v := ?_) rfl (by kernel_rfl) (by kernel_rfl) (by kernel_rfl) (fun _ _ _ h => h) (Or.inl ⟨by rfl, ?_⟩) (by assumption) ?_; rotate_left; (focus (intro w hSw; (try dsimp only at hSw); go_simp; (try with_reducible rfl))); (try simp only [List.getElem_toArray, List.getElem_cons_zero, List.getElem_cons_succ, Act.put, List.setIfInBounds_toArray, List.set_cons_zero, List.set_cons_succ])); (refine wpAnyH_take (i := 16) (v := ?_) rfl (by kernel_rfl) (by kernel_rfl) (by kernel_rfl) (fun _ _ _ h => h) (Or.inl ⟨by rfl, ?_⟩) (by assumption) ?_; rotate_left; (focus (intro w hSw; (try dsimp only at hSw); go_simp; (try with_reducible rfl))); (try simp only [List.getElem_toArray, List.getElem_cons_zero, List.getElem_cons_succ, Act.put, List.setIfInBounds_toArray, List.set_cons_zero, List.set_cons_succ])); (refine wpAnyH_take (i := 17) (v := ?_) rfl (by kernel_rfl) (by kernel_rfl) (by kernel_rfl) (fun _ _ _ h => h) (Or.inl ⟨by rfl, ?_⟩) (by assumption) ?_; rotate_left; (focus (intro w hSw; (try dsimp only at hSw); go_simp; (try with_reducible rfl))); (try simp only [List.getElem_toArray, List.getElem_cons_zero, List.getElem_cons_succ, Act.put, List.setIfInBounds_toArray, List.set_cons_zero, List.set_cons_succ])); (refine wpAnyH_take (i := 18) (v := ?_) rfl (by kernel_rfl) (by kernel_rfl) (by kernel_rfl) (fun _ _ _ h => h) (Or.inl ⟨by rfl, ?_⟩) (by assumption) ?_; rotate_left; (focus (intro w hSw; (try dsimp only at hSw); go_simp; (try with_reducible rfl))); (try simp only [List.getElem_toArray, List.getElem_cons_zero, List.getElem_cons_succ, Act.put, List.setIfInBounds_toArray, List.set_cons_zero, List.set_cons_succ])); (refine wpAnyH_take (i := 19) (v := ?_) rfl (by kernel_rfl) (by kernel_rfl) (by kernel_rfl) (fun _ _ _ h => h) (Or.inl ⟨by rfl, ?_⟩) (by assumption) ?_; rotate_left; (focus (intro w hSw; (try dsimp only at hSw); go_simp; (try with_reducible rfl))); (try simp only [List.getElem_toArray, List.getElem_cons_zero, List.getElem_cons_succ, Act.put, List.setIfInBounds_toArray, List.set_cons_zero, List.set_cons_succ]))
                      (refine wpAnyH_take (i := 20) (v := ?_) rfl (by kernel_rfl) (by kernel_rfl) (by kernel_rfl) (fun _ _ _ h => h) (Or.inl ⟨by rfl, ?_⟩) (by assumption) ?_; rotate_left; (focus (intro w hSw; (try dsimp only at hSw); go_simp; (try with_reducible rfl))); (try simp only [List.getElem_toArray, List.getElem_cons_zero, List.getElem_cons_succ, Act.put, List.setIfInBounds_toArray, List.set_cons_zero, List.set_cons_succ])); (refine wpAnyH_take (i := 21) (v := ?_) rfl (by kernel_rfl) (by kernel_rfl) (by kernel_rfl) (fun _ _ _ h => h) (Or.inl ⟨by rfl, ?_⟩) (by assumption) ?_; rotate_left; (focus (intro w hSw; (try dsimp only at hSw); go_simp; (try with_reducible rfl))); (try simp only [List.getElem_toArray, List.getElem_cons_zero, List.getElem_cons_succ, Act.put, List.setIfInBounds_toArray, List.set_cons_zero, List.set_cons_succ])); (refine wpAnyH_take (i := 22) (v := ?_) rfl (by kernel_rfl) (by kernel_rfl) (by kernel_rfl) (fun _ _ _ h => h) (Or.inl ⟨by rfl, ?_⟩) (by assumption) ?_; rotate_left; (focus (intro w hSw; (try dsimp only at hSw); go_simp; (try with_reducible rfl))); (try simp only [List.getElem_toArray, List.getElem_cons_zero, List.getElem_cons_succ, Act.put, List.setIfInBounds_toArray, List.set_cons_zero, List.set_cons_succ]))
                      refine wpAnyH_done (by kernel_rfl) ?_ _; clear hHeld
                      go_wp2
                      go_roundw
                      case rel => exact ⟨k + 1, by omega, by go_num, HBr.out.drew⟩
                      case measure => simp [intOf]; omega
                  · have hcb : ((ck : Int) == 1) = false := by simp; omega
                    have HI1 : Hid ((anyB ll fun i => decide (L.getD i 0 = (k : Int))) = false) := by rw [decide_eq_false hc1, Bool.false_and] at HIN; exact HIN.out
                    clear hc1 ht HIN
                    go_wp2
                    refine wp_region_held_drew (S := fun w' => w'.cell? ⟨gp, k, none⟩ = some (.int .i64 tk) ∧ w'.cell? ⟨g1, k, none⟩ = some (.int .i64 ck)) (by kernel_rfl) ⟨ct, cc⟩ (fun hHeld => ?_)
                    (refine wpAnyH_take (i := 0) (v := ?_) rfl (by kernel_rfl) (by kernel_rfl) (by kernel_rfl) (fun _ _ _ h => h) (Or.inl ⟨by rfl, ?_⟩) (by assumption) ?_; rotate_left; (focus (intro w hSw; (try dsimp only at hSw); go_simp; (try with_reducible rfl))); (try simp only [List.getElem_toArray, List.getElem_cons_zero, List.getElem_cons_succ, Act.put, List.setIfInBounds_toArray, List.set_cons_zero, List.set_cons_succ])); (refine wpAnyH_take (i := 1) (v := ?_) rfl (by kernel_rfl) (by kernel_rfl) (by kernel_rfl) (fun _ _ _ h => h) (Or.inl ⟨by rfl, ?_⟩) (by assumption) ?_; rotate_left; (focus (intro w hSw; (try dsimp only at hSw); go_simp; (try with_reducible rfl))); (try simp only [List.getElem_toArray, List.getElem_cons_zero, List.getElem_cons_succ, Act.put, List.setIfInBounds_toArray, List.set_cons_zero, List.set_cons_succ])); (refine wpAnyH_take (i := 2) (v := ?_) rfl (by kernel_rfl) (by kernel_rfl) (by kernel_rfl) (fun _ _ _ h => h) (Or.inl ⟨by rfl, ?_⟩) (by assumption) ?_; rotate_left; (focus (intro w hSw; (try dsimp only at hSw); go_simp; (try with_reducible rfl))); (try simp only [List.getElem_toArray, List.getElem_cons_zero, List.getElem_cons_succ, Act.put, List.setIfInBounds_toArray, List.set_cons_zero, List.set_cons_succ])); (refine wpAnyH_take (i := 3) (v := ?_) rfl (by kernel_rfl) (by kernel_rfl) (by kernel_rfl) (fun _ _ _ h => h) (Or.inl ⟨by rfl, ?_⟩) (by assumption) ?_; rotate_left; (focus (intro w hSw; (try dsimp only at hSw); go_simp; (try with_reducible rfl))); (try simp only [List.getElem_toArray, List.getElem_cons_zero, List.getElem_cons_succ, Act.put, List.setIfInBounds_toArray, List.set_cons_zero, List.set_cons_succ])); (refine wpAnyH_take (i := 4) (v := ?_) rfl (by kernel_rfl) (by kernel_rfl) (by kernel_rfl) (fun _ _ _ h => h) (Or.inl ⟨by rfl, ?_⟩) (by assumption) ?_; rotate_left; (focus (intro w hSw; (try dsimp only at hSw); go_simp; (try with_reducible rfl))); (try simp only [List.getElem_toArray, List.getElem_cons_zero, List.getElem_cons_succ, Act.put, List.setIfInBounds_toArray, List.set_cons_zero, List.set_cons_succ])); (refine wpAnyH_take (i := 5) (v := ?_) rfl (by kernel_rfl) (by kernel_rfl) (by kernel_rfl) (fun _ _ _ h => h) (Or.inl ⟨by rfl, ?_⟩) (by assumption) ?_; rotate_left; (focus (intro w hSw; (try dsimp only at hSw); go_simp; (try with_reducible rfl))); (try simp only [List.getElem_toArray, List.getElem_cons_zero, List.getElem_cons_succ, Act.put, List.setIfInBounds_toArray, List.set_cons_zero, List.set_cons_succ])); (refine wpAnyH_take (i := 6) (v := ?_) rfl (by kernel_rfl) (by kernel_rfl) (by kernel_rfl) (fun _ _ _ h => h) (Or.inl ⟨by rfl, ?_⟩) (by assumption) ?_; rotate_left; (focus (intro w hSw; (try dsimp only at hSw); go_simp; (try with_reducible rfl))); (try simp only [List.getElem_toArray, List.getElem_cons_zero, List.getElem_cons_succ, Act.put, List.setIfInBounds_toArray, List.set_cons_zero, List.set_cons_succ])); (refine wpAnyH_take (i := 7) (v := ?_) rfl (by kernel_rfl) (by kernel_rfl) (by kernel_rfl) (fun _ _ _ h => h) (Or.inl ⟨by rfl, ?_⟩) (by assumption) ?_; rotate_left; (focus (intro w hSw; (try dsimp only at hSw); go_simp; (try with_reducible rfl))); (try simp only [List.getElem_toArray, List.getElem_cons_zero, List.getElem_cons_succ, Act.put, List.setIfInBounds_toArray, List.set_cons_zero, List.set_cons_succ]))
                    (refine wpAnyH_take (i := 9) (v := ?_) rfl (by kernel_rfl) (by kernel_rfl) (by kernel_rfl) (fun _ _ _ h => h) (Or.inl ⟨by rfl, ?_⟩) (by assumption) ?_; rotate_left; (focus (intro w hSw; (try dsimp only at hSw); go_simp; (try with_reducible rfl))); (try simp only [List.getElem_toArray, List.getElem_cons_zero, List.getElem_cons_succ, Act.put, List.setIfInBounds_toArray, List.set_cons_zero, List.set_cons_succ])); (refine wpAnyH_take (i := 10) (v := ?_) rfl (by kernel_rfl) (by kernel_rfl) (by kernel_rfl) (fun _ _ _ h => h) (Or.inl ⟨by rfl, ?_⟩) (by assumption) ?_; rotate_left; (focus (intro w hSw; (try dsimp only at hSw); go_simp; (try with_reducible rfl))); (try simp only [List.getElem_toArray, List.getElem_cons_zero, List.getElem_cons_succ, Act.put, List.setIfInBounds_toArray, List.set_cons_zero, List.set_cons_succ])); (refine wpAnyH_take (i := 11) (v := ?_) rfl (by kernel_rfl) (by kernel_rfl) (by kernel_rfl) (fun _ _ _ h => h) (Or.inl ⟨by rfl, ?_⟩) (by assumption) ?_; rotate_left; (focus (intro w hSw; (try dsimp only at hSw); go_simp; (try with_reducible rfl))); (try simp only [List.getElem_toArray, List.getElem_cons_zero, List.getElem_cons_succ, Act.put, List.setIfInBounds_toArray, List.set_cons_zero, List.set_cons_succ])); (refine wpAnyH_take (i := 12) (v := ?_) rfl (by kernel_rfl) (by kernel_rfl) (by kernel_rfl) (fun _ _ _ h => h) (Or.inl ⟨by rfl, ?_⟩) (by assumption) ?_; rotate_left; (focus (intro w hSw; (try dsimp only at hSw); go_simp; (try with_reducible rfl))); (try simp only [List.getElem_toArray, List.getElem_cons_zero, List.getElem_cons_succ, Act.put, List.setIfInBounds_toArray, List.set_cons_zero, List.set_cons_succ])); (refine wpAnyH_take (i := 13) (v := ?_) rfl (by kernel_rfl) (by kernel_rfl) (by kernel_rfl) (fun _ _ _ h => h) (Or.inl ⟨by rfl, ?_⟩) (by assumption) ?_; rotate_left; (focus (intro w hSw; (try dsimp only at hSw); go_simp; (try with_reducible rfl))); (try simp only [List.getElem_toArray, List.getElem_cons_zero, List.getElem_cons_succ, Act.put, List.setIfInBounds_toArray, List.set_cons_zero, List.set_cons_succ]))
                    refine wpAnyH_ready (rs := [8]) (by kernel_rfl) (by simp) ?_; refine AllReadyH.cons rfl (fun K hK => ?_) AllReadyH.nil; go_simp
                    go_at_call 29
                    refine (in_any _ _ ll _ _ _ HIr.out).mono ?_
                    rintro e w' ⟨rfl, hw'⟩
                    rw [hw', HI1.out]
                    clear hw'
                    refine hK.out _ _ ⟨ct, cc⟩ (fun hHeld => ?_)
                    clear hK K
                    (try simp only [List.getElem_toArray, List.getElem_cons_zero, List.getElem_cons_succ, Act.put, List.setIfInBounds_toArray, List.set_cons_zero, List.set_cons_succ])
                    (refine wpAnyH_take (i := 14) (v := ?_) rfl (by kernel_rfl) (by kernel_rfl) (by kernel_rfl) (fun _ _ _ h => h) (Or.inl ⟨by rfl, ?_⟩) (by assumption) ?_; rotate_left; (focus (intro w hSw; (try dsimp only at hSw); go_simp; (try with_reducible rfl))); (try simp only [List.getElem_toArray, List.getElem_cons_zero, List.getElem_cons_succ, Act.put, List.setIfInBounds_toArray, List.set_cons_zero, List.set_cons_succ]))
                    (refine wpAnyH_take (i := 15) (v := undef) rfl (by kernel_rfl) (by kernel_rfl) (by kernel_rfl) (fun _ _ _ h => h) (Or.inr ⟨by rfl, rfl⟩) (by assumption) ?_; (try simp only [List.getElem_toArray, List.getElem_cons_zero, List.getElem_cons_succ, Act.put, List.setIfInBounds_toArray, List.set_cons_zero, List.set_cons_succ])); (refine wpAnyH_take (i := 16) (v := undef) rfl (by kernel_rfl) (by kernel_rfl) (by kernel_rfl) (fun _ _ _ h => h) (Or.inr ⟨by rfl, rfl⟩) (by assumption) ?_; (try simp only [List.getElem_toArray, List.getElem_cons_zero, List.getElem_cons_succ, Act.put, List.setIfInBounds_toArray, List.set_cons_zero, List.set_cons_succ])); (refine wpAnyH_take (i := 17) (v := undef) rfl (by kernel_rfl) (by kernel_rfl) (by kernel_rfl) (fun _ _ _ h => h) (Or.inr ⟨by rfl, rfl⟩) (by assumption) ?_; (try simp only [List.getElem_toArray, List.getElem_cons_zero, List.getElem_cons_succ, Act.put, List.setIfInBounds_toArray, List.set_cons_zero, List.set_cons_succ])); (refine wpAnyH_take (i := 18) (v := undef) rfl (by kernel_rfl) (by kernel_rfl) (by kernel_rfl) (fun _ _ _ h => h) (Or.inr ⟨by rfl, rfl⟩) (by assumption) ?_; (try simp only [List.getElem_toArray, List.getElem_cons_zero, List.getElem_cons_succ, Act.put, List.setIfInBounds_toArray, List.set_cons_zero, List.set_cons_succ])); (refine wpAnyH_take (i := 19) (v := undef) rfl (by kernel_rfl) (by kernel_rfl) (by kernel_rfl) (fun _ _ _ h => h) (Or.inr ⟨by rfl, rfl⟩) (by assumption) ?_; (try simp only [List.getElem_toArray, List.getElem_cons_zero, List.getElem_cons_succ, Act.put, List.setIfInBounds_toArray, List.set_cons_zero, List.set_cons_succ]))
                    (refine wpAnyH_take (i := 20) (v := ?_) rfl (by kernel_rfl) (by kernel_rfl) (by kernel_rfl) (fun _ _ _ h => h) (Or.inl ⟨by rfl, ?_⟩) (by assumption) ?_; rotate_left; (focus (intro w hSw; (try dsimp only at hSw); go_simp; (try with_reducible rfl))); (try simp only [List.getElem_toArray, List.getElem_cons_zero, List.getElem_cons_succ, Act.put, List.setIfInBounds_toArray, List.set_cons_zero, List.set_cons_succ])); (refine wpAnyH_take (i := 21) (v := ?_) rfl (by kernel_rfl) (by kernel_rfl) (by kernel_rfl) (fun _ _ _ h => h) (Or.inl ⟨by rfl, ?_⟩) (by assumption) ?_; rotate_left; (focus (intro w hSw; (try dsimp only at hSw); go_simp; (try with_reducible rfl))); (try simp only [List.getElem_toArray, List.getElem_cons_zero, List.getElem_cons_succ, Act.put, List.setIfInBounds_toArray, List.set_cons_zero, List.set_cons_succ])); (refine wpAnyH_take (i := 22) (v := ?_) rfl (by kernel_rfl) (by kernel_rfl) (by kernel_rfl) (fun _ _ _ h => h) (Or.inl ⟨by rfl, ?_⟩) (by assumption) ?_; rotate_left; (focus (intro w hSw; (try dsimp only at hSw); go_simp; (try with_reducible rfl))); (try simp only [List.getElem_toArray, List.getElem_cons_zero, List.getElem_cons_succ, Act.put, List.setIfInBounds_toArray, List.set_cons_zero, List.set_cons_succ]))
                    refine wpAnyH_done (by kernel_rfl) ?_ _; clear hHeld
                    go_wp2
                    go_roundw
                    case rel => exact ⟨k + 1, by omega, by go_num, HBr.out.drew⟩
                    case measure => simp [intOf]; omega
                · have hkk : k = B.ns := by omega
                  subst hkk
                  have HB6 : Hid (Below ws.heap.size ws wr) := bel HB5.out HBr.out
                  obtain ⟨w6, hw6⟩ : ∃ w6, w6 = wr := ⟨_, rfl⟩
                  subst hw6
                  have r0 := (HB6.out.cell (p := ⟨w.heap.size, 0, none⟩) hsz).trans q0
                  have r1 := (HB6.out.cell (p := ⟨w.heap.size, 1, none⟩) hsz).trans q1
                  have r2 := (HB6.out.cell (p := ⟨w.heap.size, 2, none⟩) hsz).trans q2
                  have hsz6 := Nat.lt_of_lt_of_le hsz HB6.out.size
                  clear HBr HP HCr HI5 HI4
                  have HZ6 : Hid (Below w6.heap.size w6 w6) := Below.refl _ _
                  go_upto_region 21 with (first
                    | (go_at_call 30; refine (kSave_any N _ B _ (HBK.out.go HB6.out)).mono ?_; rw [HSV.out]; rintro e w7 ⟨⟨v7, rfl, hu7⟩, hb7⟩; replace hu7 : GU w6.heap.size w7 v7 b := hu7; obtain ⟨a7, c7', hv7⟩ := hu7.form; rw [HMB.out] at hv7; subst hv7; have hi7 := hu7.ints (by have := HMB.out; omega); rw [HMB.out, HYE.out] at hi7; have HI7 := Lib.hid hi7; have s0 := (hb7.cell (p := ⟨w.heap.size, 0, none⟩) hsz6).trans r0; have s1 := (hb7.cell (p := ⟨w.heap.size, 1, none⟩) hsz6).trans r1; have s2 := (hb7.cell (p := ⟨w.heap.size, 2, none⟩) hsz6).trans r2; have hsz7 := Nat.lt_of_lt_of_le hsz6 hb7.size; have HB7 : Hid (Below ws.heap.size ws w7) := bel HB6.out hb7; clear hu7 hi7 hb7 r0 r1 r2)
                    | (go_at_call 13; refine (fits_any N w7.heap.size _ _ B m y _ (HBK.out.go HB7.out) HG.out HI7.out (Nat.le_refl _)).mono ?_; rintro e w8 ⟨rfl, hb8⟩; rw [HFS.out]; have HI8 := Lib.hid (HI7.out.mono hb8 (Nat.le_refl _)); have HB8 : Hid (Below ws.heap.size ws w8) := bel HB7.out hb8; have h78 := hb8.size; clear hb8))
                  clear s0 s1 s2
                  have S8d := old_of HB8.out.drew; have HB8d := S8d.2
                  refine wp_region_held_drew (S := (fun w' => (∀ b o, b < ws.heap.size → w'.cell? ⟨b, o, none⟩ = ws.cell? ⟨b, o, none⟩) ∧ Hid (Below ws.heap.size ws w'))) (by kernel_rfl) S8d (fun hHeld => ?_)
                  (refine wpAnyH_take (i := 0) (v := ?_) rfl (by kernel_rfl) (by kernel_rfl) (by kernel_rfl) (fun _ _ _ h => h) (Or.inl ⟨by rfl, ?_⟩) (by assumption) ?_; rotate_left; (focus (intro w hSw; (try dsimp only at hSw); go_simp; (try with_reducible rfl))); (try simp only [List.getElem_toArray, List.getElem_cons_zero, List.getElem_cons_succ, Act.put, List.setIfInBounds_toArray, List.set_cons_zero, List.set_cons_succ]))
                  (refine wpAnyH_take (i := 2) (v := ?_) rfl (by kernel_rfl) (by kernel_rfl) (by kernel_rfl) (fun _ _ _ h => h) (Or.inl ⟨by rfl, ?_⟩) (by assumption) ?_; rotate_left; (focus (intro w hSw; (try dsimp only at hSw); go_simp; (try with_reducible rfl))); (try simp only [List.getElem_toArray, List.getElem_cons_zero, List.getElem_cons_succ, Act.put, List.setIfInBounds_toArray, List.set_cons_zero, List.set_cons_succ]))
                  (refine wpAnyH_take (i := 4) (v := ?_) rfl (by kernel_rfl) (by kernel_rfl) (by kernel_rfl) (fun _ _ _ h => h) (Or.inl ⟨by rfl, ?_⟩) (by assumption) ?_; rotate_left; (focus (intro w hSw; (try dsimp only at hSw); go_simp; (try with_reducible rfl))); (try simp only [List.getElem_toArray, List.getElem_cons_zero, List.getElem_cons_succ, Act.put, List.setIfInBounds_toArray, List.set_cons_zero, List.set_cons_succ]))
                  refine wpAnyH_ready (rs := [1]) (by kernel_rfl) (by simp) ?_; refine AllReadyH.cons rfl (fun K hK => ?_) AllReadyH.nil; go_simp
                  obtain ⟨wb, hwb, HBz', hblkb⟩ : ∃ wa, (w8.alloc (.cells #[] 3)).drew = wa ∧ Below w8.heap.size w8 wa ∧ wa.heap[w8.heap.size]? = some (.cells #[] 3) := ⟨_, rfl, (below_alloc (Nat.le_refl _) _).drew, World.alloc_heap_new _ _⟩
                  rw [hwb]
                  have HBz : Hid (Below w8.heap.size w8 wb) := HBz'
                  clear HBz'
                  have Sb := old_of (bel HB8.out HBz.out)
                  have HBzb := Sb.2
                  refine hK.out _ _ Sb (fun hHeld => ?_); clear hK K; (try simp only [List.getElem_toArray, List.getElem_cons_zero, List.getElem_cons_succ, Act.put, List.setIfInBounds_toArray, List.set_cons_zero, List.set_cons_succ])
                  refine wpAnyH_ready (rs := [3]) (by kernel_rfl) (by simp) ?_; refine AllReadyH.cons rfl (fun K hK => ?_) AllReadyH.nil; rw [if_pos (by rfl)]
                  refine wp_appendInts _ (.tmp 132) (.tmp 133) rfl w8.heap.size _ [] rfl (own_empty (Nat.le_refl _) hblkb) w7.heap.size _ _ _ y rfl (HI8.out.mono (Below.mono HBz.out h78) (Nat.le_refl _)) (by simp; omega) HBz.out.size ?_
                  intro v9 w9 ho9 hb9
                  have hi9 := own_list ho9 (List.nil_append _) (by omega)
                  obtain ⟨a9, z9, rfl⟩ : ∃ a c, v9 = .slice a m c := (by obtain ⟨ao, cp, e, _⟩ := hi9; exact ⟨ao, cp, e⟩)
                  have HI9 := Lib.hid hi9
                  have HB89 : Hid (Below w8.heap.size w8 w9) := HBz.out.trans hb9
                  have S9 : Old ws.heap.size ws w9 := old_of (bel HB8.out HB89.out)
                  have HB9 := S9.2
                  clear ho9 hi9 hb9 hblkb
                  refine hK.out _ _ S9 (fun hHeld => ?_); clear hK K; (try simp only [List.getElem_toArray, List.getElem_cons_zero, List.getElem_cons_succ, Act.put, List.setIfInBounds_toArray, List.set_cons_zero, List.set_cons_succ])
                  refine wpAnyH_ready (rs := [5]) (by kernel_rfl) (by simp) ?_; refine AllReadyH.cons rfl (fun K hK => ?_) AllReadyH.nil; go_simp
                  go_at_call 28
                  refine (kLost_any N w9.heap.size _ _ B m y q _ (HBK.out.go HB9.out) HI9.out (Nat.le_refl _)).mono ?_
                  rw [HEL2.out]
                  rintro e wA ⟨vA, rfl, hoA, hbA⟩
                  replace hoA : OwnI w9.heap.size wA vA L2 := hoA
                  have hiA := hoA.ints (by rw [HLL2.out]; omega)
                  rw [HLL2.out] at hiA
                  obtain ⟨aA, zA, rfl⟩ : ∃ a c, vA = .slice a l2 c := (by obtain ⟨ao, cp, e, _⟩ := hiA; exact ⟨ao, cp, e⟩)
                  have HIA := Lib.hid hiA
                  have HI8A := Lib.hid (HI8.out.mono (Below.mono (bel HB89.out hbA) h78) (Nat.le_refl _))
                  have SA := old_of (bel HB9.out hbA)
                  have HBA := SA.2
                  have h7A : w7.heap.size ≤ wA.heap.size := Nat.le_trans h78 (bel HB89.out hbA).size
                  clear hbA hoA hiA
                  refine hK.out _ _ SA (fun hHeld => ?_); clear hK K; (try simp only [List.getElem_toArray, List.getElem_cons_zero, List.getElem_cons_succ, Act.put, List.setIfInBounds_toArray, List.set_cons_zero, List.set_cons_succ])
                  (refine wpAnyH_take (i := 6) (v := ?_) rfl (by kernel_rfl) (by kernel_rfl) (by kernel_rfl) (fun _ _ _ h => h) (Or.inl ⟨by rfl, ?_⟩) (by assumption) ?_; rotate_left; (focus (intro w hSw; (try dsimp only at hSw); go_simp; (try with_reducible rfl))); (try simp only [List.getElem_toArray, List.getElem_cons_zero, List.getElem_cons_succ, Act.put, List.setIfInBounds_toArray, List.set_cons_zero, List.set_cons_succ])); (refine wpAnyH_take (i := 7) (v := ?_) rfl (by kernel_rfl) (by kernel_rfl) (by kernel_rfl) (fun _ _ _ h => h) (Or.inl ⟨by rfl, ?_⟩) (by assumption) ?_; rotate_left; (focus (intro w hSw; (try dsimp only at hSw); go_simp; (try with_reducible rfl))); (try simp only [List.getElem_toArray, List.getElem_cons_zero, List.getElem_cons_succ, Act.put, List.setIfInBounds_toArray, List.set_cons_zero, List.set_cons_succ])); (refine wpAnyH_take (i := 8) (v := ?_) rfl (by kernel_rfl) (by kernel_rfl) (by kernel_rfl) (fun _ _ _ h => h) (Or.inl ⟨by rfl, ?_⟩) (by assumption) ?_; rotate_left; (focus (intro w hSw; (try dsimp only at hSw); go_simp; (try with_reducible rfl))); (try simp only [List.getElem_toArray, List.getElem_cons_zero, List.getElem_cons_succ, Act.put, List.setIfInBounds_toArray, List.set_cons_zero, List.set_cons_succ])); (refine wpAnyH_take (i := 9) (v := ?_) rfl (by kernel_rfl) (by kernel_rfl) (by kernel_rfl) (fun _ _ _ h => h) (Or.inl ⟨by rfl, ?_⟩) (by assumption) ?_; rotate_left; (focus (intro w hSw; (try dsimp only at hSw); go_simp; (try with_reducible rfl))); (try simp only [List.getElem_toArray, List.getElem_cons_zero, List.getElem_cons_succ, Act.put, List.setIfInBounds_toArray, List.set_cons_zero, List.set_cons_succ])); (refine wpAnyH_take (i := 10) (v := ?_) rfl (by kernel_rfl) (by kernel_rfl) (by kernel_rfl) (fun _ _ _ h => h) (Or.inl ⟨by rfl, ?_⟩) (by assumption) ?_; rotate_left; (focus (intro w hSw; (try dsimp only at hSw); go_simp; (try with_reducible rfl))); (try simp only [List.getElem_toArray, List.getElem_cons_zero, List.getElem_cons_succ, Act.put, List.setIfInBounds_toArray, List.set_cons_zero, List.set_cons_succ]))
                  refine wpAnyH_done (by kernel_rfl) ?_ _; clear hHeld
                  have cA := SA.1
                  clear SA S9 Sb S8d
                  go_wp2_with (go_at_call 19; go_must (refine (counts_any N w7.heap.size _ _ B 4 m y _ (HBK.out.go HBA.out) HG.out HI8A.out h7A HYY.out (by omega)).mono ?_; rw [HBN.out]; rintro e wB ⟨⟨gS, rfl, _, hnB⟩, hbB⟩; have HNB := Lib.hid hnB; clear hnB; have HIB := Lib.hid (HIA.out.mono hbB (Nat.le_refl _)); have hAB := hbB.size; (try clear cA); have HBB := Lib.hid (bel HBA.out hbB); have cB := (old_of HBB.out).1; clear hbB))
                  clear cB
                  have hgB := HNB.out.lt
                  go_loopw [16] (fun i wr => ∃ k : Nat, k ≤ l2 ∧ i = .int .i64 k ∧ Hid (Below wB.heap.size wB wr)) (fun i _ => l2 - (intOf i).toNat)
                  case atStart => exact ⟨0, Nat.zero_le _, rfl, Below.refl _ _⟩
                  case round =>
                    obtain ⟨k, hk, rfl, HBr⟩ := hrel
                    have HBW : Hid (Below ws.heap.size ws wr) := bel HBB.out HBr.out
                    by_cases hkn : k < l2
                    · have hki : (k : Int) < (l2 : Int) := by omega
                      obtain ⟨s, hs1, hsn, hcs⟩ := HL1.out k hkn
                      have hsi : (s : Int) < (B.ns : Int) := by omega
                      obtain ⟨b5, o5, e5, hb5, hr5⟩ := HIB.out.cells (by omega)
                      cases e5
                      have c0 := (HBr.out.cell (p := ⟨b5, o5 + k, none⟩) (show b5 < wB.heap.size by omega)).trans (hr5 k hkn)
                      simp only [hs1] at c0
                      have cc := (HBr.out.cell (p := ⟨gS, s, none⟩) hgB).trans (HNB.out.cell hsn)
                      rw [hcs] at cc
                      have r0 := (HBW.out.cell (p := ⟨w.heap.size, 0, none⟩) hsz).trans q0
                      have r1 := (HBW.out.cell (p := ⟨w.heap.size, 1, none⟩) hsz).trans q1
                      have r2 := (HBW.out.cell (p := ⟨w.heap.size, 2, none⟩) hsz).trans q2
                      have hwr := Nat.lt_of_lt_of_le hsz HBW.out.size
                      have hbr := HBr.out.size
                      have hb5r : b5 < wr.heap.size := by omega
                      have hgSr : gS < wr.heap.size := by omega
                      have HIS : Hid ((decide (0 ≤ (s : Int)) && decide ((s : Int) < (B.ns : Int))) = true) := by unfold Hid; simp; omega
                      have HBZi : Hid (Below wr.heap.size wr wr.drew) := (Below.refl _ _).drew
                      have SId := old_of HBZi.out
                      clear hr5 hs1 hcs hsn
                      go_wp2
                      refine wp_region_held_drew (S := (fun w' => (∀ b o, b < wr.heap.size → w'.cell? ⟨b, o, none⟩ = wr.cell? ⟨b, o, none⟩) ∧ Hid (Below wr.heap.size wr w'))) (by kernel_rfl) SId (fun hHeld => ?_)
                      (refine wpAnyH_take (i := 0) (v := ?_) rfl (by kernel_rfl) (by kernel_rfl) (by kernel_rfl) (fun _ _ _ h => h) (Or.inl ⟨by rfl, ?_⟩) (by assumption) ?_; rotate_left; (focus (intro w hSw; (try dsimp only at hSw); go_simp; (try with_reducible rfl))); (try simp only [List.getElem_toArray, List.getElem_cons_zero, List.getElem_cons_succ, Act.put, List.setIfInBounds_toArray, List.set_cons_zero, List.set_cons_succ])); (refine wpAnyH_take (i := 1) (v := ?_) rfl (by kernel_rfl) (by kernel_rfl) (by kernel_rfl) (fun _ _ _ h => h) (Or.inl ⟨by rfl, ?_⟩) (by assumption) ?_; rotate_left; (focus (intro w hSw; (try dsimp only at hSw); go_simp; (try with_reducible rfl))); (try simp only [List.getElem_toArray, List.getElem_cons_zero, List.getElem_cons_succ, Act.put, List.setIfInBounds_toArray, List.set_cons_zero, List.set_cons_succ])); (refine wpAnyH_take (i := 2) (v := ?_) rfl (by kernel_rfl) (by kernel_rfl) (by kernel_rfl) (fun _ _ _ h => h) (Or.inl ⟨by rfl, ?_⟩) (by assumption) ?_; rotate_left; (focus (intro w hSw; (try dsimp only at hSw); go_simp; (try with_reducible rfl))); (try simp only [List.getElem_toArray, List.getElem_cons_zero, List.getElem_cons_succ, Act.put, List.setIfInBounds_toArray, List.set_cons_zero, List.set_cons_succ])); (refine wpAnyH_take (i := 3) (v := ?_) rfl (by kernel_rfl) (by kernel_rfl) (by kernel_rfl) (fun _ _ _ h => h) (Or.inl ⟨by rfl, ?_⟩) (by assumption) ?_; rotate_left; (focus (intro w hSw; (try dsimp only at hSw); go_simp; (try with_reducible rfl))); (try simp only [List.getElem_toArray, List.getElem_cons_zero, List.getElem_cons_succ, Act.put, List.setIfInBounds_toArray, List.set_cons_zero, List.set_cons_succ])); (refine wpAnyH_take (i := 4) (v := ?_) rfl (by kernel_rfl) (by kernel_rfl) (by kernel_rfl) (fun _ _ _ h => h) (Or.inl ⟨by rfl, ?_⟩) (by assumption) ?_; rotate_left; (focus (intro w hSw; (try dsimp only at hSw); go_simp; (try with_reducible rfl))); (try simp only [List.getElem_toArray, List.getElem_cons_zero, List.getElem_cons_succ, Act.put, List.setIfInBounds_toArray, List.set_cons_zero, List.set_cons_succ]))
                      refine wpAnyH_ready (rs := [5]) (by kernel_rfl) (by simp) ?_; refine AllReadyH.cons rfl (fun K hK => ?_) AllReadyH.nil; go_simp
                      go_at_call 23
                      refine (isSort_eq N _ B s true _ (HBK.out.go (bel HBW.out HBZi.out)) HIS.out).mono ?_
                      rintro e wi ⟨rfl, hbi⟩
                      have Si := old_of (bel HBZi.out hbi)
                      have HBi := Si.2
                      clear hbi
                      refine hK.out _ _ Si (fun hHeld => ?_); clear hK K; (try simp only [List.getElem_toArray, List.getElem_cons_zero, List.getElem_cons_succ, Act.put, List.setIfInBounds_toArray, List.set_cons_zero, List.set_cons_succ])
                      (refine wpAnyH_take (i := 6) (v := ?_) rfl (by kernel_rfl) (by kernel_rfl) (by kernel_rfl) (fun _ _ _ h => h) (Or.inl ⟨by rfl, ?_⟩) (by assumption) ?_; rotate_left; (focus (intro w hSw; (try dsimp only at hSw); go_simp; (try with_reducible rfl))); (try simp only [List.getElem_toArray, List.getElem_cons_zero, List.getElem_cons_succ, Act.put, List.setIfInBounds_toArray, List.set_cons_zero, List.set_cons_succ])); (refine wpAnyH_take (i := 7) (v := ?_) rfl (by kernel_rfl) (by kernel_rfl) (by kernel_rfl) (fun _ _ _ h => h) (Or.inl ⟨by rfl, ?_⟩) (by assumption) ?_; rotate_left; (focus (intro w hSw; (try dsimp only at hSw); go_simp; (try with_reducible rfl))); (try simp only [List.getElem_toArray, List.getElem_cons_zero, List.getElem_cons_succ, Act.put, List.setIfInBounds_toArray, List.set_cons_zero, List.set_cons_succ]))
                      (refine wpAnyH_take (i := 8) (v := ?_) rfl (by kernel_rfl) (by kernel_rfl) (by kernel_rfl) (fun _ _ _ h => h) (Or.inl ⟨by rfl, ?_⟩) (by assumption) ?_; rotate_left; (focus (intro w hSw; (try dsimp only at hSw); go_simp; (try with_reducible rfl))); (try simp only [List.getElem_toArray, List.getElem_cons_zero, List.getElem_cons_succ, Act.put, List.setIfInBounds_toArray, List.set_cons_zero, List.set_cons_succ])); (refine wpAnyH_take (i := 9) (v := ?_) rfl (by kernel_rfl) (by kernel_rfl) (by kernel_rfl) (fun _ _ _ h => h) (Or.inl ⟨by rfl, ?_⟩) (by assumption) ?_; rotate_left; (focus (intro w hSw; (try dsimp only at hSw); go_simp; (try with_reducible rfl))); (try simp only [List.getElem_toArray, List.getElem_cons_zero, List.getElem_cons_succ, Act.put, List.setIfInBounds_toArray, List.set_cons_zero, List.set_cons_succ])); (refine wpAnyH_take (i := 10) (v := ?_) rfl (by kernel_rfl) (by kernel_rfl) (by kernel_rfl) (fun _ _ _ h => h) (Or.inl ⟨by rfl, ?_⟩) (by assumption) ?_; rotate_left; (focus (intro w hSw; (try dsimp only at hSw); go_simp; (try with_reducible rfl))); (try simp only [List.getElem_toArray, List.getElem_cons_zero, List.getElem_cons_succ, Act.put, List.setIfInBounds_toArray, List.set_cons_zero, List.set_cons_succ])); (refine wpAnyH_take (i := 11) (v := ?_) rfl (by kernel_rfl) (by kernel_rfl) (by kernel_rfl) (fun _ _ _ h => h) (Or.inl ⟨by rfl, ?_⟩) (by assumption) ?_; rotate_left; (focus (intro w hSw; (try dsimp only at hSw); go_simp; (try with_reducible rfl))); (try simp only [List.getElem_toArray, List.getElem_cons_zero, List.getElem_cons_succ, Act.put, List.setIfInBounds_toArray, List.set_cons_zero, List.set_cons_succ])); (refine wpAnyH_take (i := 12) (v := ?_) rfl (by kernel_rfl) (by kernel_rfl) (by kernel_rfl) (fun _ _ _ h => h) (Or.inl ⟨by rfl, ?_⟩) (by assumption) ?_; rotate_left; (focus (intro w hSw; (try dsimp only at hSw); go_simp; (try with_reducible rfl))); (try simp only [List.getElem_toArray, List.getElem_cons_zero, List.getElem_cons_succ, Act.put, List.setIfInBounds_toArray, List.set_cons_zero, List.set_cons_succ])); (refine wpAnyH_take (i := 13) (v := ?_) rfl (by kernel_rfl) (by kernel_rfl) (by kernel_rfl) (fun _ _ _ h => h) (Or.inl ⟨by rfl, ?_⟩) (by assumption) ?_; rotate_left; (focus (intro w hSw; (try dsimp only at hSw); go_simp; (try with_reducible rfl))); (try simp only [List.getElem_toArray, List.getElem_cons_zero, List.getElem_cons_succ, Act.put, List.setIfInBounds_toArray, List.set_cons_zero, List.set_cons_succ])); (refine wpAnyH_take (i := 14) (v := ?_) rfl (by kernel_rfl) (by kernel_rfl) (by kernel_rfl) (fun _ _ _ h => h) (Or.inl ⟨by rfl, ?_⟩) (by assumption) ?_; rotate_left; (focus (intro w hSw; (try dsimp only at hSw); go_simp; (try with_reducible rfl))); (try simp only [List.getElem_toArray, List.getElem_cons_zero, List.getElem_cons_succ, Act.put, List.setIfInBounds_toArray, List.set_cons_zero, List.set_cons_succ])); (refine wpAnyH_take (i := 15) (v := ?_) rfl (by kernel_rfl) (by kernel_rfl) (by kernel_rfl) (fun _ _ _ h => h) (Or.inl ⟨by rfl, ?_⟩) (by assumption) ?_; rotate_left; (focus (intro w hSw; (try dsimp only at hSw); go_simp; (try with_reducible rfl))); (try simp only [List.getElem_toArray, List.getElem_cons_zero, List.getElem_cons_succ, Act.put, List.setIfInBounds_toArray, List.set_cons_zero, List.set_cons_succ])); (refine wpAnyH_take (i := 16) (v := ?_) rfl (by kernel_rfl) (by kernel_rfl) (by kernel_rfl) (fun _ _ _ h => h) (Or.inl ⟨by rfl, ?_⟩) (by assumption) ?_; rotate_left; (focus (intro w hSw; (try dsimp only at hSw); go_simp; (try with_reducible rfl))); (try simp only [List.getElem_toArray, List.getElem_cons_zero, List.getElem_cons_succ, Act.put, List.setIfInBounds_toArray, List.set_cons_zero, List.set_cons_succ]))
                      refine wpAnyH_done (by kernel_rfl) ?_ _; clear hHeld
                      clear Si SId
                      go_wp2
                      go_roundw
                      case rel => exact ⟨k + 1, by omega, by go_num, bel HBr.out HBi.out⟩
                      case measure => simp [intOf]; omega
                    · have hkk : k = l2 := by omega
                      subst hkk
                      go_wp2_with (go_at_call 14; refine (works_any _).mono ?_; rintro e wE ⟨rfl, hbE⟩; have HBE := Lib.hid hbE; clear hbE)
                      go_ret
                      exact ⟨rfl, fin HB.out (bel HBW.out HBE.out)⟩

end Go.Proofs.Ytnnngbnimmcjiaa
