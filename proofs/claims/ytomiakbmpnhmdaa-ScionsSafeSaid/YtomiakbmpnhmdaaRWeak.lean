/-
  RWeak: Safe and Weak of the reference.
-/
import Derived.Test.YtomiakbmpnhmdaaRWith
namespace Go.Proofs.Ytomiakbmpnhmdaa
open Go.RowKit

set_option maxHeartbeats 1600000 in
set_option maxRecDepth 100000 in
theorem rSafeE_any (N : Nat) (v : Value) (B : SB) (w : World) (h : BookAt N w v B) :
    Calls Try.prog 46 #[v] w fun e w' => e = .returned (.tuple #[.int .i64 (eNum B (safeN B)).1, .int .i64 (eNum B (safeN B)).2]) ∧ Below w.heap.size w w' := by
  have h' := h
  obtain ⟨_, a1, z1, a2, z2, a3, z3, rfl, _⟩ := h'
  obtain ⟨ws, hws, HB, hsz, hblk⟩ := box1 w (.cells #[.slice a1 B.ns z1, .slice a2 B.ng z2, .slice a3 B.nw z3] 26)
  have q0 := cell_blk hblk 0 rfl
  have q1 := cell_blk hblk 1 rfl
  have q2 := cell_blk hblk 2 rfl
  have HBK := Lib.hid (h.go HB.out)
  have HB0 : Hid (Below ws.heap.size ws ws) := Below.refl _ _
  have HNS : Hid (N ≤ ws.heap.size) := HBK.out.1
  have hlens := h.lens
  obtain ⟨hlv, hls, hln⟩ := hlens
  clear hblk h
  cases hv : okL B with
  | false =>
    have HV := Lib.hid hv
    have HE : Hid (eNum B (safeN B) = (0, 60)) := by unfold Hid eNum; rw [hv]; rfl
    clear hv
    go_enter Try.func46, Try.ntmps46
    go_wp2_with (go_at_call 35; refine (rCheck_any N _ B _ (HBK.out.go HB0.out)).mono ?_; rw [HV.out]; rintro e w1 ⟨rfl, hb1⟩; (try clear c0); have HB1 := Lib.hid (bel HB0.out hb1); have c1 := (old_of HB1.out).1; clear hb1)
    go_ret2
    exact ⟨by rw [HE.out]; rfl, fin HB.out HB1.out⟩
  | true =>
    have HV := Lib.hid hv
    have HG := Lib.hid (goodL hv)
    have HE : Hid (eNum B (safeN B) = (((safeN B : Nat) : Int), 0)) := by unfold Hid eNum; rw [hv]; rfl
    obtain ⟨sn, hsn⟩ : ∃ sn, safeN B = sn := ⟨_, rfl⟩
    have HSN := Lib.hid hsn
    clear hv hsn
    go_enter Try.func46, Try.ntmps46
    go_wp2_with (first
      | (go_at_call 35; refine (rCheck_any N _ B _ (HBK.out.go HB0.out)).mono ?_; rw [HV.out]; rintro e w1 ⟨rfl, hb1⟩; (try clear c0); have HB1 := Lib.hid (bel HB0.out hb1); have c1 := (old_of HB1.out).1; clear hb1)
      | (go_at_call 70; refine (rsafe_any N _ B _ (HBK.out.go HB1.out) HG.out).mono ?_; rw [HSN.out]; rintro e w2 ⟨rfl, hb2⟩; (try clear c1); have HB2 := Lib.hid (bel HB1.out hb2); have c2 := (old_of HB2.out).1; clear hb2))
    go_ret2
    exact ⟨by rw [HE.out, HSN.out]; rfl, fin HB.out HB2.out⟩

set_option maxHeartbeats 3200000 in
set_option maxRecDepth 100000 in
theorem rWeak_any (N : Nat) (v : Value) (B : SB) (w : World) (h : BookAt N w v B) :
    Calls Try.prog 47 #[v] w (GivesIE w.heap.size w (eList B (sel (weakP B) B.ng)).1 (eList B (sel (weakP B) B.ng)).2) := by
  obtain ⟨i0, hi0, hz0, hz1, hz2⟩ := info_parts Try.infoInt
  have h' := h
  obtain ⟨_, a1, z1, a2, z2, a3, z3, rfl, _⟩ := h'
  obtain ⟨ws, hws, HB, hsz, hblk⟩ := box1 w (.cells #[.slice a1 B.ns z1, .slice a2 B.ng z2, .slice a3 B.nw z3] 26)
  have q0 := cell_blk hblk 0 rfl
  have q1 := cell_blk hblk 1 rfl
  have q2 := cell_blk hblk 2 rfl
  have HBK := Lib.hid (h.go HB.out)
  have HB0 : Hid (Below ws.heap.size ws ws) := Below.refl _ _
  have HNS : Hid (N ≤ ws.heap.size) := HBK.out.1
  have hlens := h.lens
  obtain ⟨hlv, hls, hln⟩ := hlens
  clear hblk h
  cases hv : okL B with
  | false =>
    have HV := Lib.hid hv
    have HE : Hid (eList B (sel (weakP B) B.ng) = ([], 60)) := by unfold Hid eList; rw [hv]; rfl
    clear hv
    go_enter Try.func47, Try.ntmps47
    go_wp2_with (go_at_call 35; refine (rCheck_any N _ B _ (HBK.out.go HB0.out)).mono ?_; rw [HV.out]; rintro e w1 ⟨rfl, hb1⟩; (try clear c0); have HB1 := Lib.hid (bel HB0.out hb1); have c1 := (old_of HB1.out).1; clear hb1)
    go_ret2
    exact ⟨.slice none 0 0, by rw [HE.out]; rfl, by rw [HE.out]; exact World.ownsRow_nil _ _ _ _, fin HB.out HB1.out⟩
  | true =>
    have HV := Lib.hid hv
    have hG := goodL hv
    have HG := Lib.hid hG
    have hng := hG.ng
    have HE : Hid (eList B (sel (weakP B) B.ng) = (sel (weakP B) B.ng, 0)) := by unfold Hid eList; rw [hv]; rfl
    obtain ⟨sn, hsn⟩ : ∃ sn, safeN B = sn := ⟨_, rfl⟩
    have HSN := Lib.hid hsn
    clear hv hsn hG
    go_enter Try.func47, Try.ntmps47
    go_wp2_with (go_at_call 35; refine (rCheck_any N _ B _ (HBK.out.go HB0.out)).mono ?_; rw [HV.out]; rintro e w1 ⟨rfl, hb1⟩; (try clear c0); have HB1 := Lib.hid (bel HB0.out hb1); have c1 := (old_of HB1.out).1; clear hb1)
    clear c1 hws
    go_loopw [5, 6] (fun ov i wr => ∃ k : Nat, k ≤ B.ng ∧ i = .int .i64 k ∧ Hid (OwnI ws.heap.size wr ov (sel (weakP B) k)) ∧ Hid (Below ws.heap.size ws wr)) (fun _ i _ => B.ng - (intOf i).toNat)
    case atStart => exact ⟨0, Nat.zero_le _, rfl, World.ownsRow_nil _ _ _ _, HB1⟩
    case round =>
      obtain ⟨k, hk, rfl, HO, HBr⟩ := hrel
      have r0 := (HBr.out.cell (p := ⟨w.heap.size, 0, none⟩) hsz).trans q0
      have r1 := (HBr.out.cell (p := ⟨w.heap.size, 1, none⟩) hsz).trans q1
      have r2 := (HBr.out.cell (p := ⟨w.heap.size, 2, none⟩) hsz).trans q2
      by_cases hkn : k < B.ng
      · have hki : (k : Int) < (B.ng : Int) := by omega
        have hsl := sel_len (weakP B) k
        have HPS : Hid (weakP B k = true → sel (weakP B) (k + 1) = sel (weakP B) k ++ [(k : Int)]) := sel_hit
        have HPM : Hid (weakP B k = false → sel (weakP B) (k + 1) = sel (weakP B) k) := sel_miss
        obtain ⟨sd, hsd⟩ : ∃ sd, safeN (delB B k) = sd := ⟨_, rfl⟩
        have HWP : Hid (weakP B k = decide (sd < sn)) := by unfold Hid weakP; rw [hsd, HSN.out]
        have HSD := Lib.hid hsd
        have HGD := Lib.hid (delB_good HG.out k)
        clear hsd
        have HBZ : Hid (Below wr.heap.size wr wr) := Below.refl _ _
        have SZd := old_of HBZ.out.drew; have HBZd := SZd.2
        have hszr : w.heap.size < wr.heap.size := Nat.lt_of_lt_of_le hsz HBr.out.size
        go_wp2
        refine wp_region_held_drew (S := (fun w' => (∀ b o, b < wr.heap.size → w'.cell? ⟨b, o, none⟩ = wr.cell? ⟨b, o, none⟩) ∧ Hid (Below wr.heap.size wr w'))) (by kernel_rfl) SZd (fun hHeld => ?_)
        (refine wpAnyH_take (i := 0) (v := ?_) rfl (by kernel_rfl) (by kernel_rfl) (by kernel_rfl) (fun _ _ _ h => h) (Or.inl ⟨by rfl, ?_⟩) (by assumption) ?_; rotate_left; (focus (intro w hSw; (try dsimp only at hSw); go_simp; (try with_reducible rfl))); (try simp only [List.getElem_toArray, List.getElem_cons_zero, List.getElem_cons_succ, Act.put, List.setIfInBounds_toArray, List.set_cons_zero, List.set_cons_succ])); (refine wpAnyH_take (i := 1) (v := ?_) rfl (by kernel_rfl) (by kernel_rfl) (by kernel_rfl) (fun _ _ _ h => h) (Or.inl ⟨by rfl, ?_⟩) (by assumption) ?_; rotate_left; (focus (intro w hSw; (try dsimp only at hSw); go_simp; (try with_reducible rfl))); (try simp only [List.getElem_toArray, List.getElem_cons_zero, List.getElem_cons_succ, Act.put, List.setIfInBounds_toArray, List.set_cons_zero, List.set_cons_succ]))
        (refine wpAnyH_take (i := 4) (v := ?_) rfl (by kernel_rfl) (by kernel_rfl) (by kernel_rfl) (fun _ _ _ h => h) (Or.inl ⟨by rfl, ?_⟩) (by assumption) ?_; rotate_left; (focus (intro w hSw; (try dsimp only at hSw); go_simp; (try with_reducible rfl))); (try simp only [List.getElem_toArray, List.getElem_cons_zero, List.getElem_cons_succ, Act.put, List.setIfInBounds_toArray, List.set_cons_zero, List.set_cons_succ]))
        refine wpAnyH_ready (rs := [2]) (by kernel_rfl) (by simp) ?_; refine AllReadyH.cons rfl (fun K hK => ?_) AllReadyH.nil; go_simp
        go_at_call 71
        refine (rwithout_any N _ B 4 k _ (HBK.out.go (bel HBr.out HBZd.out)) HG.out).mono ?_
        rintro e w5 ⟨⟨v5, rfl, hbk5⟩, hb5⟩
        have HBK5 := Lib.hid hbk5
        have S5 := old_of (bel HBZd.out hb5)
        have HB5 := S5.2
        clear hb5 hbk5
        refine hK.out _ _ S5 (fun hHeld => ?_); clear hK K; (try simp only [List.getElem_toArray, List.getElem_cons_zero, List.getElem_cons_succ, Act.put, List.setIfInBounds_toArray, List.set_cons_zero, List.set_cons_succ])
        refine wpAnyH_ready (rs := [3]) (by kernel_rfl) (by simp) ?_; refine AllReadyH.cons rfl (fun K hK => ?_) AllReadyH.nil; go_simp
        go_at_call 70
        refine (rsafe_any w5.heap.size _ (delB B k) _ HBK5.out HGD.out).mono ?_
        rw [HSD.out]
        rintro e w6 ⟨rfl, hb6⟩
        have S6 := old_of (bel HB5.out hb6)
        have HB6 := S6.2
        clear hb6 S5
        refine hK.out _ _ S6 (fun hHeld => ?_); clear hK K; (try simp only [List.getElem_toArray, List.getElem_cons_zero, List.getElem_cons_succ, Act.put, List.setIfInBounds_toArray, List.set_cons_zero, List.set_cons_succ])
        refine wpAnyH_ready (rs := [5]) (by kernel_rfl) (by simp) ?_; refine AllReadyH.cons rfl (fun K hK => ?_) AllReadyH.nil; go_simp
        go_at_call 70
        refine (rsafe_any N _ B _ (HBK.out.go (bel HBr.out HB6.out)) HG.out).mono ?_
        rw [HSN.out]
        rintro e w7 ⟨rfl, hb7⟩
        have S7 := old_of (bel HB6.out hb7)
        have HB7 := S7.2
        clear hb7 S6
        refine hK.out _ _ S7 (fun hHeld => ?_); clear hK K; (try simp only [List.getElem_toArray, List.getElem_cons_zero, List.getElem_cons_succ, Act.put, List.setIfInBounds_toArray, List.set_cons_zero, List.set_cons_succ])
        (refine wpAnyH_take (i := 6) (v := ?_) rfl (by kernel_rfl) (by kernel_rfl) (by kernel_rfl) (fun _ _ _ h => h) (Or.inl ⟨by rfl, ?_⟩) (by assumption) ?_; rotate_left; (focus (intro w hSw; (try dsimp only at hSw); go_simp; (try with_reducible rfl))); (try simp only [List.getElem_toArray, List.getElem_cons_zero, List.getElem_cons_succ, Act.put, List.setIfInBounds_toArray, List.set_cons_zero, List.set_cons_succ]))
        refine wpAnyH_done (by kernel_rfl) ?_ _; clear hHeld
        clear S7 SZd
        have HO7 : Hid (OwnI ws.heap.size w7 u5 (sel (weakP B) k)) := own_below HO.out HB7.out
        have HBw7 : Hid (Below ws.heap.size ws w7) := bel HBr.out HB7.out
        generalize sel (weakP B) k = q at *
        cases hlt : decide (sd < sn) with
        | true =>
          have HP := Lib.hid (HPS.out (HWP.out.trans hlt))
          have hli : decide ((sd : Int) < (sn : Int)) = true := decide_eq_true (by have := of_decide_eq_true hlt; omega)
          have hs3 := HBw7.out.size
          have hlt2 : (sd : Int) < (sn : Int) := by have := of_decide_eq_true hlt; omega
          go_wp2_with (at_builtin; refine wpList_append_own _ rfl _ _ 22 rfl ws.heap.size 3 i0 (.int .i64 0) 1 8 Try.underlying22 hi0 hz0 hz1 hz2 rfl (by decide) _ _ _ rfl (HO7.out.alloc _) ⟨w7.heap.size, 0, none⟩ 1 1 [.int .i64 k] rfl rfl (cell_one_new _ _ _) (by simp [Value.oneCell']) (by unfold maxLen; omega) (by omega) (by simp; omega) ?_; intro v' w8 hown8 hgrow _)
          go_roundw
          case rel => exact ⟨k + 1, by omega, by go_num, by rw [HP.out]; unfold Hid OwnI; rw [List.length_append, List.map_append]; exact hown8, (HBw7.out.alloc HBw7.out.size _).grown hgrow (by simp; omega) (fun j e => (HO7.out.lt j e).1)⟩
          case measure => simp [intOf]; omega
        | false =>
          have HP := Lib.hid (HPM.out (HWP.out.trans hlt))
          have hli : decide ((sd : Int) < (sn : Int)) = false := decide_eq_false (by have := of_decide_eq_false hlt; omega)
          have hlt2 : ¬ (sd : Int) < (sn : Int) := by have := of_decide_eq_false hlt; omega
          go_wp2
          go_roundw
          case rel => exact ⟨k + 1, by omega, by go_num, by rw [HP.out]; exact HO7, HBw7⟩
          case measure => simp [intOf]; omega
      · have hkk : k = B.ng := by omega
        subst hkk
        go_wp2
        go_ret2
        exact ⟨_, by rw [HE.out]; rfl, by rw [HE.out]; exact own_mono HO.out HB.out.size, fin HB.out HBr.out⟩

end Go.Proofs.Ytomiakbmpnhmdaa
