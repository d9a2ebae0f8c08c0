/-
  JRefE: IsBetter, PlaceOf and Get of the reference.
  JRefF: PlaceOf and Get of the reference.
-/
import Derived.Test.YtffnlimgjnhmpaaJRefB
import Derived.Test.YtffnlimgjnhmpaaJRefA
namespace Go.Proofs.Ytffnlimgjnhmpaa
open Go.RowKit

/-- a show whose totals can be reckoned -/
structure RdS (S : JB) : Prop where
  D0 : 0 ≤ S.D
  len : ∀ i, i < S.np → 2 * S.D ≤ ((S.pts i).length : Int) ∧ (S.pts i).length ≤ 40
  pt : ∀ i, i < S.np → ∀ x, x ∈ S.pts i → -1 ≤ x ∧ x ≤ 20
  np : S.np ≤ 40
theorem GoodS.rd {S : JB} (h : GoodS S) : RdS S := ⟨h.D0, fun i hi => by have := h.len i hi; have := h.DJ; have := h.J5; omega, h.pt, by have := h.np; omega⟩

set_option maxHeartbeats 6400000 in
set_option maxRecDepth 100000 in
theorem isBetter_any (N : Nat) (v : Value) (S : JB) (i j : Nat) (w : World) (h : ShowAt N w v S) (hR : RdS S) (hi : i < S.np) (hj : j < S.np) :
    Calls Try.prog 23 #[v, .int .i64 i, .int .i64 j] w fun e w' => e = .returned (.bool (bet (totI S) S.sz i j)) ∧ Below w.heap.size w w' := by
  obtain ⟨a1, c1, rfl⟩ := h.form
  obtain ⟨ws, hws, HB, hsz, hblk⟩ := box1 w (.cells #[.int .i64 S.J, .int .i64 S.D, .int .i64 S.Z, .slice a1 S.np c1] 24)
  have q0 := cell_blk hblk 0 rfl
  have q1 := cell_blk hblk 1 rfl
  have q2 := cell_blk hblk 2 rfl
  have q3 := cell_blk hblk 3 rfl
  have HNZ : Hid (N ≤ w.heap.size) := h.1
  have HBK := Lib.hid (h.go HB.out)
  have HB0 : Hid (Below ws.heap.size ws ws) := Below.refl _ _
  have HNS : Hid (N ≤ ws.heap.size) := HBK.out.1
  have hlen := h.len
  clear hblk h
  obtain ⟨A, C, hcap, _, hrows, hcells⟩ := HBK.out.plates.open
  obtain ⟨b, off, rfl, hbN, hrr⟩ := hcells (by omega)
  obtain ⟨hi0, hi1⟩ := hrr i hi
  obtain ⟨hj0, hj1⟩ := hrr j hj
  have HLi := Lib.hid (hrows i hi).2
  have HLj := Lib.hid (hrows j hj).2
  obtain ⟨d, hd⟩ : ∃ d : Nat, S.D = d := ⟨S.D.toNat, by have := hR.D0; omega⟩
  have HTi : Hid (totI S i = tot d (S.pts i)) := by unfold Hid totI; rw [hd]; rfl
  have HTj : Hid (totI S j = tot d (S.pts j)) := by unfold Hid totI; rw [hd]; rfl
  have HLEi := Lib.hid (show 2 * d ≤ (S.pts i).length ∧ (S.pts i).length ≤ 40 by have := hR.len i hi; omega)
  have HLEj := Lib.hid (show 2 * d ≤ (S.pts j).length ∧ (S.pts j).length ≤ 40 by have := hR.len j hj; omega)
  have HPi := Lib.hid (show ∀ x, x ∈ S.pts i → -1 ≤ x ∧ x ≤ 1000 from fun x hx => by have := hR.pt i hi x hx; omega)
  have HPj := Lib.hid (show ∀ x, x ∈ S.pts j → -1 ≤ x ∧ x ≤ 1000 from fun x hx => by have := hR.pt j hj x hx; omega)
  obtain ⟨ti, hti⟩ : ∃ t, totI S i = t := ⟨_, rfl⟩
  obtain ⟨tj, htj⟩ : ∃ t, totI S j = t := ⟨_, rfl⟩
  obtain ⟨si, hsi⟩ : ∃ t, S.sz i = t := ⟨_, rfl⟩
  obtain ⟨sj, hsj⟩ : ∃ t, S.sz j = t := ⟨_, rfl⟩
  rw [hti] at HTi
  rw [htj] at HTj
  rw [hsi] at hi0
  rw [hsj] at hj0
  rw [hd] at q1
  have HBE : Hid (bet (totI S) S.sz i j = (decide (tj < ti) || (decide (ti = tj) && decide (sj < si)))) := by unfold Hid bet; rw [hti, htj, hsi, hsj]
  have hii : (i : Int) < (S.np : Int) := by omega
  have hji : (j : Int) < (S.np : Int) := by omega
  have hbw : b < ws.heap.size := by have := HNS.out; omega
  obtain ⟨li, hli⟩ : ∃ l, (S.pts i).length = l := ⟨_, rfl⟩
  obtain ⟨lj, hlj⟩ : ∃ l, (S.pts j).length = l := ⟨_, rfl⟩
  rw [hli] at hi1 HLi
  rw [hlj] at hj1 HLj
  clear hrr hrows hcells hR hd hti htj hsi hsj hli hlj
  go_enter Try.func23, Try.ntmps23
  go_upto_region 1 with fail
  refine wp_region_held_drew (S := fun w' => (∀ b o, b < ws.heap.size → w'.cell? ⟨b, o, none⟩ = ws.cell? ⟨b, o, none⟩) ∧ Hid (Below ws.heap.size ws w')) (by kernel_rfl) (old_of HB0.out.drew) (fun hHeld => ?_)
  (refine wpAnyH_take (i := 0) (v := ?_) rfl (by kernel_rfl) (by kernel_rfl) (by kernel_rfl) (fun _ _ _ h => h) (Or.inl ⟨by rfl, ?_⟩) (by assumption) ?_; rotate_left; (focus (intro w hSw; (try dsimp only at hSw); go_simp; (try with_reducible rfl))); (try simp only [List.getElem_toArray, List.getElem_cons_zero, List.getElem_cons_succ, Act.put, List.setIfInBounds_toArray, List.set_cons_zero, List.set_cons_succ])); (refine wpAnyH_take (i := 1) (v := ?_) rfl (by kernel_rfl) (by kernel_rfl) (by kernel_rfl) (fun _ _ _ h => h) (Or.inl ⟨by rfl, ?_⟩) (by assumption) ?_; rotate_left; (focus (intro w hSw; (try dsimp only at hSw); go_simp; (try with_reducible rfl))); (try simp only [List.getElem_toArray, List.getElem_cons_zero, List.getElem_cons_succ, Act.put, List.setIfInBounds_toArray, List.set_cons_zero, List.set_cons_succ])); (refine wpAnyH_take (i := 2) (v := ?_) rfl (by kernel_rfl) (by kernel_rfl) (by kernel_rfl) (fun _ _ _ h => h) (Or.inl ⟨by rfl, ?_⟩) (by assumption) ?_; rotate_left; (focus (intro w hSw; (try dsimp only at hSw); go_simp; (try with_reducible rfl))); (try simp only [List.getElem_toArray, List.getElem_cons_zero, List.getElem_cons_succ, Act.put, List.setIfInBounds_toArray, List.set_cons_zero, List.set_cons_succ])); (refine wpAnyH_take (i := 3) (v := ?_) rfl (by kernel_rfl) (by kernel_rfl) (by kernel_rfl) (fun _ _ _ h => h) (Or.inl ⟨by rfl, ?_⟩) (by assumption) ?_; rotate_left; (focus (intro w hSw; (try dsimp only at hSw); go_simp; (try with_reducible rfl))); (try simp only [List.getElem_toArray, List.getElem_cons_zero, List.getElem_cons_succ, Act.put, List.setIfInBounds_toArray, List.set_cons_zero, List.set_cons_succ])); (refine wpAnyH_take (i := 4) (v := ?_) rfl (by kernel_rfl) (by kernel_rfl) (by kernel_rfl) (fun _ _ _ h => h) (Or.inl ⟨by rfl, ?_⟩) (by assumption) ?_; rotate_left; (focus (intro w hSw; (try dsimp only at hSw); go_simp; (try with_reducible rfl))); (try simp only [List.getElem_toArray, List.getElem_cons_zero, List.getElem_cons_succ, Act.put, List.setIfInBounds_toArray, List.set_cons_zero, List.set_cons_succ])); (refine wpAnyH_take (i := 5) (v := ?_) rfl (by kernel_rfl) (by kernel_rfl) (by kernel_rfl) (fun _ _ _ h => h) (Or.inl ⟨by rfl, ?_⟩) (by assumption) ?_; rotate_left; (focus (intro w hSw; (try dsimp only at hSw); go_simp; (try with_reducible rfl))); (try simp only [List.getElem_toArray, List.getElem_cons_zero, List.getElem_cons_succ, Act.put, List.setIfInBounds_toArray, List.set_cons_zero, List.set_cons_succ])); (refine wpAnyH_take (i := 6) (v := ?_) rfl (by kernel_rfl) (by kernel_rfl) (by kernel_rfl) (fun _ _ _ h => h) (Or.inl ⟨by rfl, ?_⟩) (by assumption) ?_; rotate_left; (focus (intro w hSw; (try dsimp only at hSw); go_simp; (try with_reducible rfl))); (try simp only [List.getElem_toArray, List.getElem_cons_zero, List.getElem_cons_succ, Act.put, List.setIfInBounds_toArray, List.set_cons_zero, List.set_cons_succ])); (refine wpAnyH_take (i := 7) (v := ?_) rfl (by kernel_rfl) (by kernel_rfl) (by kernel_rfl) (fun _ _ _ h => h) (Or.inl ⟨by rfl, ?_⟩) (by assumption) ?_; rotate_left; (focus (intro w hSw; (try dsimp only at hSw); go_simp; (try with_reducible rfl))); (try simp only [List.getElem_toArray, List.getElem_cons_zero, List.getElem_cons_succ, Act.put, List.setIfInBounds_toArray, List.set_cons_zero, List.set_cons_succ]))
  (refine wpAnyH_take (i := 9) (v := ?_) rfl (by kernel_rfl) (by kernel_rfl) (by kernel_rfl) (fun _ _ _ h => h) (Or.inl ⟨by rfl, ?_⟩) (by assumption) ?_; rotate_left; (focus (intro w hSw; (try dsimp only at hSw); go_simp; (try with_reducible rfl))); (try simp only [List.getElem_toArray, List.getElem_cons_zero, List.getElem_cons_succ, Act.put, List.setIfInBounds_toArray, List.set_cons_zero, List.set_cons_succ])); (refine wpAnyH_take (i := 10) (v := ?_) rfl (by kernel_rfl) (by kernel_rfl) (by kernel_rfl) (fun _ _ _ h => h) (Or.inl ⟨by rfl, ?_⟩) (by assumption) ?_; rotate_left; (focus (intro w hSw; (try dsimp only at hSw); go_simp; (try with_reducible rfl))); (try simp only [List.getElem_toArray, List.getElem_cons_zero, List.getElem_cons_succ, Act.put, List.setIfInBounds_toArray, List.set_cons_zero, List.set_cons_succ])); (refine wpAnyH_take (i := 11) (v := ?_) rfl (by kernel_rfl) (by kernel_rfl) (by kernel_rfl) (fun _ _ _ h => h) (Or.inl ⟨by rfl, ?_⟩) (by assumption) ?_; rotate_left; (focus (intro w hSw; (try dsimp only at hSw); go_simp; (try with_reducible rfl))); (try simp only [List.getElem_toArray, List.getElem_cons_zero, List.getElem_cons_succ, Act.put, List.setIfInBounds_toArray, List.set_cons_zero, List.set_cons_succ])); (refine wpAnyH_take (i := 12) (v := ?_) rfl (by kernel_rfl) (by kernel_rfl) (by kernel_rfl) (fun _ _ _ h => h) (Or.inl ⟨by rfl, ?_⟩) (by assumption) ?_; rotate_left; (focus (intro w hSw; (try dsimp only at hSw); go_simp; (try with_reducible rfl))); (try simp only [List.getElem_toArray, List.getElem_cons_zero, List.getElem_cons_succ, Act.put, List.setIfInBounds_toArray, List.set_cons_zero, List.set_cons_succ])); (refine wpAnyH_take (i := 13) (v := ?_) rfl (by kernel_rfl) (by kernel_rfl) (by kernel_rfl) (fun _ _ _ h => h) (Or.inl ⟨by rfl, ?_⟩) (by assumption) ?_; rotate_left; (focus (intro w hSw; (try dsimp only at hSw); go_simp; (try with_reducible rfl))); (try simp only [List.getElem_toArray, List.getElem_cons_zero, List.getElem_cons_succ, Act.put, List.setIfInBounds_toArray, List.set_cons_zero, List.set_cons_succ])); (refine wpAnyH_take (i := 14) (v := ?_) rfl (by kernel_rfl) (by kernel_rfl) (by kernel_rfl) (fun _ _ _ h => h) (Or.inl ⟨by rfl, ?_⟩) (by assumption) ?_; rotate_left; (focus (intro w hSw; (try dsimp only at hSw); go_simp; (try with_reducible rfl))); (try simp only [List.getElem_toArray, List.getElem_cons_zero, List.getElem_cons_succ, Act.put, List.setIfInBounds_toArray, List.set_cons_zero, List.set_cons_succ])); (refine wpAnyH_take (i := 15) (v := ?_) rfl (by kernel_rfl) (by kernel_rfl) (by kernel_rfl) (fun _ _ _ h => h) (Or.inl ⟨by rfl, ?_⟩) (by assumption) ?_; rotate_left; (focus (intro w hSw; (try dsimp only at hSw); go_simp; (try with_reducible rfl))); (try simp only [List.getElem_toArray, List.getElem_cons_zero, List.getElem_cons_succ, Act.put, List.setIfInBounds_toArray, List.set_cons_zero, List.set_cons_succ])); (refine wpAnyH_take (i := 16) (v := ?_) rfl (by kernel_rfl) (by kernel_rfl) (by kernel_rfl) (fun _ _ _ h => h) (Or.inl ⟨by rfl, ?_⟩) (by assumption) ?_; rotate_left; (focus (intro w hSw; (try dsimp only at hSw); go_simp; (try with_reducible rfl))); (try simp only [List.getElem_toArray, List.getElem_cons_zero, List.getElem_cons_succ, Act.put, List.setIfInBounds_toArray, List.set_cons_zero, List.set_cons_succ]))
  refine wpAnyH_ready (rs := [8]) (by kernel_rfl) (by simp) ?_; refine AllReadyH.cons rfl (fun K hK => ?_) AllReadyH.nil; go_simp
  go_at_call 20
  refine (totalOf_any N _ (S.pts i) d _ (HLi.out.go HNS.out HB0.out.drew) (by have := HNS.out; simpa using this) HLEi.out.2 HPi.out HLEi.out.1).mono ?_
  rw [← HTi.out]
  rintro e w1 ⟨rfl, hb1⟩
  have S1 := old_of (bel (HB0.out.drew) hb1)
  have HB1 := S1.2
  clear hb1
  refine hK.out _ _ S1 (fun hHeld => ?_); clear hK K; (try simp only [List.getElem_toArray, List.getElem_cons_zero, List.getElem_cons_succ, Act.put, List.setIfInBounds_toArray, List.set_cons_zero, List.set_cons_succ])
  refine wpAnyH_ready (rs := [17]) (by kernel_rfl) (by simp) ?_; refine AllReadyH.cons rfl (fun K hK => ?_) AllReadyH.nil; go_simp
  go_at_call 20
  refine (totalOf_any N _ (S.pts j) d _ (HLj.out.go HNS.out HB1.out) (Nat.le_trans HNS.out HB1.out.size) HLEj.out.2 HPj.out HLEj.out.1).mono ?_
  rw [← HTj.out]
  rintro e w2 ⟨rfl, hb2⟩
  have S2 := old_of (bel HB1.out hb2)
  have HB2 := S2.2
  clear hb2 S1
  refine hK.out _ _ S2 (fun hHeld => ?_); clear hK K; (try simp only [List.getElem_toArray, List.getElem_cons_zero, List.getElem_cons_succ, Act.put, List.setIfInBounds_toArray, List.set_cons_zero, List.set_cons_succ])
  (refine wpAnyH_take (i := 18) (v := ?_) rfl (by kernel_rfl) (by kernel_rfl) (by kernel_rfl) (fun _ _ _ h => h) (Or.inl ⟨by rfl, ?_⟩) (by assumption) ?_; rotate_left; (focus (intro w hSw; (try dsimp only at hSw); go_simp; (try with_reducible rfl))); (try simp only [List.getElem_toArray, List.getElem_cons_zero, List.getElem_cons_succ, Act.put, List.setIfInBounds_toArray, List.set_cons_zero, List.set_cons_succ])); (refine wpAnyH_take (i := 19) (v := ?_) rfl (by kernel_rfl) (by kernel_rfl) (by kernel_rfl) (fun _ _ _ h => h) (Or.inl ⟨by rfl, ?_⟩) (by assumption) ?_; rotate_left; (focus (intro w hSw; (try dsimp only at hSw); go_simp; (try with_reducible rfl))); (try simp only [List.getElem_toArray, List.getElem_cons_zero, List.getElem_cons_succ, Act.put, List.setIfInBounds_toArray, List.set_cons_zero, List.set_cons_succ]))
  refine wpAnyH_done (by kernel_rfl) ?_ _; clear hHeld
  have c2 := S2.1
  clear S2
  have hb := HBE.out
  have HB2' := HB2
  by_cases h1 : tj < ti
  · have h1b : decide (tj < ti) = true := decide_eq_true h1
    have HR : Hid (bet (totI S) S.sz i j = true) := by unfold Hid; rw [hb, h1b]; rfl
    clear h1 hb
    go_wp2
    go_quiet (fail)
    go_wp2
    go_ret
    exact ⟨ret_bool HR.out.symm, fin HB.out (HB2.out.trans (below_drewN (Below.refl _ _) _))⟩
  · have h1b : decide (tj < ti) = false := decide_eq_false h1
    by_cases h2 : ti = tj
    · have h2b : (ti == tj) = true := by simp [h2]
      have HR : Hid (bet (totI S) S.sz i j = decide (sj < si)) := by unfold Hid; rw [hb, h1b, decide_eq_true h2]; rfl
      clear h1 h2 hb
      go_wp2
      go_quiet (fail)
      go_wp2
      go_ret
      exact ⟨ret_bool HR.out.symm, fin HB.out (HB2.out.trans (below_drewN (Below.refl _ _) _))⟩
    · have h2b : (ti == tj) = false := by simp [h2]
      have HR : Hid (bet (totI S) S.sz i j = false) := by unfold Hid; rw [hb, h1b, decide_eq_false h2]; rfl
      clear h1 h2 hb
      go_wp2
      go_quiet (fail)
      go_wp2
      go_ret
      exact ⟨ret_bool HR.out.symm, fin HB.out (HB2.out.trans (below_drewN (Below.refl _ _) _))⟩

end Go.Proofs.Ytffnlimgjnhmpaa

namespace Go.Proofs.Ytffnlimgjnhmpaa
open Go.RowKit

theorem plc_cnt (S : JB) (i : Nat) : plc S i = cnt S.np (fun j => bet (totI S) S.sz j i) + 1 := by unfold plc placeN; rw [cnt_range]

set_option maxHeartbeats 6400000 in
set_option maxRecDepth 100000 in
theorem placeOf_any (N : Nat) (v : Value) (S : JB) (p : Nat) (w : World) (h : ShowAt N w v S) (hR : RdS S) (hp : p < S.np) :
    Calls Try.prog 18 #[v, .int .i64 p] w fun e w' => e = .returned (.int .i64 (plc S p)) ∧ Below w.heap.size w w' := by
  obtain ⟨a1, c1, rfl⟩ := h.form
  obtain ⟨ws, hws, HB, hsz, hblk⟩ := box1 w (.cells #[.int .i64 S.J, .int .i64 S.D, .int .i64 S.Z, .slice a1 S.np c1] 24)
  have q0 := cell_blk hblk 0 rfl
  have q1 := cell_blk hblk 1 rfl
  have q2 := cell_blk hblk 2 rfl
  have q3 := cell_blk hblk 3 rfl
  have HNZ : Hid (N ≤ w.heap.size) := h.1
  have HBK := Lib.hid (h.go HB.out)
  have HB0 : Hid (Below ws.heap.size ws ws) := Below.refl _ _
  have HNS : Hid (N ≤ ws.heap.size) := HBK.out.1
  have hlen := h.len
  clear hblk h
  have HR := Lib.hid hR
  have hn40 : S.np ≤ 40 := hR.np
  have HPC := Lib.hid (plc_cnt S p)
  clear hR
  go_enter Try.func18, Try.ntmps18
  go_wp2_with fail
  clear hws
  go_loopw [5, 6] (fun c i wr => ∃ k m : Nat, k ≤ S.np ∧ m ≤ k ∧ i = .int .i64 k ∧ c = .int .i64 ((m : Int) + 1) ∧ Hid (m = cnt k fun j => bet (totI S) S.sz j p) ∧ Hid (Below ws.heap.size ws wr)) (fun _ i _ => S.np - (intOf i).toNat)
  case atStart => exact ⟨0, 0, Nat.zero_le _, Nat.le_refl _, rfl, rfl, rfl, HB0⟩
  case round =>
    obtain ⟨k, m, hk, hmk, rfl, rfl, HM, HBr⟩ := hrel
    have r0 := (HBr.out.cell (p := ⟨w.heap.size, 0, none⟩) hsz).trans q0
    have r1 := (HBr.out.cell (p := ⟨w.heap.size, 1, none⟩) hsz).trans q1
    have r2 := (HBr.out.cell (p := ⟨w.heap.size, 2, none⟩) hsz).trans q2
    have r3 := (HBr.out.cell (p := ⟨w.heap.size, 3, none⟩) hsz).trans q3
    by_cases hkn : k < S.np
    · cases hbt : bet (totI S) S.sz k p with
      | true =>
        have HBT := Lib.hid hbt
        clear hbt
        go_wp2_with (go_at_call 23; refine (isBetter_any N _ S k p _ (HBK.out.go HBr.out) HR.out hkn hp).mono ?_; rw [HBT.out]; rintro e w1 ⟨rfl, hb1⟩; ((try clear cr); have HB1 := Lib.hid (bel HBr.out hb1); have c1 := (old_of HB1.out).1; clear hb1))
        go_roundw
        case rel => exact ⟨k + 1, m + 1, by omega, by omega, by go_num, by go_num, by unfold Hid; rw [cnt_hit (p := fun j => bet (totI S) S.sz j p) HBT.out, ← HM.out], HB1⟩
        case measure => simp [intOf]; omega
      | false =>
        have HBT := Lib.hid hbt
        clear hbt
        go_wp2_with (go_at_call 23; refine (isBetter_any N _ S k p _ (HBK.out.go HBr.out) HR.out hkn hp).mono ?_; rw [HBT.out]; rintro e w1 ⟨rfl, hb1⟩; ((try clear cr); have HB1 := Lib.hid (bel HBr.out hb1); have c1 := (old_of HB1.out).1; clear hb1))
        go_roundw
        case rel => exact ⟨k + 1, m, by omega, by omega, by go_num, rfl, by unfold Hid; rw [cnt_miss (p := fun j => bet (totI S) S.sz j p) HBT.out, ← HM.out], HB1⟩
        case measure => simp [intOf]; omega
    · have hke : k = S.np := by omega
      have HKE := Lib.hid hke
      clear hke
      go_wp2
      go_ret
      exact ⟨ret_int (by rw [HPC.out, HM.out, HKE.out]; simp), fin HB.out HBr.out⟩

set_option maxHeartbeats 6400000 in
set_option maxRecDepth 100000 in
theorem get_any (N : Nat) (v : Value) (S : JB) (w : World) (h : ShowAt N w v S) (hR : RdS S) :
    Calls Try.prog 41 #[v] w (GivesI w.heap.size w (getL S)) := by
  obtain ⟨a1, c1, rfl⟩ := h.form
  obtain ⟨ws, hws, HB, hsz, hblk⟩ := box1 w (.cells #[.int .i64 S.J, .int .i64 S.D, .int .i64 S.Z, .slice a1 S.np c1] 24)
  have q0 := cell_blk hblk 0 rfl
  have q1 := cell_blk hblk 1 rfl
  have q2 := cell_blk hblk 2 rfl
  have q3 := cell_blk hblk 3 rfl
  have HNZ : Hid (N ≤ w.heap.size) := h.1
  have HBK := Lib.hid (h.go HB.out)
  have HB0 : Hid (Below ws.heap.size ws ws) := Below.refl _ _
  have HNS : Hid (N ≤ ws.heap.size) := HBK.out.1
  have hlen := h.len
  clear hblk h
  have HR := Lib.hid hR
  have hn40 : S.np ≤ 40 := hR.np
  have HI := info_parts Try.infoInt
  obtain ⟨i0, hi0, hz0, hz1, hz2⟩ := HI
  clear hR
  go_enter Try.func41, Try.ntmps41
  go_wp2_with fail
  clear hws
  go_loopw [3, 4] (fun u i wr => ∃ k : Nat, k ≤ S.np ∧ i = .int .i64 k ∧ Hid (OwnI ws.heap.size wr u (sel (gotP S) k)) ∧ Hid (Below ws.heap.size ws wr)) (fun _ i _ => S.np - (intOf i).toNat)
  case atStart => exact ⟨0, Nat.zero_le _, rfl, OwnI.nil _ _, HB0⟩
  case round =>
    obtain ⟨k, hk, rfl, HO, HBr⟩ := hrel
    have r0 := (HBr.out.cell (p := ⟨w.heap.size, 0, none⟩) hsz).trans q0
    have r1 := (HBr.out.cell (p := ⟨w.heap.size, 1, none⟩) hsz).trans q1
    have r2 := (HBr.out.cell (p := ⟨w.heap.size, 2, none⟩) hsz).trans q2
    have r3 := (HBr.out.cell (p := ⟨w.heap.size, 3, none⟩) hsz).trans q3
    by_cases hkn : k < S.np
    · obtain ⟨pk, hpk⟩ : ∃ pk, plc S k = pk := ⟨_, rfl⟩
      have HPK := Lib.hid hpk
      have HG : Hid (gotP S k = decide ((pk : Int) ≤ S.Z)) := by unfold Hid gotP; rw [hpk]
      clear hpk
      go_upto_region 5 with fail
      have HBz : Hid (Below wr.heap.size wr wr) := Below.refl _ _
      have hszr := Nat.lt_of_lt_of_le hsz HBr.out.size
      refine wp_region_held_drew (S := fun w' => (∀ b o, b < wr.heap.size → w'.cell? ⟨b, o, none⟩ = wr.cell? ⟨b, o, none⟩) ∧ Hid (Below wr.heap.size wr w')) (by kernel_rfl) (old_of HBz.out.drew) (fun hHeld => ?_)
      (refine wpAnyH_take (i := 0) (v := ?_) rfl (by kernel_rfl) (by kernel_rfl) (by kernel_rfl) (fun _ _ _ h => h) (Or.inl ⟨by rfl, ?_⟩) (by assumption) ?_; rotate_left; (focus (intro w hSw; (try dsimp only at hSw); go_simp; (try with_reducible rfl))); (try simp only [List.getElem_toArray, List.getElem_cons_zero, List.getElem_cons_succ, Act.put, List.setIfInBounds_toArray, List.set_cons_zero, List.set_cons_succ])); (refine wpAnyH_take (i := 1) (v := ?_) rfl (by kernel_rfl) (by kernel_rfl) (by kernel_rfl) (fun _ _ _ h => h) (Or.inl ⟨by rfl, ?_⟩) (by assumption) ?_; rotate_left; (focus (intro w hSw; (try dsimp only at hSw); go_simp; (try with_reducible rfl))); (try simp only [List.getElem_toArray, List.getElem_cons_zero, List.getElem_cons_succ, Act.put, List.setIfInBounds_toArray, List.set_cons_zero, List.set_cons_succ]))
      (refine wpAnyH_take (i := 3) (v := ?_) rfl (by kernel_rfl) (by kernel_rfl) (by kernel_rfl) (fun _ _ _ h => h) (Or.inl ⟨by rfl, ?_⟩) (by assumption) ?_; rotate_left; (focus (intro w hSw; (try dsimp only at hSw); go_simp; (try with_reducible rfl))); (try simp only [List.getElem_toArray, List.getElem_cons_zero, List.getElem_cons_succ, Act.put, List.setIfInBounds_toArray, List.set_cons_zero, List.set_cons_succ])); (refine wpAnyH_take (i := 4) (v := ?_) rfl (by kernel_rfl) (by kernel_rfl) (by kernel_rfl) (fun _ _ _ h => h) (Or.inl ⟨by rfl, ?_⟩) (by assumption) ?_; rotate_left; (focus (intro w hSw; (try dsimp only at hSw); go_simp; (try with_reducible rfl))); (try simp only [List.getElem_toArray, List.getElem_cons_zero, List.getElem_cons_succ, Act.put, List.setIfInBounds_toArray, List.set_cons_zero, List.set_cons_succ]))
      refine wpAnyH_ready (rs := [2]) (by kernel_rfl) (by simp) ?_; refine AllReadyH.cons rfl (fun K hK => ?_) AllReadyH.nil; go_simp
      go_at_call 18
      refine (placeOf_any N _ S k _ (HBK.out.go (HBr.out.drew)) HR.out hkn).mono ?_
      rw [HPK.out]
      rintro e w1 ⟨rfl, hb1⟩
      have S1 := old_of (bel (HBz.out.drew) hb1)
      have HB1 := S1.2
      clear hb1
      refine hK.out _ _ S1 (fun hHeld => ?_); clear hK K; (try simp only [List.getElem_toArray, List.getElem_cons_zero, List.getElem_cons_succ, Act.put, List.setIfInBounds_toArray, List.set_cons_zero, List.set_cons_succ])
      (refine wpAnyH_take (i := 5) (v := ?_) rfl (by kernel_rfl) (by kernel_rfl) (by kernel_rfl) (fun _ _ _ h => h) (Or.inl ⟨by rfl, ?_⟩) (by assumption) ?_; rotate_left; (focus (intro w hSw; (try dsimp only at hSw); go_simp; (try with_reducible rfl))); (try simp only [List.getElem_toArray, List.getElem_cons_zero, List.getElem_cons_succ, Act.put, List.setIfInBounds_toArray, List.set_cons_zero, List.set_cons_succ]))
      refine wpAnyH_done (by kernel_rfl) ?_ _; clear hHeld
      have c1 := S1.1
      clear S1
      have HBr1 : Hid (Below ws.heap.size ws w1) := bel HBr.out HB1.out
      by_cases hg : (pk : Int) ≤ S.Z
      · have HG1 : Hid (gotP S k = true) := by unfold Hid; rw [HG.out]; exact decide_eq_true hg
        have HE : Hid (sel (gotP S) (k + 1) = sel (gotP S) k ++ [(k : Int)]) := sel_hit HG1.out
        have HSL := Lib.hid (sel_len (gotP S) k)
        have HO1 := Lib.hid (HO.out.go HB1.out)
        go_wp2_with (at_builtin; go_must (refine wpList_appI w1 rfl _ _ rfl rfl ws.heap.size _ _ k HO1.out HBr1.out.size (by have := HSL.out; omega) rfl rfl ?_); intro v4 w4 ho4 hb4)
        go_roundw
        case rel => exact ⟨k + 1, by omega, by go_num, by rw [HE.out]; exact ho4, HBr1.out.trans hb4⟩
        case measure => simp [intOf]; omega
      · have HG1 : Hid (gotP S k = false) := by unfold Hid; rw [HG.out]; exact decide_eq_false hg
        have HE : Hid (sel (gotP S) (k + 1) = sel (gotP S) k) := sel_miss HG1.out
        have HO1 := Lib.hid (HO.out.go HB1.out)
        go_wp2_with fail
        go_roundw
        case rel => exact ⟨k + 1, by omega, by go_num, by rw [HE.out]; exact HO1.out, HBr1.out⟩
        case measure => simp [intOf]; omega
    · have hke : k = S.np := by omega
      have HKE := Lib.hid hke
      clear hke
      go_wp2
      go_ret
      exact ⟨_, rfl, by have := HO.out; rw [HKE.out] at this; exact own_mono this HB.out.size, fin HB.out HBr.out⟩

end Go.Proofs.Ytffnlimgjnhmpaa
