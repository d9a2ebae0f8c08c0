/-
  JRefE: IsBetter, PlaceOf and Get of the reference.
-/
import Derived.Test.YtffnlimgjnhmpaaJRefB
import Derived.Test.YtffnlimgjnhmpaaJRefA
namespace Go.Proofs.Ytffnlimgjnhmpaa
open Go.RowKit

/-- a show whose totals can be reckoned -/
structure RdS (S : JB) : Prop where
  D0 : 0 ≤ S.D
  len : ∀ i, i < S.np → 2 * S.D ≤ ((S.pts i).length : Int) ∧ (S.pts i).length ≤ 40
  pt : ∀ i, i < S.np → ∀ x, x ∈ S.pts i → -1 ≤ x ∧ x ≤ 20
  np : S.np ≤ 40
theorem GoodS.rd {S : JB} (h : GoodS S) : RdS S := ⟨h.D0, fun i hi => by have := h.len i hi; have := h.DJ; have := h.J5; omega, h.pt, by have := h.np; omega⟩

set_option maxHeartbeats 6400000 in
set_option maxRecDepth 100000 in
theorem isBetter_any (N : Nat) (v : Value) (S : JB) (i j : Nat) (w : World) (h : ShowAt N w v S) (hR : RdS S) (hi : i < S.np) (hj : j < S.np) :
    Calls Try.prog 23 #[v, .int .i64 i, .int .i64 j] w fun e w' => e = .returned (.bool (bet (totI S) S.sz i j)) ∧ Below w.heap.size w w' := by
  obtain ⟨a1, c1, rfl⟩ := h.form
  obtain ⟨ws, hws, HB, hsz, hblk⟩ := box1 w (.cells #[.int .i64 S.J, .int .i64 S.D, .int .i64 S.Z, .slice a1 S.np c1] 24)
  have q0 := cell_blk hblk 0 rfl
  have q1 := cell_blk hblk 1 rfl
  have q2 := cell_blk hblk 2 rfl
  have q3 := cell_blk hblk 3 rfl
  have HBK := Lib.hid (h.go HB.out)
  have HB0 : Hid (Below ws.heap.size ws ws) := Below.refl _ _
  have HNS : Hid (N ≤ ws.heap.size) := HBK.out.1
  have hlen := h.len
  clear hblk h
  obtain ⟨A, C, hcap, _, hrows, hcells⟩ := HBK.out.plates.open
  obtain ⟨b, off, rfl, hbN, hrr⟩ := hcells (by omega)
  obtain ⟨hi0, hi1⟩ := hrr i hi
  obtain ⟨hj0, hj1⟩ := hrr j hj
  have HLi := Lib.hid (hrows i hi).2
  have HLj := Lib.hid (hrows j hj).2
  obtain ⟨d, hd⟩ : ∃ d : Nat, S.D = d := ⟨S.D.toNat, by have := hR.D0; omega⟩
  have HTi : Hid (totI S i = tot d (S.pts i)) := by unfold Hid totI; rw [hd]; rfl
  have HTj : Hid (totI S j = tot d (S.pts j)) := by unfold Hid totI; rw [hd]; rfl
  have HLEi := Lib.hid (show 2 * d ≤ (S.pts i).length ∧ (S.pts i).length ≤ 40 by have := hR.len i hi; omega)
  have HLEj := Lib.hid (show 2 * d ≤ (S.pts j).length ∧ (S.pts j).length ≤ 40 by have := hR.len j hj; omega)
  have HPi := Lib.hid (show ∀ x, x ∈ S.pts i → -1 ≤ x ∧ x ≤ 1000 from fun x hx => by have := hR.pt i hi x hx; omega)
  have HPj := Lib.hid (show ∀ x, x ∈ S.pts j → -1 ≤ x ∧ x ≤ 1000 from fun x hx => by have := hR.pt j hj x hx; omega)
  obtain ⟨ti, hti⟩ : ∃ t, totI S i = t := ⟨_, rfl⟩
  obtain ⟨tj, htj⟩ : ∃ t, totI S j = t := ⟨_, rfl⟩
  obtain ⟨si, hsi⟩ : ∃ t, S.sz i = t := ⟨_, rfl⟩
  obtain ⟨sj, hsj⟩ : ∃ t, S.sz j = t := ⟨_, rfl⟩
  rw [hti] at HTi
  rw [htj] at HTj
  rw [hsi] at hi0
  rw [hsj] at hj0
  rw [hd] at q1
  have HBE : Hid (bet (totI S) S.sz i j = (decide (tj < ti) || (decide (ti = tj) && decide (sj < si)))) := by unfold Hid bet; rw [hti, htj, hsi, hsj]
  have hii : (i : Int) < (S.np : Int) := by omega
  have hji : (j : Int) < (S.np : Int) := by omega
  have hbw : b < ws.heap.size := by have := HNS.out; omega
  obtain ⟨li, hli⟩ : ∃ l, (S.pts i).length = l := ⟨_, rfl⟩
  obtain ⟨lj, hlj⟩ : ∃ l, (S.pts j).length = l := ⟨_, rfl⟩
  rw [hli] at hi1 HLi
  rw [hlj] at hj1 HLj
  clear hrr hrows hcells hR hd hti htj hsi hsj hli hlj
  go_enter Try.func23, Try.ntmps23
  go_upto_region 1 with fail
  refine wp_region_held_drew (S := fun w' => (∀ b o, b < ws.heap.size → w'.cell? ⟨b, o, none⟩ = ws.cell? ⟨b, o, none⟩) ∧ Hid (Below ws.heap.size ws w')) (by kernel_rfl) (old_of HB0.out.drew) (fun hHeld => ?_)
  (refine wpAnyH_take (i := 0) (v := ?_) rfl (by kernel_rfl) (by kernel_rfl) (by kernel_rfl) (fun _ _ _ h => h) (Or.inl ⟨by rfl, ?_⟩) (by assumption) ?_; rotate_left; (focus (intro w hSw; (try dsimp only at hSw); go_simp; (try with_reducible rfl))); (try simp only [List.getElem_toArray, List.getElem_cons_zero, List.getElem_cons_succ, Act.put, List.setIfInBounds_toArray, List.set_cons_zero, List.set_cons_succ])); (refine wpAnyH_take (i := 1) (v := ?_) rfl (by kernel_rfl) (by kernel_rfl) (by kernel_rfl) (fun _ _ _ h => h) (Or.inl ⟨by rfl, ?_⟩) (by assumption) ?_; rotate_left; (focus (intro w hSw; (try dsimp only at hSw); go_simp; (try with_reducible rfl))); (try simp only [List.getElem_toArray, List.getElem_cons_zero, List.getElem_cons_succ, Act.put, List.setIfInBounds_toArray, List.set_cons_zero, List.set_cons_succ])); (refine wpAnyH_take (i := 2) (v := ?_) rfl (by kernel_rfl) (by kernel_rfl) (by kernel_rfl) (fun _ _ _ h => h) (Or.inl ⟨by rfl, ?_⟩) (by assumption) ?_; rotate_left; (focus (intro w hSw; (try dsimp only at hSw); go_simp; (try with_reducible rfl))); (try simp only [List.getElem_toArray, List.getElem_cons_zero, List.getElem_cons_succ, Act.put, List.setIfInBounds_toArray, List.set_cons_zero, List.set_cons_succ])); (refine wpAnyH_take (i := 3) (v := ?_) rfl (by kernel_rfl) (by kernel_rfl) (by kernel_rfl) (fun _ _ _ h => h) (Or.inl ⟨by rfl, ?_⟩) (by assumption) ?_; rotate_left; (focus (intro w hSw; (try dsimp only at hSw); go_simp; (try with_reducible rfl))); (try simp only [List.getElem_toArray, List.getElem_cons_zero, List.getElem_cons_succ, Act.put, List.setIfInBounds_toArray, List.set_cons_zero, List.set_cons_succ])); (refine wpAnyH_take (i := 4) (v := ?_) rfl (by kernel_rfl) (by kernel_rfl) (by kernel_rfl) (fun _ _ _ h => h) (Or.inl ⟨by rfl, ?_⟩) (by assumption) ?_; rotate_left; (focus (intro w hSw; (try dsimp only at hSw); go_simp; (try with_reducible rfl))); (try simp only [List.getElem_toArray, List.getElem_cons_zero, List.getElem_cons_succ, Act.put, List.setIfInBounds_toArray, List.set_cons_zero, List.set_cons_succ])); (refine wpAnyH_take (i := 5) (v := ?_) rfl (by kernel_rfl) (by kernel_rfl) (by kernel_rfl) (fun _ _ _ h => h) (Or.inl ⟨by rfl, ?_⟩) (by assumption) ?_; rotate_left; (focus (intro w hSw; (try dsimp only at hSw); go_simp; (try with_reducible rfl))); (try simp only [List.getElem_toArray, List.getElem_cons_zero, List.getElem_cons_succ, Act.put, List.setIfInBounds_toArray, List.set_cons_zero, List.set_cons_succ])); (refine wpAnyH_take (i := 6) (v := ?_) rfl (by kernel_rfl) (by kernel_rfl) (by kernel_rfl) (fun _ _ _ h => h) (Or.inl ⟨by rfl, ?_⟩) (by assumption) ?_; rotate_left; (focus (intro w hSw; (try dsimp only at hSw); go_simp; (try with_reducible rfl))); (try simp only [List.getElem_toArray, List.getElem_cons_zero, List.getElem_cons_succ, Act.put, List.setIfInBounds_toArray, List.set_cons_zero, List.set_cons_succ])); (refine wpAnyH_take (i := 7) (v := ?_) rfl (by kernel_rfl) (by kernel_rfl) (by kernel_rfl) (fun _ _ _ h => h) (Or.inl ⟨by rfl, ?_⟩) (by assumption) ?_; rotate_left; (focus (intro w hSw; (try dsimp only at hSw); go_simp; (try with_reducible rfl))); (try simp only [List.getElem_toArray, List.getElem_cons_zero, List.getElem_cons_succ, Act.put, List.setIfInBounds_toArray, List.set_cons_zero, List.set_cons_succ]))
  (refine wpAnyH_take (i := 9) (v := ?_) rfl (by kernel_rfl) (by kernel_rfl) (by kernel_rfl) (fun _ _ _ h => h) (Or.inl ⟨by rfl, ?_⟩) (by assumption) ?_; rotate_left; (focus (intro w hSw; (try dsimp only at hSw); go_simp; (try with_reducible rfl))); (try simp only [List.getElem_toArray, List.getElem_cons_zero, List.getElem_cons_succ, Act.put, List.setIfInBounds_toArray, List.set_cons_zero, List.set_cons_succ])); (refine wpAnyH_take (i := 10) (v := ?_) rfl (by kernel_rfl) (by kernel_rfl) (by kernel_rfl) (fun _ _ _ h => h) (Or.inl ⟨by rfl, ?_⟩) (by assumption) ?_; rotate_left; (focus (intro w hSw; (try dsimp only at hSw); go_simp; (try with_reducible rfl))); (try simp only [List.getElem_toArray, List.getElem_cons_zero, List.getElem_cons_succ, Act.put, List.setIfInBounds_toArray, List.set_cons_zero, List.set_cons_succ])); (refine wpAnyH_take (i := 11) (v := ?_) rfl (by kernel_rfl) (by kernel_rfl) (by kernel_rfl) (fun _ _ _ h => h) (Or.inl ⟨by rfl, ?_⟩) (by assumption) ?_; rotate_left; (focus (intro w hSw; (try dsimp only at hSw); go_simp; (try with_reducible rfl))); (try simp only [List.getElem_toArray, List.getElem_cons_zero, List.getElem_cons_succ, Act.put, List.setIfInBounds_toArray, List.set_cons_zero, List.set_cons_succ])); (refine wpAnyH_take (i := 12) (v := ?_) rfl (by kernel_rfl) (by kernel_rfl) (by kernel_rfl) (fun _ _ _ h => h) (Or.inl ⟨by rfl, ?_⟩) (by assumption) ?_; rotate_left; (focus (intro w hSw; (try dsimp only at hSw); go_simp; (try with_reducible rfl))); (try simp only [List.getElem_toArray, List.getElem_cons_zero, List.getElem_cons_succ, Act.put, List.setIfInBounds_toArray, List.set_cons_zero, List.set_cons_succ])); (refine wpAnyH_take (i := 13) (v := ?_) rfl (by kernel_rfl) (by kernel_rfl) (by kernel_rfl) (fun _ _ _ h => h) (Or.inl ⟨by rfl, ?_⟩) (by assumption) ?_; rotate_left; (focus (intro w hSw; (try dsimp only at hSw); go_simp; (try with_reducible rfl))); (try simp only [List.getElem_toArray, List.getElem_cons_zero, List.getElem_cons_succ, Act.put, List.setIfInBounds_toArray, List.set_cons_zero, List.set_cons_succ])); (refine wpAnyH_take (i := 14) (v := ?_) rfl (by kernel_rfl) (by kernel_rfl) (by kernel_rfl) (fun _ _ _ h => h) (Or.inl ⟨by rfl, ?_⟩) (by assumption) ?_; rotate_left; (focus (intro w hSw; (try dsimp only at hSw); go_simp; (try with_reducible rfl))); (try simp only [List.getElem_toArray, List.getElem_cons_zero, List.getElem_cons_succ, Act.put, List.setIfInBounds_toArray, List.set_cons_zero, List.set_cons_succ])); (refine wpAnyH_take (i := 15) (v := ?_) rfl (by kernel_rfl) (by kernel_rfl) (by kernel_rfl) (fun _ _ _ h => h) (Or.inl ⟨by rfl, ?_⟩) (by assumption) ?_; rotate_left; (focus (intro w hSw; (try dsimp only at hSw); go_simp; (try with_reducible rfl))); (try simp only [List.getElem_toArray, List.getElem_cons_zero, List.getElem_cons_succ, Act.put, List.setIfInBounds_toArray, List.set_cons_zero, List.set_cons_succ])); (refine wpAnyH_take (i := 16) (v := ?_) rfl (by kernel_rfl) (by kernel_rfl) (by kernel_rfl) (fun _ _ _ h => h) (Or.inl ⟨by rfl, ?_⟩) (by assumption) ?_; rotate_left; (focus (intro w hSw; (try dsimp only at hSw); go_simp; (try with_reducible rfl))); (try simp only [List.getElem_toArray, List.getElem_cons_zero, List.getElem_cons_succ, Act.put, List.setIfInBounds_toArray, List.set_cons_zero, List.set_cons_succ]))
  refine wpAnyH_ready (rs := [8]) (by kernel_rfl) (by simp) ?_; refine AllReadyH.cons rfl (fun K hK => ?_) AllReadyH.nil; go_simp
  go_at_call 20
  refine (totalOf_any N _ (S.pts i) d _ (HLi.out.go HNS.out HB0.out.drew) (by have := HNS.out; simpa using this) HLEi.out.2 HPi.out HLEi.out.1).mono ?_
  rw [← HTi.out]
  rintro e w1 ⟨rfl, hb1⟩
  have S1 := old_of (bel (HB0.out.drew) hb1)
  have HB1 := S1.2
  clear hb1
  refine hK.out _ _ S1 (fun hHeld => ?_); clear hK K; (try simp only [List.getElem_toArray, List.getElem_cons_zero, List.getElem_cons_succ, Act.put, List.setIfInBounds_toArray, List.set_cons_zero, List.set_cons_succ])
  refine wpAnyH_ready (rs := [17]) (by kernel_rfl) (by simp) ?_; refine AllReadyH.cons rfl (fun K hK => ?_) AllReadyH.nil; go_simp
  go_at_call 20
  refine (totalOf_any N _ (S.pts j) d _ (HLj.out.go HNS.out HB1.out) (Nat.le_trans HNS.out HB1.out.size) HLEj.out.2 HPj.out HLEj.out.1).mono ?_
  rw [← HTj.out]
  rintro e w2 ⟨rfl, hb2⟩
  have S2 := old_of (bel HB1.out hb2)
  have HB2 := S2.2
  clear hb2 S1
  refine hK.out _ _ S2 (fun hHeld => ?_); clear hK K; (try simp only [List.getElem_toArray, List.getElem_cons_zero, List.getElem_cons_succ, Act.put, List.setIfInBounds_toArray, List.set_cons_zero, List.set_cons_succ])
  (refine wpAnyH_take (i := 18) (v := ?_) rfl (by kernel_rfl) (by kernel_rfl) (by kernel_rfl) (fun _ _ _ h => h) (Or.inl ⟨by rfl, ?_⟩) (by assumption) ?_; rotate_left; (focus (intro w hSw; (try dsimp only at hSw); go_simp; (try with_reducible rfl))); (try simp only [List.getElem_toArray, List.getElem_cons_zero, List.getElem_cons_succ, Act.put, List.setIfInBounds_toArray, List.set_cons_zero, List.set_cons_succ])); (refine wpAnyH_take (i := 19) (v := ?_) rfl (by kernel_rfl) (by kernel_rfl) (by kernel_rfl) (fun _ _ _ h => h) (Or.inl ⟨by rfl, ?_⟩) (by assumption) ?_; rotate_left; (focus (intro w hSw; (try dsimp only at hSw); go_simp; (try with_reducible rfl))); (try simp only [List.getElem_toArray, List.getElem_cons_zero, List.getElem_cons_succ, Act.put, List.setIfInBounds_toArray, List.set_cons_zero, List.set_cons_succ]))
  refine wpAnyH_done (by kernel_rfl) ?_ _; clear hHeld
  have c2 := S2.1
  clear S2
  have hb := HBE.out
  have HB2' := HB2
  by_cases h1 : tj < ti
  · have h1b : decide (tj < ti) = true := decide_eq_true h1
    have HR : Hid (bet (totI S) S.sz i j = true) := by unfold Hid; rw [hb, h1b]; rfl
    clear h1 hb
    go_wp2
    go_quiet (fail)
    go_wp2
    go_ret
    exact ⟨ret_bool HR.out.symm, fin HB.out (HB2.out.trans (below_drewN (Below.refl _ _) _))⟩
  · have h1b : decide (tj < ti) = false := decide_eq_false h1
    by_cases h2 : ti = tj
    · have h2b : (ti == tj) = true := by simp [h2]
      have HR : Hid (bet (totI S) S.sz i j = decide (sj < si)) := by unfold Hid; rw [hb, h1b, decide_eq_true h2]; rfl
      clear h1 h2 hb
      go_wp2
      go_quiet (fail)
      go_wp2
      go_ret
      exact ⟨ret_bool HR.out.symm, fin HB.out (HB2.out.trans (below_drewN (Below.refl _ _) _))⟩
    · have h2b : (ti == tj) = false := by simp [h2]
      have HR : Hid (bet (totI S) S.sz i j = false) := by unfold Hid; rw [hb, h1b, decide_eq_false h2]; rfl
      clear h1 h2 hb
      go_wp2
      go_quiet (fail)
      go_wp2
      go_ret
      exact ⟨ret_bool HR.out.symm, fin HB.out (HB2.out.trans (below_drewN (Below.refl _ _) _))⟩

end Go.Proofs.Ytffnlimgjnhmpaa
