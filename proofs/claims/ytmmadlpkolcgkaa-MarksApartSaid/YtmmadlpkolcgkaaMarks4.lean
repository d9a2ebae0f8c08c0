import Derived.Test.YtmmadlpkolcgkaaMarks2
namespace Go.Proofs.Ytmmadlpkolcgkaa
open Go.RowKit

def eAfter (B : Bk) (R : Fr) (f m : Int) : Int × Int :=
  if chk B R ≠ 0 then (0, chk B R) else if inPlace B R f m = false then (0, 1) else if R.X f.toNat m.toNat ≠ -1 then (0, 1)
  else if (sorts B R).length = 0 then (0, 3) else (afterOf B R f.toNat m.toNat, 0)

set_option maxHeartbeats 4000000 in
theorem mAfter_any (N : Nat) (v u : Value) (B : Bk) (R : Fr) (f m : Int) (w : World) (h : BookAt N w v B) (hf : FruitsAt N w u R) :
    Calls Try.prog 35 #[v, u, .agg #[.int .i64 f, .int .i64 m]] w fun e w' => e = .returned (.tuple #[.int .i64 (eAfter B R f m).1, .int .i64 (eAfter B R f m).2]) ∧ Below w.heap.size w w' := by
  have H : Hid (BookAt N w v B) := h
  have HF : Hid (FruitsAt N w u R) := hf
  obtain ⟨hN, a1, c1, a2, c2, a3, c3, rfl, h1, h2, h3⟩ := h
  obtain ⟨af, cf, rfl, hnf, hcf⟩ := hf
  have HCF : Hid _ := Lib.hid hcf
  clear h1 h2 h3 hcf
  by_cases hc : chk B R = 0
  case neg =>
    have hcb : (chk B R != 0) = true := by simp [hc]
    have HC : Hid (¬ chk B R = 0) := hc
    clear hc
    go_enter Try.func35, Try.ntmps35
    go_wp2_with (go_at_call 18; refine (mCheck_any N _ _ B R _ ((H.out.in_alloc _).in_alloc _) (RowsAt.mono HF.out (below2 hN _ _) (Nat.le_refl _))).mono ?_; rintro e w1 ⟨rfl, hb1⟩; have ch1 := chain2 hb1; have q0 := box_cell (ch_book ch1) 0 rfl; have q1 := box_cell (ch_book ch1) 1 rfl; have q2 := box_cell (ch_book ch1) 2 rfl; have q3 := box_cell (ch_book ch1) 3 rfl; have p0 := place_cell ch1 0 rfl; have p1 := place_cell ch1 1 rfl; clear hb1)
    go_ret2
    exact ⟨by rw [eAfter, if_pos HC.out]; rfl, below_of (ch_book ch1)⟩
  have HG : Hid (Good B R) := chk_good hc
  have hcb : (chk B R != 0) = false := by simp [hc]
  have HC : Hid (¬ chk B R ≠ 0) := by unfold Hid; simp [hc]
  clear hc
  cases hin : inPlace B R f m with
  | false =>
    have HIN : Hid _ := Lib.hid hin
    clear hin
    go_enter Try.func35, Try.ntmps35
    go_wp2_with (go_at_call 18; refine (mCheck_any N _ _ B R _ ((H.out.in_alloc _).in_alloc _) (RowsAt.mono HF.out (below2 hN _ _) (Nat.le_refl _))).mono ?_; rintro e w1 ⟨rfl, hb1⟩; have ch1 := chain2 hb1; have q0 := box_cell (ch_book ch1) 0 rfl; have q1 := box_cell (ch_book ch1) 1 rfl; have q2 := box_cell (ch_book ch1) 2 rfl; have q3 := box_cell (ch_book ch1) 3 rfl; have p0 := place_cell ch1 0 rfl; have p1 := place_cell ch1 1 rfl; clear hb1)
    have hSz : w.heap.size + 1 < w1.heap.size := by have := ch1.size; simp at this; omega
    have hSz0 : w.heap.size < w1.heap.size := by omega
    have hS0 : (∀ b o, b < w1.heap.size → w1.drew.cell? ⟨b, o, none⟩ = w1.cell? ⟨b, o, none⟩) ∧ Hid (Below w1.heap.size w1 w1.drew) := ⟨fun _ _ _ => rfl, (Below.refl _ _).drew⟩
    refine wp_region_held_drew (S := fun w' => (∀ b o, b < w1.heap.size → w'.cell? ⟨b, o, none⟩ = w1.cell? ⟨b, o, none⟩) ∧ Hid (Below w1.heap.size w1 w')) (by kernel_rfl) hS0 (fun hHeld => ?_)
    (refine wpAnyH_take (i := 0) (v := ?_) rfl (by kernel_rfl) (by kernel_rfl) (by kernel_rfl) (fun _ _ _ h => h) (Or.inl ⟨by rfl, ?_⟩) (by assumption) ?_; rotate_left; (focus (intro w hSw; (try dsimp only at hSw); go_simp; (try with_reducible rfl))); (try simp only [List.getElem_toArray, List.getElem_cons_zero, List.getElem_cons_succ, Act.put, List.setIfInBounds_toArray, List.set_cons_zero, List.set_cons_succ]))
    (refine wpAnyH_take (i := 1) (v := ?_) rfl (by kernel_rfl) (by kernel_rfl) (by kernel_rfl) (fun _ _ _ h => h) (Or.inl ⟨by rfl, ?_⟩) (by assumption) ?_; rotate_left; (focus (intro w hSw; (try dsimp only at hSw); go_simp; (try with_reducible rfl))); (try simp only [List.getElem_toArray, List.getElem_cons_zero, List.getElem_cons_succ, Act.put, List.setIfInBounds_toArray, List.set_cons_zero, List.set_cons_succ]))
    (refine wpAnyH_take (i := 2) (v := ?_) rfl (by kernel_rfl) (by kernel_rfl) (by kernel_rfl) (fun _ _ _ h => h) (Or.inl ⟨by rfl, ?_⟩) (by assumption) ?_; rotate_left; (focus (intro w hSw; (try dsimp only at hSw); go_simp; (try with_reducible rfl))); (try simp only [List.getElem_toArray, List.getElem_cons_zero, List.getElem_cons_succ, Act.put, List.setIfInBounds_toArray, List.set_cons_zero, List.set_cons_succ]))
    refine wpAnyH_ready (rs := [3]) (by kernel_rfl) (by simp) ?_
    refine AllReadyH.cons rfl (fun K hK => ?_) AllReadyH.nil
    go_simp
    go_at_call 75
    refine (misPlace_any N _ _ B R f m _ (H.out.chain (chain (ch_book ch1) (Below.refl _ _).drew)) (RowsAt.chain HF.out hN (chain (ch_book ch1) (Below.refl _ _).drew))).mono ?_
    rintro e w2 ⟨rfl, hb2⟩
    rw [HIN.out]
    have S1 : (∀ b o, b < w1.heap.size → w2.cell? ⟨b, o, none⟩ = w1.cell? ⟨b, o, none⟩) ∧ Hid (Below w1.heap.size w1 w2) := ⟨fun b o hb => hb2.cell (p := ⟨b, o, none⟩) hb, (Below.refl _ _).drew.trans hb2⟩
    refine hK.out _ _ S1 (fun hHeld => ?_)
    clear hK K
    (refine wpAnyH_take (i := 4) (v := ?_) rfl (by kernel_rfl) (by kernel_rfl) (by kernel_rfl) (fun _ _ _ h => h) (Or.inl ⟨by rfl, ?_⟩) (by assumption) ?_; rotate_left; (focus (intro w hSw; (try dsimp only at hSw); go_simp; (try with_reducible rfl))); (try simp only [List.getElem_toArray, List.getElem_cons_zero, List.getElem_cons_succ, Act.put, List.setIfInBounds_toArray, List.set_cons_zero, List.set_cons_succ]))
    (refine wpAnyH_take (i := 5) (v := ?_) rfl (by kernel_rfl) (by kernel_rfl) (by kernel_rfl) (fun _ _ _ h => h) (Or.inl ⟨by rfl, ?_⟩) (by assumption) ?_; rotate_left; (focus (intro w hSw; (try dsimp only at hSw); go_simp; (try with_reducible rfl))); (try simp only [List.getElem_toArray, List.getElem_cons_zero, List.getElem_cons_succ, Act.put, List.setIfInBounds_toArray, List.set_cons_zero, List.set_cons_succ]))
    (refine wpAnyH_take (i := 6) (v := undef) rfl (by kernel_rfl) (by kernel_rfl) (by kernel_rfl) (fun _ _ _ h => h) (Or.inr ⟨by rfl, rfl⟩) (by assumption) ?_; (try simp only [List.getElem_toArray, List.getElem_cons_zero, List.getElem_cons_succ, Act.put, List.setIfInBounds_toArray, List.set_cons_zero, List.set_cons_succ]))
    (refine wpAnyH_take (i := 7) (v := undef) rfl (by kernel_rfl) (by kernel_rfl) (by kernel_rfl) (fun _ _ _ h => h) (Or.inr ⟨by rfl, rfl⟩) (by assumption) ?_; (try simp only [List.getElem_toArray, List.getElem_cons_zero, List.getElem_cons_succ, Act.put, List.setIfInBounds_toArray, List.set_cons_zero, List.set_cons_succ]))
    (refine wpAnyH_take (i := 8) (v := undef) rfl (by kernel_rfl) (by kernel_rfl) (by kernel_rfl) (fun _ _ _ h => h) (Or.inr ⟨by rfl, rfl⟩) (by assumption) ?_; (try simp only [List.getElem_toArray, List.getElem_cons_zero, List.getElem_cons_succ, Act.put, List.setIfInBounds_toArray, List.set_cons_zero, List.set_cons_succ]))
    (refine wpAnyH_take (i := 9) (v := undef) rfl (by kernel_rfl) (by kernel_rfl) (by kernel_rfl) (fun _ _ _ h => h) (Or.inr ⟨by rfl, rfl⟩) (by assumption) ?_; (try simp only [List.getElem_toArray, List.getElem_cons_zero, List.getElem_cons_succ, Act.put, List.setIfInBounds_toArray, List.set_cons_zero, List.set_cons_succ]))
    (refine wpAnyH_take (i := 10) (v := undef) rfl (by kernel_rfl) (by kernel_rfl) (by kernel_rfl) (fun _ _ _ h => h) (Or.inr ⟨by rfl, rfl⟩) (by assumption) ?_; (try simp only [List.getElem_toArray, List.getElem_cons_zero, List.getElem_cons_succ, Act.put, List.setIfInBounds_toArray, List.set_cons_zero, List.set_cons_succ]))
    (refine wpAnyH_take (i := 11) (v := undef) rfl (by kernel_rfl) (by kernel_rfl) (by kernel_rfl) (fun _ _ _ h => h) (Or.inr ⟨by rfl, rfl⟩) (by assumption) ?_; (try simp only [List.getElem_toArray, List.getElem_cons_zero, List.getElem_cons_succ, Act.put, List.setIfInBounds_toArray, List.set_cons_zero, List.set_cons_succ]))
    (refine wpAnyH_take (i := 12) (v := undef) rfl (by kernel_rfl) (by kernel_rfl) (by kernel_rfl) (fun _ _ _ h => h) (Or.inr ⟨by rfl, rfl⟩) (by assumption) ?_; (try simp only [List.getElem_toArray, List.getElem_cons_zero, List.getElem_cons_succ, Act.put, List.setIfInBounds_toArray, List.set_cons_zero, List.set_cons_succ]))
    (refine wpAnyH_take (i := 13) (v := undef) rfl (by kernel_rfl) (by kernel_rfl) (by kernel_rfl) (fun _ _ _ h => h) (Or.inr ⟨by rfl, rfl⟩) (by assumption) ?_; (try simp only [List.getElem_toArray, List.getElem_cons_zero, List.getElem_cons_succ, Act.put, List.setIfInBounds_toArray, List.set_cons_zero, List.set_cons_succ]))
    (refine wpAnyH_take (i := 14) (v := undef) rfl (by kernel_rfl) (by kernel_rfl) (by kernel_rfl) (fun _ _ _ h => h) (Or.inr ⟨by rfl, rfl⟩) (by assumption) ?_; (try simp only [List.getElem_toArray, List.getElem_cons_zero, List.getElem_cons_succ, Act.put, List.setIfInBounds_toArray, List.set_cons_zero, List.set_cons_succ]))
    (refine wpAnyH_take (i := 15) (v := undef) rfl (by kernel_rfl) (by kernel_rfl) (by kernel_rfl) (fun _ _ _ h => h) (Or.inr ⟨by rfl, rfl⟩) (by assumption) ?_; (try simp only [List.getElem_toArray, List.getElem_cons_zero, List.getElem_cons_succ, Act.put, List.setIfInBounds_toArray, List.set_cons_zero, List.set_cons_succ]))
    (refine wpAnyH_take (i := 16) (v := ?_) rfl (by kernel_rfl) (by kernel_rfl) (by kernel_rfl) (fun _ _ _ h => h) (Or.inl ⟨by rfl, ?_⟩) (by assumption) ?_; rotate_left; (focus (intro w hSw; (try dsimp only at hSw); go_simp; (try with_reducible rfl))); (try simp only [List.getElem_toArray, List.getElem_cons_zero, List.getElem_cons_succ, Act.put, List.setIfInBounds_toArray, List.set_cons_zero, List.set_cons_succ]))
    refine wpAnyH_done (by kernel_rfl) ?_ _
    go_wp2
    go_ret2
    exact ⟨by rw [eAfter, if_neg HC.out, if_pos HIN.out]; rfl, below_of (ch_book (chain2s ch1 S1.2.out))⟩
  | true =>
    obtain ⟨a, b, rfl, rfl, ha, hb⟩ := in_place hin
    have HIN : Hid _ := Lib.hid hin
    have HI2 : Hid (¬ inPlace B R a b = false) := by unfold Hid; rw [hin]; simp
    clear hin
    obtain ⟨b4, off4, rfl, hb4, hr4⟩ := HCF.out (by omega)
    obtain ⟨r4, hcell4, ao, cap, rfl, hL, hcr⟩ := hr4 a ha
    have HL : Hid (R.L a = B.nv) := HG.out.L a ha
    have hbL : (b : Int) < (R.L a : Int) := by rw [HL.out]; omega
    obtain ⟨b5, off5, rfl, hb5, hr5⟩ := hcr (by have := HL.out; omega)
    obtain ⟨r5, hcell5, rfl⟩ := hr5 b (by have := HL.out; omega)
    have HC4 : Hid _ := Lib.hid hcell4
    have HC5 : Hid _ := Lib.hid hcell5
    clear hr4 hcr hr5 hcell4 hcell5
    by_cases hx : R.X a b = -1
    case neg =>
      have hxe : (R.X a b != -1) = true := by simp [hx]
      have HX : Hid (R.X a b ≠ -1) := hx
      clear hx
      go_enter Try.func35, Try.ntmps35
      go_wp2_with (go_at_call 18; refine (mCheck_any N _ _ B R _ ((H.out.in_alloc _).in_alloc _) (RowsAt.mono HF.out (below2 hN _ _) (Nat.le_refl _))).mono ?_; rintro e w1 ⟨rfl, hb1⟩; have ch1 := chain2 hb1; have q0 := box_cell (ch_book ch1) 0 rfl; have q1 := box_cell (ch_book ch1) 1 rfl; have q2 := box_cell (ch_book ch1) 2 rfl; have q3 := box_cell (ch_book ch1) 3 rfl; have p0 := place_cell ch1 0 rfl; have p1 := place_cell ch1 1 rfl; clear hb1)
      have hSz : w.heap.size + 1 < w1.heap.size := by have := ch1.size; simp at this; omega
      have hSz0 : w.heap.size < w1.heap.size := by omega
      have l4 : b4 < w1.heap.size := by omega
      have l5 : b5 < w1.heap.size := by omega
      have y4 := ((below_of (ch_book ch1)).cell (p := ⟨b4, off4 + a, none⟩) (by show b4 < _; omega)).trans HC4.out
      have y5 := ((below_of (ch_book ch1)).cell (p := ⟨b5, off5 + b, none⟩) (by show b5 < _; omega)).trans HC5.out
      have hS0 : (∀ b o, b < w1.heap.size → w1.drew.cell? ⟨b, o, none⟩ = w1.cell? ⟨b, o, none⟩) ∧ Hid (Below w1.heap.size w1 w1.drew) := ⟨fun _ _ _ => rfl, (Below.refl _ _).drew⟩
      go_region_held3 (fun w' => (∀ b o, b < w1.heap.size → w'.cell? ⟨b, o, none⟩ = w1.cell? ⟨b, o, none⟩) ∧ Hid (Below w1.heap.size w1 w')) (assumption)
        (first | (go_at_call 75; refine (misPlace_any N _ _ B R a b _ (H.out.chain (chain (ch_book ch1) (Below.refl _ _).drew)) (RowsAt.chain HF.out hN (chain (ch_book ch1) (Below.refl _ _).drew))).mono ?_; rintro e w2 ⟨rfl, hb2⟩; rw [HIN.out]; have S1 : (∀ b o, b < w1.heap.size → w2.cell? ⟨b, o, none⟩ = w1.cell? ⟨b, o, none⟩) ∧ Hid (Below w1.heap.size w1 w2) := ⟨fun b o hb => hb2.cell (p := ⟨b, o, none⟩) hb, (Below.refl _ _).drew.trans hb2⟩))
      all_goals go_wp2
      go_ret2
      exact ⟨by rw [eAfter, if_neg HC.out, if_neg HI2.out, if_pos (by exact HX.out)]; rfl, below_of (ch_book (chain2s ch1 S1.2.out))⟩
    have hxe : (R.X a b != -1) = false := by simp [hx]
    have HX : Hid (¬ R.X a b ≠ -1) := by unfold Hid; simp [hx]
    clear hx
    by_cases h0 : (sorts B R).length = 0
    · have h0b : (((sorts B R).length : Int) == 0) = true := by simpa using h0
      have H0 : Hid ((sorts B R).length = 0) := h0
      clear h0
      go_enter Try.func35, Try.ntmps35
      go_wp2_with (go_at_call 18; refine (mCheck_any N _ _ B R _ ((H.out.in_alloc _).in_alloc _) (RowsAt.mono HF.out (below2 hN _ _) (Nat.le_refl _))).mono ?_; rintro e w1 ⟨rfl, hb1⟩; have ch1 := chain2 hb1; have q0 := box_cell (ch_book ch1) 0 rfl; have q1 := box_cell (ch_book ch1) 1 rfl; have q2 := box_cell (ch_book ch1) 2 rfl; have q3 := box_cell (ch_book ch1) 3 rfl; have p0 := place_cell ch1 0 rfl; have p1 := place_cell ch1 1 rfl; clear hb1)
      have hSz : w.heap.size + 1 < w1.heap.size := by have := ch1.size; simp at this; omega
      have hSz0 : w.heap.size < w1.heap.size := by omega
      have l4 : b4 < w1.heap.size := by omega
      have l5 : b5 < w1.heap.size := by omega
      have y4 := ((below_of (ch_book ch1)).cell (p := ⟨b4, off4 + a, none⟩) (by show b4 < _; omega)).trans HC4.out
      have y5 := ((below_of (ch_book ch1)).cell (p := ⟨b5, off5 + b, none⟩) (by show b5 < _; omega)).trans HC5.out
      have hS0 : (∀ b o, b < w1.heap.size → w1.drew.cell? ⟨b, o, none⟩ = w1.cell? ⟨b, o, none⟩) ∧ Hid (Below w1.heap.size w1 w1.drew) := ⟨fun _ _ _ => rfl, (Below.refl _ _).drew⟩
      go_region_held3 (fun w' => (∀ b o, b < w1.heap.size → w'.cell? ⟨b, o, none⟩ = w1.cell? ⟨b, o, none⟩) ∧ Hid (Below w1.heap.size w1 w')) (assumption)
        (first | (go_at_call 75; refine (misPlace_any N _ _ B R a b _ (H.out.chain (chain (ch_book ch1) (Below.refl _ _).drew)) (RowsAt.chain HF.out hN (chain (ch_book ch1) (Below.refl _ _).drew))).mono ?_; rintro e w2 ⟨rfl, hb2⟩; rw [HIN.out]; have S1 : (∀ b o, b < w1.heap.size → w2.cell? ⟨b, o, none⟩ = w1.cell? ⟨b, o, none⟩) ∧ Hid (Below w1.heap.size w1 w2) := ⟨fun b o hb => hb2.cell (p := ⟨b, o, none⟩) hb, (Below.refl _ _).drew.trans hb2⟩))
      all_goals
        obtain ⟨S2, S3⟩ := S1
        have ch2 := chain2s ch1 S3.out
        go_wp2_with (first
          | (go_at_call 71; refine (sorts_any N _ B R _ ((box_of (H.out.chain (ch_book ch2)) (RowsAt.chain HF.out hN (ch_book ch2))).in_alloc _) HG.out).mono ?_; rintro e w3 ⟨u, rfl, ho, hb3⟩; obtain ⟨_, _, rfl⟩ := ho.form; have ch3 := chain2s (ch2.alloc (by have := ch2.size; simpa using this) _) hb3; have k3 := chain (chain0 _ _) hb3; have z0 := box_cell k3 0 rfl; have z1 := box_cell k3 1 rfl; have z2 := box_cell k3 2 rfl; have z3 := box_cell k3 3 rfl; have z4 := box_cell k3 4 rfl; have p0 := place_cell ch3 0 rfl; have p1 := place_cell ch3 1 rfl)
          | (go_at_call 79; refine (after_any N _ B R a b _ (box_of (H.out.chain (ch_book ch3)) (RowsAt.chain HF.out hN (ch_book ch3))) HG.out ha hb).mono ?_; rintro e w4 ⟨rfl, hb4'⟩))
        go_ret2
        exact ⟨by rw [eAfter, if_neg HC.out, if_neg HI2.out, if_neg (by exact HX.out), if_pos H0.out]; rfl, below_of (ch_book ch3)⟩
    · have h0b : (((sorts B R).length : Int) == 0) = false := by simpa using h0
      have H0 : Hid (¬ (sorts B R).length = 0) := h0
      clear h0
      go_enter Try.func35, Try.ntmps35
      go_wp2_with (go_at_call 18; refine (mCheck_any N _ _ B R _ ((H.out.in_alloc _).in_alloc _) (RowsAt.mono HF.out (below2 hN _ _) (Nat.le_refl _))).mono ?_; rintro e w1 ⟨rfl, hb1⟩; have ch1 := chain2 hb1; have q0 := box_cell (ch_book ch1) 0 rfl; have q1 := box_cell (ch_book ch1) 1 rfl; have q2 := box_cell (ch_book ch1) 2 rfl; have q3 := box_cell (ch_book ch1) 3 rfl; have p0 := place_cell ch1 0 rfl; have p1 := place_cell ch1 1 rfl; clear hb1)
      have hSz : w.heap.size + 1 < w1.heap.size := by have := ch1.size; simp at this; omega
      have hSz0 : w.heap.size < w1.heap.size := by omega
      have l4 : b4 < w1.heap.size := by omega
      have l5 : b5 < w1.heap.size := by omega
      have y4 := ((below_of (ch_book ch1)).cell (p := ⟨b4, off4 + a, none⟩) (by show b4 < _; omega)).trans HC4.out
      have y5 := ((below_of (ch_book ch1)).cell (p := ⟨b5, off5 + b, none⟩) (by show b5 < _; omega)).trans HC5.out
      have hS0 : (∀ b o, b < w1.heap.size → w1.drew.cell? ⟨b, o, none⟩ = w1.cell? ⟨b, o, none⟩) ∧ Hid (Below w1.heap.size w1 w1.drew) := ⟨fun _ _ _ => rfl, (Below.refl _ _).drew⟩
      go_region_held3 (fun w' => (∀ b o, b < w1.heap.size → w'.cell? ⟨b, o, none⟩ = w1.cell? ⟨b, o, none⟩) ∧ Hid (Below w1.heap.size w1 w')) (assumption)
        (first | (go_at_call 75; refine (misPlace_any N _ _ B R a b _ (H.out.chain (chain (ch_book ch1) (Below.refl _ _).drew)) (RowsAt.chain HF.out hN (chain (ch_book ch1) (Below.refl _ _).drew))).mono ?_; rintro e w2 ⟨rfl, hb2⟩; rw [HIN.out]; have S1 : (∀ b o, b < w1.heap.size → w2.cell? ⟨b, o, none⟩ = w1.cell? ⟨b, o, none⟩) ∧ Hid (Below w1.heap.size w1 w2) := ⟨fun b o hb => hb2.cell (p := ⟨b, o, none⟩) hb, (Below.refl _ _).drew.trans hb2⟩))
      all_goals
        obtain ⟨S2, S3⟩ := S1
        have ch2 := chain2s ch1 S3.out
        go_wp2_with (first
          | (go_at_call 71; refine (sorts_any N _ B R _ ((box_of (H.out.chain (ch_book ch2)) (RowsAt.chain HF.out hN (ch_book ch2))).in_alloc _) HG.out).mono ?_; rintro e w3 ⟨u, rfl, ho, hb3⟩; obtain ⟨_, _, rfl⟩ := ho.form; have ch3 := chain2s (ch2.alloc (by have := ch2.size; simpa using this) _) hb3; have k3 := chain (chain0 _ _) hb3; have z0 := box_cell k3 0 rfl; have z1 := box_cell k3 1 rfl; have z2 := box_cell k3 2 rfl; have z3 := box_cell k3 3 rfl; have z4 := box_cell k3 4 rfl; have p0 := place_cell ch3 0 rfl; have p1 := place_cell ch3 1 rfl)
          | (go_at_call 79; refine (after_any N _ B R a b _ (box_of (H.out.chain (ch_book ch3)) (RowsAt.chain HF.out hN (ch_book ch3))) HG.out ha hb).mono ?_; rintro e w4 ⟨rfl, hb4'⟩))
        go_ret2
        exact ⟨by rw [eAfter, if_neg HC.out, if_neg HI2.out, if_neg (by exact HX.out), if_neg H0.out]; rfl, below_of (ch_book (chain2s ch3 hb4'))⟩

end Go.Proofs.Ytmmadlpkolcgkaa
