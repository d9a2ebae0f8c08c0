/-
  JKE: scores and how they are compared.
-/
import Derived.Test.YtffnlimgjnhmpaaJKC
namespace Go.Proofs.Ytffnlimgjnhmpaa
open Go.RowKit

def cmp3 (a b : Int) : Int := if a < b then -1 else if b < a then 1 else 0
set_option maxHeartbeats 800000 in
theorem compare_any (a b : Int) (w : World) : Calls Try.prog 107 #[.int .i64 a, .int .i64 b] w fun e w' => e = .returned (.int .i64 (cmp3 a b)) ∧ w' = w := by
  by_cases h1 : a < b
  · have HE : Hid (cmp3 a b = -1) := by unfold Hid cmp3; rw [if_pos h1]
    go_enter Try.func107, Try.ntmps107
    go_wp2_with (go_at_call 115; refine (isNaN_any _ _).mono ?_; rintro e w1 ⟨rfl, hw1⟩; rw [hw1]; clear hw1)
    go_ret
    exact ⟨ret_int HE.out.symm, rfl⟩
  · by_cases h2 : b < a
    · have HE : Hid (cmp3 a b = 1) := by unfold Hid cmp3; rw [if_neg h1, if_pos h2]
      go_enter Try.func107, Try.ntmps107
      go_wp2_with (go_at_call 115; refine (isNaN_any _ _).mono ?_; rintro e w1 ⟨rfl, hw1⟩; rw [hw1]; clear hw1)
      go_ret
      exact ⟨ret_int HE.out.symm, rfl⟩
    · have HE : Hid (cmp3 a b = 0) := by unfold Hid cmp3; rw [if_neg h1, if_neg h2]
      go_enter Try.func107, Try.ntmps107
      go_wp2_with (go_at_call 115; refine (isNaN_any _ _).mono ?_; rintro e w1 ⟨rfl, hw1⟩; rw [hw1]; clear hw1)
      go_ret
      exact ⟨ret_int HE.out.symm, rfl⟩

/-- the first of two that is not 0 -/
def or2 (a b : Int) : Int := if a = 0 then b else a
set_option maxHeartbeats 1600000 in
theorem or_any (g : Nat) (a b : Int) (w : World) (h0 : w.cell? ⟨g, 0, none⟩ = some (.int .i64 a)) (h1 : w.cell? ⟨g, 1, none⟩ = some (.int .i64 b)) :
    Calls Try.prog 106 #[.slice (some ⟨g, 0, none⟩) 2 2] w fun e w' => e = .returned (.int .i64 (or2 a b)) ∧ w' = w := by
  go_enter Try.func106, Try.ntmps106
  go_wp2_with fail
  go_loop [8] (fun i => (i = .int .i64 0) ∨ (i = .int .i64 1 ∧ Hid (a = 0)) ∨ (i = .int .i64 2 ∧ Hid (a = 0 ∧ b = 0))) (fun i => 2 - (intOf i).toNat)
  case atStart => exact .inl rfl
  case round =>
    rcases hrel with rfl | ⟨rfl, HA⟩ | ⟨rfl, HA⟩
    · by_cases ha : a = 0
      · have hb : (a != 0) = false := by simp [ha]
        have HA := Lib.hid ha
        clear ha
        go_wp2_with fail
        go_round
        case rel => exact .inr (.inl ⟨rfl, HA⟩)
        case measure => simp [intOf]
      · have hb : (a != 0) = true := by simp [ha]
        have HE : Hid (or2 a b = a) := if_neg ha
        clear ha
        go_wp2_with fail
        go_ret
        exact ⟨ret_int HE.out.symm, rfl⟩
    · by_cases hb0 : b = 0
      · have hb : (b != 0) = false := by simp [hb0]
        have HB := Lib.hid hb0
        clear hb0
        go_wp2_with fail
        go_round
        case rel => exact .inr (.inr ⟨rfl, HA.out, HB.out⟩)
        case measure => simp [intOf]
      · have hb : (b != 0) = true := by simp [hb0]
        have HE : Hid (or2 a b = b) := if_pos HA.out
        clear hb0
        go_wp2_with fail
        go_ret
        exact ⟨ret_int HE.out.symm, rfl⟩
    · have HE : Hid (or2 a b = 0) := by unfold Hid or2; rw [if_pos HA.out.1, HA.out.2]
      go_wp2_with fail
      go_ret
      exact ⟨ret_int HE.out.symm, rfl⟩

/-- is a score better than another one? -/
def scB (a s b z : Int) : Bool := decide (b < a) || (decide (a = b) && decide (z < s))
def scC (a s b z : Int) : Int := or2 (cmp3 a b) (cmp3 s z)
theorem scC_B (a s b z : Int) : decide (0 < scC a s b z) = scB a s b z := by
  unfold scC scB or2 cmp3
  rcases Int.lt_trichotomy a b with h | h | h
  · simp [h, show ¬ b < a by omega, show ¬ a = b by omega]
  · subst h
    rcases Int.lt_trichotomy s z with k | k | k
    · simp [k, show ¬ z < s by omega]
    · subst k; simp
    · simp [k, show ¬ s < z by omega]
  · simp [h, show ¬ a < b by omega]
theorem scC_neg (a s b z : Int) : decide (scC a s b z < 0) = scB b z a s := by
  unfold scC scB or2 cmp3
  rcases Int.lt_trichotomy a b with h | h | h
  · simp [h]
  · subst h
    rcases Int.lt_trichotomy s z with k | k | k
    · simp [k]
    · subst k; simp
    · simp [k, show ¬ s < z by omega]
  · simp [h, show ¬ a < b by omega, show ¬ b = a by omega]

set_option maxHeartbeats 3200000 in
set_option maxRecDepth 100000 in
theorem scompare_any (a s b z : Int) (w : World) : Calls Try.prog 94 #[.agg #[.int .i64 a, .int .i64 s], .agg #[.int .i64 b, .int .i64 z]] w fun e w' => e = .returned (.int .i64 (scC a s b z)) ∧ Below w.heap.size w w' := by
  obtain ⟨ws, hws, HB, hsz, hsz1, hblk, hblk1⟩ := box2 w (.cells #[.int .i64 a, .int .i64 s] 97) (.cells #[.int .i64 b, .int .i64 z] 97)
  have p0 := cell_blk hblk 0 rfl
  have p1 := cell_blk hblk 1 rfl
  have q0 := cell_blk hblk1 0 rfl
  have q1 := cell_blk hblk1 1 rfl
  clear hblk hblk1
  go_enter Try.func94, Try.ntmps94
  go_upto_region 1 with fail
  clear hws
  obtain ⟨wd, hwd⟩ : ∃ wd, ws.drew = wd := ⟨_, rfl⟩
  have HBd : Hid (Below ws.heap.size ws wd) := by rw [← hwd]; exact (Below.refl _ _).drew
  have S0 := old_of HBd.out
  refine wp_region_held_drew (S := fun w' => (∀ b o, b < ws.heap.size → w'.cell? ⟨b, o, none⟩ = ws.cell? ⟨b, o, none⟩) ∧ Hid (Below ws.heap.size ws w')) (by kernel_rfl) (by rw [hwd]; exact S0) (fun hHeld => ?_)
  rw [hwd]
  clear hwd
  (refine wpAnyH_take (i := 0) (v := ?_) rfl (by kernel_rfl) (by kernel_rfl) (by kernel_rfl) (fun _ _ _ h => h) (Or.inl ⟨by rfl, ?_⟩) (by assumption) ?_; rotate_left; (focus (intro w hSw; (try dsimp only at hSw); go_simp; (try with_reducible rfl))); (try simp only [List.getElem_toArray, List.getElem_cons_zero, List.getElem_cons_succ, Act.put, List.setIfInBounds_toArray, List.set_cons_zero, List.set_cons_succ])); (refine wpAnyH_take (i := 1) (v := ?_) rfl (by kernel_rfl) (by kernel_rfl) (by kernel_rfl) (fun _ _ _ h => h) (Or.inl ⟨by rfl, ?_⟩) (by assumption) ?_; rotate_left; (focus (intro w hSw; (try dsimp only at hSw); go_simp; (try with_reducible rfl))); (try simp only [List.getElem_toArray, List.getElem_cons_zero, List.getElem_cons_succ, Act.put, List.setIfInBounds_toArray, List.set_cons_zero, List.set_cons_succ])); (refine wpAnyH_take (i := 2) (v := ?_) rfl (by kernel_rfl) (by kernel_rfl) (by kernel_rfl) (fun _ _ _ h => h) (Or.inl ⟨by rfl, ?_⟩) (by assumption) ?_; rotate_left; (focus (intro w hSw; (try dsimp only at hSw); go_simp; (try with_reducible rfl))); (try simp only [List.getElem_toArray, List.getElem_cons_zero, List.getElem_cons_succ, Act.put, List.setIfInBounds_toArray, List.set_cons_zero, List.set_cons_succ])); (refine wpAnyH_take (i := 3) (v := ?_) rfl (by kernel_rfl) (by kernel_rfl) (by kernel_rfl) (fun _ _ _ h => h) (Or.inl ⟨by rfl, ?_⟩) (by assumption) ?_; rotate_left; (focus (intro w hSw; (try dsimp only at hSw); go_simp; (try with_reducible rfl))); (try simp only [List.getElem_toArray, List.getElem_cons_zero, List.getElem_cons_succ, Act.put, List.setIfInBounds_toArray, List.set_cons_zero, List.set_cons_succ]))
  (refine wpAnyH_take (i := 5) (v := ?_) rfl (by kernel_rfl) (by kernel_rfl) (by kernel_rfl) (fun _ _ _ h => h) (Or.inl ⟨by rfl, ?_⟩) (by assumption) ?_; rotate_left; (focus (intro w hSw; (try dsimp only at hSw); go_simp; (try with_reducible rfl))); (try simp only [List.getElem_toArray, List.getElem_cons_zero, List.getElem_cons_succ, Act.put, List.setIfInBounds_toArray, List.set_cons_zero, List.set_cons_succ])); (refine wpAnyH_take (i := 6) (v := ?_) rfl (by kernel_rfl) (by kernel_rfl) (by kernel_rfl) (fun _ _ _ h => h) (Or.inl ⟨by rfl, ?_⟩) (by assumption) ?_; rotate_left; (focus (intro w hSw; (try dsimp only at hSw); go_simp; (try with_reducible rfl))); (try simp only [List.getElem_toArray, List.getElem_cons_zero, List.getElem_cons_succ, Act.put, List.setIfInBounds_toArray, List.set_cons_zero, List.set_cons_succ])); (refine wpAnyH_take (i := 7) (v := ?_) rfl (by kernel_rfl) (by kernel_rfl) (by kernel_rfl) (fun _ _ _ h => h) (Or.inl ⟨by rfl, ?_⟩) (by assumption) ?_; rotate_left; (focus (intro w hSw; (try dsimp only at hSw); go_simp; (try with_reducible rfl))); (try simp only [List.getElem_toArray, List.getElem_cons_zero, List.getElem_cons_succ, Act.put, List.setIfInBounds_toArray, List.set_cons_zero, List.set_cons_succ])); (refine wpAnyH_take (i := 8) (v := ?_) rfl (by kernel_rfl) (by kernel_rfl) (by kernel_rfl) (fun _ _ _ h => h) (Or.inl ⟨by rfl, ?_⟩) (by assumption) ?_; rotate_left; (focus (intro w hSw; (try dsimp only at hSw); go_simp; (try with_reducible rfl))); (try simp only [List.getElem_toArray, List.getElem_cons_zero, List.getElem_cons_succ, Act.put, List.setIfInBounds_toArray, List.set_cons_zero, List.set_cons_succ]))
  refine wpAnyH_ready (rs := [4]) (by kernel_rfl) (by simp) ?_; refine AllReadyH.cons rfl (fun K hK => ?_) AllReadyH.nil; go_simp
  go_at_call 107
  refine (compare_any a b _).mono ?_
  rintro e w1 ⟨rfl, hw1⟩
  rw [hw1]
  clear hw1
  refine hK.out _ _ S0 (fun hHeld => ?_); clear hK K; (try simp only [List.getElem_toArray, List.getElem_cons_zero, List.getElem_cons_succ, Act.put, List.setIfInBounds_toArray, List.set_cons_zero, List.set_cons_succ])
  refine wpAnyH_ready (rs := [9]) (by kernel_rfl) (by simp) ?_; refine AllReadyH.cons rfl (fun K hK => ?_) AllReadyH.nil; go_simp
  go_at_call 107
  refine (compare_any s z _).mono ?_
  rintro e w2 ⟨rfl, hw2⟩
  rw [hw2]
  clear hw2
  refine hK.out _ _ S0 (fun hHeld => ?_); clear hK K; (try simp only [List.getElem_toArray, List.getElem_cons_zero, List.getElem_cons_succ, Act.put, List.setIfInBounds_toArray, List.set_cons_zero, List.set_cons_succ])
  obtain ⟨wb, hwb, HBb, hszb, hblkb⟩ := box1 wd (.cells #[.int .i64 (cmp3 a b), .int .i64 (cmp3 s z)] 3)
  have HB2 := Lib.hid (bel HBd.out HBb.out)
  have S2 := old_of HB2.out
  refine wpAnyH_ready (rs := [10]) (by kernel_rfl) (by simp) ?_; refine AllReadyH.cons rfl (fun K hK => ?_) AllReadyH.nil; go_simp
  (try rw [hwb])
  refine hK.out _ _ S2 (fun hHeld => ?_); clear hK K; (try simp only [List.getElem_toArray, List.getElem_cons_zero, List.getElem_cons_succ, Act.put, List.setIfInBounds_toArray, List.set_cons_zero, List.set_cons_succ])
  refine wpAnyH_ready (rs := [11]) (by kernel_rfl) (by simp) ?_; refine AllReadyH.cons rfl (fun K hK => ?_) AllReadyH.nil; go_simp
  go_at_call 106
  refine (or_any _ _ _ _ (cell_blk hblkb 0 rfl) (cell_blk hblkb 1 rfl)).mono ?_
  rintro e w3 ⟨rfl, hw3⟩
  rw [hw3]
  clear hw3
  refine hK.out _ _ S2 (fun hHeld => ?_); clear hK K; (try simp only [List.getElem_toArray, List.getElem_cons_zero, List.getElem_cons_succ, Act.put, List.setIfInBounds_toArray, List.set_cons_zero, List.set_cons_succ])
  (refine wpAnyH_take (i := 12) (v := ?_) rfl (by kernel_rfl) (by kernel_rfl) (by kernel_rfl) (fun _ _ _ h => h) (Or.inl ⟨by rfl, ?_⟩) (by assumption) ?_; rotate_left; (focus (intro w hSw; (try dsimp only at hSw); go_simp; (try with_reducible rfl))); (try simp only [List.getElem_toArray, List.getElem_cons_zero, List.getElem_cons_succ, Act.put, List.setIfInBounds_toArray, List.set_cons_zero, List.set_cons_succ]))
  refine wpAnyH_done (by kernel_rfl) ?_ _; clear hHeld
  clear S0 S2 hblkb hwb
  go_wp2_with fail
  go_ret
  exact ⟨rfl, fin HB.out HB2.out⟩

set_option maxHeartbeats 1600000 in
theorem sbetter_any (a s b z : Int) (w : World) : Calls Try.prog 85 #[.agg #[.int .i64 a, .int .i64 s], .agg #[.int .i64 b, .int .i64 z]] w fun e w' => e = .returned (.bool (scB a s b z)) ∧ Below w.heap.size w w' := by
  obtain ⟨ws, hws, HB, hsz, hsz1, hblk, hblk1⟩ := box2 w (.cells #[.int .i64 a, .int .i64 s] 97) (.cells #[.int .i64 b, .int .i64 z] 97)
  have p0 := cell_blk hblk 0 rfl
  have p1 := cell_blk hblk 1 rfl
  have q0 := cell_blk hblk1 0 rfl
  have q1 := cell_blk hblk1 1 rfl
  have HS := Lib.hid (scC_B a s b z)
  clear hblk hblk1
  go_enter Try.func85, Try.ntmps85
  go_wp2_with (go_at_call 94; refine (scompare_any a s b z _).mono ?_; rintro e w1 ⟨rfl, hb1⟩; have HB1 := Lib.hid hb1; clear hb1)
  go_ret
  exact ⟨ret_bool HS.out, fin HB.out HB1.out⟩

set_option maxHeartbeats 400000 in
theorem known_any (a b : Bool) (w : World) : Calls Try.prog 84 #[.bool a, .bool b] w fun e w' => e = .returned (.int .i64 (if a then 1 else if b then 3 else 2)) ∧ w' = w := by
  cases a <;> cases b
  all_goals
    go_enter Try.func84, Try.ntmps84
    go_wp2_with fail
    go_ret
    exact ⟨rfl, rfl⟩

end Go.Proofs.Ytffnlimgjnhmpaa
