/-
  Count: what is asked of counts.
-/
import Derived.Test.YtnnngbnimmcjiaaLost
namespace Go.Proofs.Ytnnngbnimmcjiaa
open Go.RowKit

def sumC (c : Nat → Nat) : Nat → Nat
  | 0 => 0
  | k + 1 => sumC c k + c k
theorem sumC_le (c : Nat → Nat) (hc : ∀ i, i < 4 → c i ≤ 12) : sumC c 4 ≤ 2000 ∧ sumC c 3 ≤ 2000 ∧ sumC c 2 ≤ 2000 ∧ sumC c 1 ≤ 2000 ∧ sumC c 0 ≤ 2000 := by
  have h0 := hc 0 (by omega)
  have h1 := hc 1 (by omega)
  have h2 := hc 2 (by omega)
  have h3 := hc 3 (by omega)
  simp only [sumC]
  (try split) <;> (try split) <;> (try split) <;> (try split) <;> omega
theorem sumC_bd (c : Nat → Nat) (hc : ∀ i, i < 4 → c i ≤ 12) {k : Nat} (hk : k ≤ 4) : sumC c k ≤ 2000 := by
  obtain ⟨h4, h3, h2, h1, h0⟩ := sumC_le c hc
  have : k = 0 ∨ k = 1 ∨ k = 2 ∨ k = 3 ∨ k = 4 := by omega
  rcases this with rfl | rfl | rfl | rfl | rfl <;> assumption

set_option maxRecDepth 100000 in
set_option maxHeartbeats 1600000 in
theorem sum_any (c : Nat → Nat) (w : World) (hc : ∀ i, i < 4 → c i ≤ 12) :
    Calls Try.prog 51 #[cntV c] w fun e w' => e = .returned (.int .i64 (sumC c 4 : Nat)) ∧ Below w.heap.size w w' := by
  obtain ⟨ws, hws, HB, hsz, hblk⟩ := box1 w (.cells #[.int .i64 (c 0), .int .i64 (c 1), .int .i64 (c 2), .int .i64 (c 3)] 69)
  have d0 := cell_blk hblk 0 rfl
  have d1 := cell_blk hblk 1 rfl
  have d2 := cell_blk hblk 2 rfl
  have d3 := cell_blk hblk 3 rfl
  have HC := Lib.hid hc
  unfold cntV
  clear hblk hc
  go_enter Try.func51, Try.ntmps51
  go_wp2
  go_loop [7, 3] (fun i ov => ∃ k : Nat, k ≤ 4 ∧ i = .int .i64 k ∧ ov = .int .i64 (sumC c k : Nat)) (fun i _ => 4 - (intOf i).toNat)
  case atStart => exact ⟨0, Nat.zero_le _, rfl, rfl⟩
  case round =>
    obtain ⟨k, hk, rfl, rfl⟩ := hrel
    by_cases hkn : k < 4
    · have hki : (k : Int) < 4 := by omega
      have hix := idx4 c hkn
      have hb := sumC_bd c HC.out hk
      have hck := HC.out k hkn
      obtain ⟨r, hr⟩ : ∃ r, sumC c k = r := ⟨_, rfl⟩
      obtain ⟨m, hm⟩ : ∃ m, c k = m := ⟨_, rfl⟩
      have HR : Hid (sumC c (k + 1) = r + m) := by unfold Hid; rw [← hr, ← hm]; rfl
      rw [hr] at hb ⊢
      rw [hm] at hck hix
      have HM := Lib.hid hm
      clear hr hm
      go_wp2
      go_round
      case rel => exact ⟨k + 1, by omega, by go_num, by rw [HR.out]; go_num⟩
      case measure => simp [intOf]; omega
    · have hk4 : k = 4 := by omega
      subst hk4
      go_wp2
      go_ret
      exact ⟨rfl, HB.out⟩

def rankC (c : Nat → Nat) : Nat → Nat
  | 0 => 0
  | k + 1 => rankC c k * 5 + c k
theorem rankC_le (c : Nat → Nat) (hc : ∀ i, i < 4 → c i ≤ 12) : rankC c 4 ≤ 2000 ∧ rankC c 3 ≤ 2000 ∧ rankC c 2 ≤ 2000 ∧ rankC c 1 ≤ 2000 ∧ rankC c 0 ≤ 2000 := by
  have h0 := hc 0 (by omega)
  have h1 := hc 1 (by omega)
  have h2 := hc 2 (by omega)
  have h3 := hc 3 (by omega)
  simp only [rankC]
  (try split) <;> (try split) <;> (try split) <;> (try split) <;> omega
theorem rankC_bd (c : Nat → Nat) (hc : ∀ i, i < 4 → c i ≤ 12) {k : Nat} (hk : k ≤ 4) : rankC c k ≤ 2000 := by
  obtain ⟨h4, h3, h2, h1, h0⟩ := rankC_le c hc
  have : k = 0 ∨ k = 1 ∨ k = 2 ∨ k = 3 ∨ k = 4 := by omega
  rcases this with rfl | rfl | rfl | rfl | rfl <;> assumption

set_option maxRecDepth 100000 in
set_option maxHeartbeats 1600000 in
theorem rank_any (c : Nat → Nat) (w : World) (hc : ∀ i, i < 4 → c i ≤ 12) :
    Calls Try.prog 53 #[cntV c] w fun e w' => e = .returned (.int .i64 (rankC c 4 : Nat)) ∧ Below w.heap.size w w' := by
  obtain ⟨ws, hws, HB, hsz, hblk⟩ := box1 w (.cells #[.int .i64 (c 0), .int .i64 (c 1), .int .i64 (c 2), .int .i64 (c 3)] 69)
  have d0 := cell_blk hblk 0 rfl
  have d1 := cell_blk hblk 1 rfl
  have d2 := cell_blk hblk 2 rfl
  have d3 := cell_blk hblk 3 rfl
  have HC := Lib.hid hc
  unfold cntV
  clear hblk hc
  go_enter Try.func53, Try.ntmps53
  go_wp2
  go_loop [7, 3] (fun i ov => ∃ k : Nat, k ≤ 4 ∧ i = .int .i64 k ∧ ov = .int .i64 (rankC c k : Nat)) (fun i _ => 4 - (intOf i).toNat)
  case atStart => exact ⟨0, Nat.zero_le _, rfl, rfl⟩
  case round =>
    obtain ⟨k, hk, rfl, rfl⟩ := hrel
    by_cases hkn : k < 4
    · have hki : (k : Int) < 4 := by omega
      have hix := idx4 c hkn
      have hb := rankC_bd c HC.out hk
      have hck := HC.out k hkn
      obtain ⟨r, hr⟩ : ∃ r, rankC c k = r := ⟨_, rfl⟩
      obtain ⟨m, hm⟩ : ∃ m, c k = m := ⟨_, rfl⟩
      have HR : Hid (rankC c (k + 1) = r * 5 + m) := by unfold Hid; rw [← hr, ← hm]; rfl
      rw [hr] at hb ⊢
      rw [hm] at hck hix
      have HM := Lib.hid hm
      clear hr hm
      go_wp2
      go_round
      case rel => exact ⟨k + 1, by omega, by go_num, by rw [HR.out]; go_num⟩
      case measure => simp [intOf]; omega
    · have hk4 : k = 4 := by omega
      subst hk4
      go_wp2
      go_ret
      exact ⟨rfl, HB.out⟩

def safeC (c : Nat → Nat) : Nat → Nat
  | 0 => 0
  | k + 1 => safeC c k + (if 2 ≤ c k then 1 else 0)
theorem safeC_le (c : Nat → Nat) (hc : ∀ i, i < 4 → c i ≤ 12) : safeC c 4 ≤ 2000 ∧ safeC c 3 ≤ 2000 ∧ safeC c 2 ≤ 2000 ∧ safeC c 1 ≤ 2000 ∧ safeC c 0 ≤ 2000 := by
  have h0 := hc 0 (by omega)
  have h1 := hc 1 (by omega)
  have h2 := hc 2 (by omega)
  have h3 := hc 3 (by omega)
  simp only [safeC]
  (try split) <;> (try split) <;> (try split) <;> (try split) <;> omega
theorem safeC_bd (c : Nat → Nat) (hc : ∀ i, i < 4 → c i ≤ 12) {k : Nat} (hk : k ≤ 4) : safeC c k ≤ 2000 := by
  obtain ⟨h4, h3, h2, h1, h0⟩ := safeC_le c hc
  have : k = 0 ∨ k = 1 ∨ k = 2 ∨ k = 3 ∨ k = 4 := by omega
  rcases this with rfl | rfl | rfl | rfl | rfl <;> assumption

set_option maxRecDepth 100000 in
set_option maxHeartbeats 1600000 in
theorem safe_any (c : Nat → Nat) (w : World) (hc : ∀ i, i < 4 → c i ≤ 12) :
    Calls Try.prog 55 #[cntV c] w fun e w' => e = .returned (.int .i64 (safeC c 4 : Nat)) ∧ Below w.heap.size w w' := by
  obtain ⟨ws, hws, HB, hsz, hblk⟩ := box1 w (.cells #[.int .i64 (c 0), .int .i64 (c 1), .int .i64 (c 2), .int .i64 (c 3)] 69)
  have d0 := cell_blk hblk 0 rfl
  have d1 := cell_blk hblk 1 rfl
  have d2 := cell_blk hblk 2 rfl
  have d3 := cell_blk hblk 3 rfl
  have HC := Lib.hid hc
  unfold cntV
  clear hblk hc
  go_enter Try.func55, Try.ntmps55
  go_wp2
  go_loop [7, 3] (fun i ov => ∃ k : Nat, k ≤ 4 ∧ i = .int .i64 k ∧ ov = .int .i64 (safeC c k : Nat)) (fun i _ => 4 - (intOf i).toNat)
  case atStart => exact ⟨0, Nat.zero_le _, rfl, rfl⟩
  case round =>
    obtain ⟨k, hk, rfl, rfl⟩ := hrel
    by_cases hkn : k < 4
    · have hki : (k : Int) < 4 := by omega
      have hix := idx4 c hkn
      have hb := safeC_bd c HC.out hk
      have hck := HC.out k hkn
      obtain ⟨r, hr⟩ : ∃ r, safeC c k = r := ⟨_, rfl⟩
      obtain ⟨m, hm⟩ : ∃ m, c k = m := ⟨_, rfl⟩
      have HR : Hid (safeC c (k + 1) = r + (if 2 ≤ m then 1 else 0)) := by unfold Hid; rw [← hr, ← hm]; rfl
      rw [hr] at hb ⊢
      rw [hm] at hck hix
      have HM := Lib.hid hm
      clear hr hm
      by_cases h2 : 2 ≤ m
      · have h2' : (2 : Int) ≤ m := by omega
        have HR1 : Hid (safeC c (k + 1) = r + 1) := by unfold Hid; rw [HR.out, if_pos h2]
        clear h2
        go_wp2
        go_round
        case rel => exact ⟨k + 1, by omega, by go_num, by rw [HR1.out]; go_num⟩
        case measure => simp [intOf]; omega
      · have h2' : (m : Int) < 2 := by omega
        have HR1 : Hid (safeC c (k + 1) = r) := by unfold Hid; rw [HR.out, if_neg h2]; rfl
        clear h2
        go_wp2
        go_round
        case rel => exact ⟨k + 1, by omega, by go_num, by rw [HR1.out]⟩
        case measure => simp [intOf]; omega
    · have hk4 : k = 4 := by omega
      subst hk4
      go_wp2
      go_ret
      exact ⟨rfl, HB.out⟩

set_option maxRecDepth 100000 in
set_option maxHeartbeats 1600000 in
theorem often_any (c : Nat → Nat) (b s : Nat) (w : World) (hs : s < 4) (hb : w.cell? ⟨b, 0, none⟩ = some (.int .i64 s)) (hbw : b < w.heap.size) :
    Calls Try.prog 76 #[cntV c, .pointer (some ⟨b, 0, none⟩)] w fun e w' => e = .returned (.int .i64 (c s : Nat)) ∧ Below w.heap.size w w' := by
  obtain ⟨ws, hws, HB, hsz, hblk⟩ := box1 w (.cells #[.int .i64 (c 0), .int .i64 (c 1), .int .i64 (c 2), .int .i64 (c 3)] 69)
  have e : ws.cell? ⟨b, 0, none⟩ = some (.int .i64 s) := (HB.out.cell (p := ⟨b, 0, none⟩) hbw).trans hb
  have d0 : ws.cell? ⟨w.heap.size, s, none⟩ = some (.int .i64 (c s)) := cell_blk hblk s (by
    have : s = 0 ∨ s = 1 ∨ s = 2 ∨ s = 3 := by omega
    rcases this with rfl | rfl | rfl | rfl <;> rfl)
  have hsi : (s : Int) < 4 := by omega
  unfold cntV
  clear hblk
  go_enter Try.func76, Try.ntmps76
  go_wp2
  go_ret
  exact ⟨rfl, HB.out⟩

end Go.Proofs.Ytnnngbnimmcjiaa
