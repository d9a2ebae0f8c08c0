/-
  Fun: within, in, the same numbers, of the reference.
-/
import Derived.Test.YtffnlimgjnhmpaaJBase
namespace Go.Proofs.Ytffnlimgjnhmpaa
open Go.RowKit

set_option maxHeartbeats 400000 in
theorem within_any (a b c : Int) (w : World) :
    Calls Try.prog 61 #[.int .i64 a, .int .i64 b, .int .i64 c] w fun e w' => e = .returned (.bool (decide (b ≤ a) && decide (a ≤ c))) ∧ w' = w := by
  by_cases h1 : b ≤ a
  all_goals
    go_enter Try.func61, Try.ntmps61
    go_wp2
    go_ret
    exact ⟨ret_bool (by first | (simp [h1]; done) | (simp; omega)), rfl⟩

set_option maxHeartbeats 400000 in
theorem in_any (N : Nat) (v : Value) (n : Nat) (x : Nat → Int) (y : Int) (w : World) (h : IntsAt N w v n x) :
    Calls Try.prog 33 #[v, .int .i64 y] w fun e w' => e = .returned (.bool (anyB n fun i => decide (x i = y))) ∧ w' = w := by
  obtain ⟨ao, cap, rfl, hn, hc⟩ := h
  go_enter Try.func33, Try.ntmps33
  go_wp2
  go_loop [5] (fun i => ∃ k : Nat, k ≤ n ∧ i = .int .i64 k ∧ Hid (∀ j, j < k → x j ≠ y)) (fun i => n - (intOf i).toNat)
  case atStart => exact ⟨0, Nat.zero_le _, rfl, fun j hj => absurd hj (Nat.not_lt_zero j)⟩
  case round =>
    obtain ⟨k, hk, rfl, hj⟩ := hrel
    by_cases hkn : k < n
    · obtain ⟨b, off, rfl, _, hr⟩ := hc (by omega)
      obtain ⟨r, hcell, rfl⟩ := hr k hkn
      clear hr hc
      by_cases hxy : x k = y
      · have hb : (x k == y) = true := by simp [hxy]
        have H : Hid (x k = y) := hxy
        clear hxy
        go_wp2
        go_ret
        exact ⟨ret_bool (Eq.symm (anyB_true.2 ⟨k, hkn, by simp [H.out]⟩)), rfl⟩
      · have hb : (x k == y) = false := by simp [hxy]
        have H : Hid (x k ≠ y) := hxy
        clear hxy
        go_wp2
        go_round
        case rel => exact ⟨k + 1, by omega, by go_num, fun j hjk => by
          rcases Nat.lt_succ_iff_lt_or_eq.1 hjk with h | h
          · exact hj.out j h
          · rw [h]; exact H.out⟩
        case measure => simp [intOf]; omega
    · go_wp2
      go_ret
      exact ⟨ret_bool (Eq.symm (anyB_false.2 fun i hi => by simp [hj.out i (by omega)])), rfl⟩

/-- the same lists of numbers? -/
def sameI (n : Nat) (x : Nat → Int) (m : Nat) (y : Nat → Int) : Bool := decide (n = m) && allB n fun i => decide (x i = y i)

set_option maxHeartbeats 400000 in
theorem sameInts_any (N : Nat) (v u : Value) (n m : Nat) (x y : Nat → Int) (w : World) (h1 : IntsAt N w v n x) (h2 : IntsAt N w u m y) :
    Calls Try.prog 40 #[v, u] w fun e w' => e = .returned (.bool (sameI n x m y)) ∧ ∃ q, w' = w.drewN q := by
  obtain ⟨ao1, cap1, rfl, hn1, hc1⟩ := h1
  obtain ⟨ao2, cap2, rfl, hn2, hc2⟩ := h2
  by_cases hnm : n = m
  · subst hnm
    go_enter Try.func40, Try.ntmps40
    go_wp2
    go_loopw [5] (fun i wr => ∃ k : Nat, k ≤ n ∧ i = .int .i64 k ∧ Hid (∀ j, j < k → x j = y j) ∧ ∃ q, wr = w.drewN q) (fun i _ => n - (intOf i).toNat)
    case atStart => exact ⟨0, Nat.zero_le _, rfl, fun j hj => absurd hj (Nat.not_lt_zero j), 0, rfl⟩
    case round =>
      obtain ⟨k, hk, rfl, hj, q, rfl⟩ := hrel
      by_cases hkn : k < n
      · obtain ⟨b1, off1, rfl, _, hr1⟩ := hc1 (by omega)
        obtain ⟨r1, hcell1, rfl⟩ := hr1 k hkn
        obtain ⟨b2, off2, rfl, _, hr2⟩ := hc2 (by omega)
        obtain ⟨r2, hcell2, rfl⟩ := hr2 k hkn
        clear hr1 hr2 hc1 hc2
        by_cases hxy : x k = y k
        · have hb : (x k != y k) = false := by simp [hxy]
          have H : Hid (x k = y k) := hxy
          clear hxy
          go_wp2
          go_quiet (fail)
          go_wp2
          go_roundw
          case rel => exact ⟨k + 1, by omega, by go_num, fun j hjk => by
            rcases Nat.lt_succ_iff_lt_or_eq.1 hjk with h | h
            · exact hj.out j h
            · rw [h]; exact H.out, _, rfl⟩
          case measure => simp [intOf]; omega
        · have hb : (x k != y k) = true := by simp [hxy]
          have H : Hid (x k ≠ y k) := hxy
          clear hxy
          go_wp2
          go_quiet (fail)
          go_wp2
          go_ret
          exact ⟨ret_bool (Eq.symm (by simp only [sameI, decide_true, Bool.true_and]; exact allB_false.2 ⟨k, hkn, by simp [H.out]⟩)), _, World.drewN_drewN _ _ _⟩
      · go_wp2
        go_ret
        exact ⟨ret_bool (Eq.symm (by simp only [sameI, decide_true, Bool.true_and]; exact allB_true.2 fun i hi => by simp [hj.out i (by omega)])), _, rfl⟩
  · have hne : ((n : Int) != (m : Int)) = true := by simp; omega
    have H : Hid (n ≠ m) := hnm
    clear hnm
    go_enter Try.func40, Try.ntmps40
    go_wp2
    go_ret
    exact ⟨ret_bool (by simp [sameI, H.out]), 0, rfl⟩


end Go.Proofs.Ytffnlimgjnhmpaa
