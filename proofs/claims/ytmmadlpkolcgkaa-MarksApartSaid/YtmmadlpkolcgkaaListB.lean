import Derived.Test.YtmmadlpkolcgkaaListA
namespace Go.Proofs.Ytmmadlpkolcgkaa
open Go.RowKit

theorem lt_succ {k : Nat} {P : Nat → Prop} (h : ∀ j, j < k → P j) (hk : P k) : ∀ j, j < k + 1 → P j := fun j hj => by
  rcases Nat.lt_succ_iff_lt_or_eq.1 hj with h' | h'
  · exact h j h'
  · rw [h']; exact hk

/-- so many i below n with p i -/
def cnt : Nat → (Nat → Bool) → Nat
  | 0, _ => 0
  | n + 1, p => cnt n p + (if p n then 1 else 0)
theorem cnt_le (n : Nat) (p : Nat → Bool) : cnt n p ≤ n := by
  induction n with
  | zero => simp [cnt]
  | succ n ih => simp only [cnt]; split <;> omega
theorem cnt_hit {n : Nat} {p : Nat → Bool} (h : p n = true) : cnt (n + 1) p = cnt n p + 1 := by simp [cnt, h]
theorem cnt_miss {n : Nat} {p : Nat → Bool} (h : p n = false) : cnt (n + 1) p = cnt n p := by simp [cnt, h]

set_option maxHeartbeats 400000 in
theorem longLists_any (N : Nat) (v : Value) (n : Nat) (L : Nat → Nat) (x : Nat → Nat → Int) (w : World) (h : RowsAt N w v n L x) :
    Calls Try.prog 45 #[v] w fun e w' => e = .returned (.bool (decide (40 < n) || anyB n fun i => decide (40 < L i))) ∧ w' = w := by
  obtain ⟨ao, cap, rfl, hn, hc⟩ := h
  by_cases h40 : 40 < n
  · have H : Hid (40 < n) := h40
    have h40' : (40 : Int) < (n : Int) := by omega
    clear h40
    go_enter Try.func45, Try.ntmps45
    go_wp2
    go_ret
    exact ⟨ret_bool (by simp [H.out]), rfl⟩
  · have H : Hid (¬ 40 < n) := h40
    have h40' : (n : Int) ≤ 40 := by omega
    clear h40
    go_enter Try.func45, Try.ntmps45
    go_wp2
    go_loop [3] (fun i => ∃ k : Nat, k ≤ n ∧ i = .int .i64 k ∧ Hid (∀ j, j < k → ¬ 40 < L j)) (fun i => n - (intOf i).toNat)
    case atStart => exact ⟨0, Nat.zero_le _, rfl, fun j hj => absurd hj (Nat.not_lt_zero j)⟩
    case round =>
      obtain ⟨k, hk, rfl, hj⟩ := hrel
      by_cases hkn : k < n
      · obtain ⟨b, off, rfl, _, hr⟩ := hc (by omega)
        obtain ⟨r, hcell, ao2, cap2, rfl, hL, _⟩ := hr k hkn
        clear hr hc
        by_cases hxy : 40 < L k
        · have hb : (40 : Int) < (L k : Int) := by omega
          have H2 : Hid (40 < L k) := hxy
          clear hxy
          go_wp2
          go_ret
          exact ⟨ret_bool (by simp only [Bool.or_eq_true, decide_eq_true_eq, H.out, decide_false, Bool.false_or]; exact (anyB_true.2 ⟨k, hkn, by simp [H2.out]⟩).symm), rfl⟩
        · have hb : (L k : Int) ≤ 40 := by omega
          have H2 : Hid (¬ 40 < L k) := hxy
          clear hxy
          go_wp2
          go_round
          case rel => exact ⟨k + 1, by omega, by go_num, lt_succ hj.out H2.out⟩
          case measure => simp [intOf]; omega
      · go_wp2
        go_ret
        exact ⟨ret_bool (by simp only [H.out, decide_false, Bool.false_or]; exact (anyB_false.2 fun i hi => by simpa using hj.out i (by omega)).symm), rfl⟩

set_option maxHeartbeats 400000 in
theorem seen_any (N : Nat) (v : Value) (n : Nat) (x : Nat → Int) (w : World) (h : IntsAt N w v n x) :
    Calls Try.prog 52 #[v] w fun e w' => e = .returned (.int .i64 (cnt n fun i => decide (x i ≠ -1))) ∧ w' = w := by
  obtain ⟨ao, cap, rfl, hn, hc⟩ := h
  go_enter Try.func52, Try.ntmps52
  go_wp2
  go_loop [3, 4] (fun t i => ∃ k : Nat, k ≤ n ∧ i = .int .i64 k ∧ t = .int .i64 (cnt k fun i => decide (x i ≠ -1))) (fun _ i => n - (intOf i).toNat)
  case atStart => exact ⟨0, Nat.zero_le _, rfl, rfl⟩
  case round =>
    obtain ⟨k, hk, rfl, rfl⟩ := hrel
    have hle := cnt_le k fun i => decide (x i ≠ -1)
    by_cases hkn : k < n
    · obtain ⟨b, off, rfl, _, hr⟩ := hc (by omega)
      obtain ⟨r, hcell, rfl⟩ := hr k hkn
      clear hr hc
      by_cases hxy : x k = -1
      · have H : Hid (cnt (k + 1) (fun i => decide (x i ≠ -1)) = cnt k (fun i => decide (x i ≠ -1))) := cnt_miss (by simp [hxy])
        have hb : (x k != -1) = false := by simp [hxy]
        clear hxy
        generalize cnt k (fun i => decide (x i ≠ -1)) = c at *
        go_wp2
        go_round
        case rel => exact ⟨k + 1, by omega, by go_num, by rw [H.out]⟩
        case measure => simp [intOf]; omega
      · have H : Hid (cnt (k + 1) (fun i => decide (x i ≠ -1)) = cnt k (fun i => decide (x i ≠ -1)) + 1) := cnt_hit (by simp [hxy])
        have hb : (x k != -1) = true := by simp [hxy]
        clear hxy
        generalize cnt k (fun i => decide (x i ≠ -1)) = c at *
        go_wp2
        go_round
        case rel => exact ⟨k + 1, by omega, by go_num, by rw [H.out]; go_num⟩
        case measure => simp [intOf]; omega
    · obtain rfl : k = n := by omega
      go_wp2
      go_ret
      exact ⟨rfl, rfl⟩

end Go.Proofs.Ytmmadlpkolcgkaa
