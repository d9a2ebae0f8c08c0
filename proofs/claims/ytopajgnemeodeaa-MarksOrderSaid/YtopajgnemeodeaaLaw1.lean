/-
  Helpers of the chapter: isKnown, subset, sameLists.
-/
import Derived.Test.YtopajgnemeodeaaBase
import Derived.Test.YtopajgnemeodeaaValid
namespace Go.Proofs.Ytopajgnemeodeaa
open Go.RowKit

set_option maxHeartbeats 400000 in
theorem isKnown_any (e : Int) (w : World) :
    Calls Try.prog 55 #[.int .i64 e] w fun r w' => r = .returned (.bool (decide (e = 0) || decide (e = 3))) ∧ w' = w := by
  by_cases h0 : e = 0
  · subst h0
    go_enter Try.func55, Try.ntmps55
    go_wp2
    go_ret
    exact ⟨ret_bool (by simp), rfl⟩
  · have hb : (e == 0) = false := by simp [h0]
    have H : Hid _ := Lib.hid h0
    clear h0
    go_enter Try.func55, Try.ntmps55
    go_wp2
    go_ret
    exact ⟨ret_bool (by rw [Bool.eq_iff_iff]; simp [H.out]), rfl⟩

def sub (n : Nat) (x : Nat → Int) (m : Nat) (y : Nat → Int) : Bool := decide (n ≤ m) && decide (m ≤ 40) && allB n fun i => anyB m fun j => decide (y j = x i)

set_option maxHeartbeats 400000 in
theorem subset_any (N : Nat) (v u : Value) (n m : Nat) (x y : Nat → Int) (w : World) (h1 : IntsAt N w v n x) (h2 : IntsAt N w u m y) :
    Calls Try.prog 56 #[v, u] w fun e w' => e = .returned (.bool (sub n x m y)) ∧ w' = w := by
  have H2 : Hid (IntsAt N w u m y) := h2
  obtain ⟨ao1, cap1, rfl, hn1, hc1⟩ := h1
  obtain ⟨ao2, cap2, rfl, hn2, _⟩ := h2
  by_cases g1 : n ≤ m
  · have i1 : (n : Int) ≤ (m : Int) := by omega
    have G1 : Hid _ := Lib.hid g1
    clear g1
    by_cases g2 : m ≤ 40
    · have i2 : (m : Int) ≤ 40 := by omega
      have G2 : Hid _ := Lib.hid g2
      clear g2
      go_enter Try.func56, Try.ntmps56
      go_wp2
      go_loop [5] (fun i => ∃ k : Nat, k ≤ n ∧ i = .int .i64 k ∧ Hid (∀ j, j < k → (anyB m fun l => decide (y l = x j)) = true)) (fun i => n - (intOf i).toNat)
      case atStart => exact ⟨0, Nat.zero_le _, rfl, fun j hj => absurd hj (Nat.not_lt_zero j)⟩
      case round =>
        obtain ⟨k, hk, rfl, hj⟩ := hrel
        by_cases hkn : k < n
        · obtain ⟨b1, off1, rfl, _, hr1⟩ := hc1 (by omega)
          obtain ⟨r1, hcell1, rfl⟩ := hr1 k hkn
          clear hr1 hc1
          cases hl : anyB m fun l => decide (y l = x k) with
          | true =>
            have HL : Hid _ := Lib.hid hl
            clear hl
            go_wp2_with (go_at_call 48; refine (in_any N _ _ _ _ _ H2.out).mono ?_; rintro e w' ⟨rfl, rfl⟩; rw [HL.out])
            go_round
            case rel => exact ⟨k + 1, by omega, by go_num, lt_succ hj.out HL.out⟩
            case measure => simp [intOf]; omega
          | false =>
            have HL : Hid _ := Lib.hid hl
            clear hl
            go_wp2_with (go_at_call 48; refine (in_any N _ _ _ _ _ H2.out).mono ?_; rintro e w' ⟨rfl, rfl⟩; rw [HL.out])
            go_ret
            exact ⟨ret_bool (by unfold sub; rw [allB_succ_false hkn HL.out, Bool.and_false]), rfl⟩
        · go_wp2
          go_ret
          exact ⟨ret_bool (by unfold sub; rw [allB_true.2 fun i hi => hj.out i (by omega)]; simp [G1.out, G2.out]), rfl⟩
    · have i2 : (40 : Int) < (m : Int) := by omega
      have G2 : Hid _ := Lib.hid g2
      clear g2
      go_enter Try.func56, Try.ntmps56
      go_wp2
      go_ret
      exact ⟨ret_bool (by unfold sub; simp [G2.out]), rfl⟩
  · have i1 : (m : Int) < (n : Int) := by omega
    have G1 : Hid _ := Lib.hid g1
    clear g1
    go_enter Try.func56, Try.ntmps56
    go_wp2
    go_ret
    exact ⟨ret_bool (by unfold sub; simp [G1.out]), rfl⟩

def sameL (n : Nat) (L : Nat → Nat) (x : Nat → Nat → Int) (m : Nat) (M : Nat → Nat) (y : Nat → Nat → Int) : Bool := decide (n = m) && allB n fun i => sameI (L i) (x i) (M i) (y i)

set_option maxHeartbeats 400000 in
theorem sameLists_any (N : Nat) (v u : Value) (n m : Nat) (L M : Nat → Nat) (x y : Nat → Nat → Int) (w : World) (h1 : RowsAt N w v n L x) (h2 : RowsAt N w u m M y) :
    Calls Try.prog 25 #[v, u] w fun e w' => e = .returned (.bool (sameL n L x m M y)) ∧ ∃ q, w' = w.drewN q := by
  obtain ⟨ao1, cap1, rfl, hn1, hc1⟩ := h1
  obtain ⟨ao2, cap2, rfl, hn2, hc2⟩ := h2
  by_cases hnm : n = m
  · subst hnm
    go_enter Try.func25, Try.ntmps25
    go_wp2
    go_loopw [5] (fun i wr => ∃ k : Nat, k ≤ n ∧ i = .int .i64 k ∧ Hid (∀ j, j < k → sameI (L j) (x j) (M j) (y j) = true) ∧ ∃ q, wr = w.drewN q) (fun i _ => n - (intOf i).toNat)
    case atStart => exact ⟨0, Nat.zero_le _, rfl, fun j hj => absurd hj (Nat.not_lt_zero j), 0, rfl⟩
    case round =>
      obtain ⟨k, hk, rfl, hj, hD⟩ := hrel
      have HD : Hid (∃ q, wr = w.drewN q) := hD
      clear hD
      by_cases hkn : k < n
      · obtain ⟨b1, off1, rfl, _, hr1⟩ := hc1 (by omega)
        obtain ⟨r1, hcell1, hi1⟩ := hr1 k hkn
        obtain ⟨b2, off2, rfl, _, hr2⟩ := hc2 (by omega)
        obtain ⟨r2, hcell2, hi2⟩ := hr2 k hkn
        clear hr1 hr2 hc1 hc2
        have hBw : Below N w wr := by obtain ⟨q, h⟩ := HD.out; rw [h]; exact below_drewN (Below.refl _ _) q
        have hcell1 : wr.cell? ⟨b1, off1 + k, none⟩ = some r1 := by obtain ⟨q, h⟩ := HD.out; rw [h]; exact hcell1
        have hcell2 : wr.cell? ⟨b2, off2 + k, none⟩ = some r2 := by obtain ⟨q, h⟩ := HD.out; rw [h]; exact hcell2
        have HBW : Hid _ := Lib.hid hBw
        clear hBw
        have HI1 : Hid _ := Lib.hid hi1
        have HI2 : Hid _ := Lib.hid hi2
        obtain ⟨ao3, cap3, rfl, _, _⟩ := hi1
        obtain ⟨ao4, cap4, rfl, _, _⟩ := hi2
        cases hl : sameI (L k) (x k) (M k) (y k) with
        | true =>
          have HL : Hid _ := Lib.hid hl
          clear hl
          have HS : Hid (∀ nq : Nat, Calls Try.prog 30 #[.slice ao3 (L k) cap3, .slice ao4 (M k) cap4] (wr.drewN nq) fun e w' => e = .returned (.bool true) ∧ ∃ m, w' = (wr.drewN nq).drewN m) := fun nq =>
            (sameInts_any N _ _ _ _ _ _ _ (HI1.out.mono (below_drewN HBW.out nq) (Nat.le_refl _)) (HI2.out.mono (below_drewN HBW.out nq) (Nat.le_refl _))).mono (fun e w' hh => by rw [HL.out] at hh; exact hh)
          go_wp2
          go_quiet ((go_at_call 30; exact Calls.quiet_of (HS.out _)))
          go_wp2
          go_roundw
          case rel => exact ⟨k + 1, by omega, by go_num, lt_succ hj.out HL.out, by obtain ⟨q, h⟩ := HD.out; exact ⟨_, by rw [h, World.drewN_drewN]⟩⟩
          case measure => simp [intOf]; omega
        | false =>
          have HL : Hid _ := Lib.hid hl
          clear hl
          have HS : Hid (∀ nq : Nat, Calls Try.prog 30 #[.slice ao3 (L k) cap3, .slice ao4 (M k) cap4] (wr.drewN nq) fun e w' => e = .returned (.bool false) ∧ ∃ m, w' = (wr.drewN nq).drewN m) := fun nq =>
            (sameInts_any N _ _ _ _ _ _ _ (HI1.out.mono (below_drewN HBW.out nq) (Nat.le_refl _)) (HI2.out.mono (below_drewN HBW.out nq) (Nat.le_refl _))).mono (fun e w' hh => by rw [HL.out] at hh; exact hh)
          go_wp2
          go_quiet ((go_at_call 30; exact Calls.quiet_of (HS.out _)))
          go_wp2
          go_ret
          exact ⟨ret_bool (by unfold sameL; rw [allB_succ_false hkn HL.out, Bool.and_false]), by obtain ⟨q, h⟩ := HD.out; exact ⟨_, by rw [h, World.drewN_drewN]⟩⟩
      · go_wp2
        go_ret
        exact ⟨ret_bool (by unfold sameL; rw [allB_true.2 fun i hi => hj.out i (by omega)]; simp), HD.out⟩
  · have hne : ((n : Int) != (m : Int)) = true := by simp; omega
    have H : Hid (n ≠ m) := hnm
    clear hnm
    go_enter Try.func25, Try.ntmps25
    go_wp2
    go_ret
    exact ⟨ret_bool (by simp [sameL, H.out]), 0, rfl⟩

end Go.Proofs.Ytopajgnemeodeaa
