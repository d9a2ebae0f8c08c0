import Derived.Test.YtmmadlpkolcgkaaValid3
namespace Go.Proofs.Ytmmadlpkolcgkaa
open Go.RowKit

theorem within_eq (a b c : Int) (r : Bool) (w : World) (h : (decide (b ≤ a) && decide (a ≤ c)) = r) :
    Calls Try.prog 86 #[.int .i64 a, .int .i64 b, .int .i64 c] w fun e w' => e = .returned (.bool r) ∧ w' = w := by
  subst h; exact within_any a b c w

def risesAt (c : Nat → Int) (lo hi : Int) (i : Nat) : Bool := decide (lo ≤ c i) && decide (c i ≤ hi) && (decide (i = 0) || decide (c (i - 1) < c i))
def rises (n : Nat) (c : Nat → Int) (lo hi : Int) : Bool := allB n (risesAt c lo hi)

/-- only draws -/
def Drawn (w w' : World) : Prop := ∃ q, w' = w.drewN q
theorem Drawn.refl (w : World) : Drawn w w := ⟨0, rfl⟩
theorem Drawn.more {w w' : World} (h : Drawn w w') (n : Nat) : Drawn w (w'.drewN n) := by
  obtain ⟨q, rfl⟩ := h; exact ⟨_, World.drewN_drewN _ _ _⟩
theorem Drawn.cell {w w' : World} (h : Drawn w w') {a : Addr} {o : Option Value} (hc : w.cell? a = o) : w'.cell? a = o := by
  obtain ⟨q, rfl⟩ := h; exact hc
theorem Drawn.below {w w' : World} (h : Drawn w w') (N : Nat) : Below N w w' := by
  obtain ⟨q, rfl⟩ := h; exact below_drewN (Below.refl _ _) q

set_option maxHeartbeats 1000000 in
theorem rising_any (N : Nat) (v : Value) (n : Nat) (c : Nat → Int) (lo hi : Int) (w : World) (h : IntsAt N w v n c) :
    Calls Try.prog 59 #[v, .int .i64 lo, .int .i64 hi] w fun e w' => e = .returned (.bool (rises n c lo hi)) ∧ Drawn w w' := by
  obtain ⟨ao, cap, rfl, hn, hc⟩ := h
  go_enter Try.func59, Try.ntmps59
  go_wp2
  go_loopw [7] (fun i wr => ∃ k : Nat, k ≤ n ∧ i = .int .i64 k ∧ Hid (∀ j, j < k → risesAt c lo hi j = true) ∧ Drawn w wr) (fun i _ => n - (intOf i).toNat)
  case atStart => exact ⟨0, Nat.zero_le _, rfl, fun j hj => absurd hj (Nat.not_lt_zero j), Drawn.refl _⟩
  case round =>
    obtain ⟨k, hk, rfl, hj, hq⟩ := hrel
    by_cases hkn : k < n
    · obtain ⟨b, off, rfl, _, hr⟩ := hc (by omega)
      obtain ⟨r, hcell, rfl⟩ := hr k hkn
      replace hcell := hq.cell hcell
      have hcellp : 0 < k → wr.cell? ⟨b, off + (k - 1), none⟩ = some (.int .i64 (c (k - 1))) := fun h0 => by
        obtain ⟨r', hc', rfl⟩ := hr (k - 1) (by omega); exact hq.cell hc'
      clear hr hc
      have HQ : Hid (Drawn w wr) := hq
      clear hq
      cases hfb : (decide (lo ≤ c k) && decide (c k ≤ hi)) with
      | false =>
        have HFB : Hid _ := Lib.hid hfb
        clear hfb hcellp
        go_wp2
        go_quiet ((go_at_call 86; exact Calls.quiet_of_same (within_eq _ _ _ _ _ HFB.out)))
        go_wp2
        go_ret
        exact ⟨ret_bool (by unfold rises; rw [allB_succ_false hkn (by unfold risesAt; rw [HFB.out, Bool.false_and])]), HQ.out.more _⟩
      | true =>
        have HFB : Hid _ := Lib.hid hfb
        clear hfb
        by_cases h0 : 0 < k
        · have hp := hcellp h0
          clear hcellp
          have h0i : (0 : Int) < (k : Int) := by omega
          have e1 : IntKind.i64.wrap ((k : Int) - 1) = (k : Int) - 1 := IntWalk.i64_in _ (by omega)
          have e2 : (0 : Int) ≤ (k : Int) - 1 := by omega
          have e2' : (1 : Int) ≤ (k : Int) := by omega
          have e3 : ((k : Int) - 1).toNat = k - 1 := by omega
          have e4 : (k : Int) - 1 < (n : Int) := by omega
          by_cases hxy : c k ≤ c (k - 1)
          · have H : Hid (c k ≤ c (k - 1)) := hxy
            go_wp2
            go_quiet ((go_at_call 86; exact Calls.quiet_of_same (within_eq _ _ _ _ _ HFB.out)))
            go_wp2
            go_ret
            exact ⟨ret_bool (by unfold rises; rw [allB_succ_false hkn (by unfold risesAt; have q : ¬ c (k - 1) < c k := (by have := H.out; omega); have q0 : ¬ k = 0 := (by omega); simp [q, q0])]), HQ.out.more _⟩
          · have hxy' : c (k - 1) < c k := by omega
            have H : Hid (c (k - 1) < c k) := hxy'
            go_wp2
            go_quiet ((go_at_call 86; exact Calls.quiet_of_same (within_eq _ _ _ _ _ HFB.out)))
            clear e1 e2 e3 e4
            go_wp2
            go_roundw
            case rel => exact ⟨k + 1, by omega, by go_num, lt_succ hj.out (by unfold risesAt; rw [HFB.out]; simp [H.out]), HQ.out.more _⟩
            case measure => simp [intOf]; omega
        · obtain rfl : k = 0 := by omega
          have hcell0 : wr.cell? ⟨b, off, none⟩ = some (.int .i64 (c 0)) := by simpa using hcell
          clear h0 hcellp hcell
          go_wp2
          go_quiet ((go_at_call 86; exact Calls.quiet_of_same (within_eq _ _ _ _ _ HFB.out)))
          go_wp2
          go_roundw
          case rel => exact ⟨1, by omega, by go_num, lt_succ hj.out (by unfold risesAt; rw [HFB.out]; simp), HQ.out.more _⟩
          case measure => simp [intOf]; omega
    · have Hk : Hid (k = n) := by show k = n; omega
      go_wp2
      go_ret
      exact ⟨ret_bool (by unfold rises; rw [allB_true.2 (fun i hi => hj.out i (by rw [Hk.out]; exact hi))]), hq⟩

theorem okCan_rises (n : Nat) (c : Nat → Int) (hi : Int) : okCan n c hi = (decide (0 < n) && rises n c 0 (hi - 1)) := by
  unfold okCan rises
  have : ∀ i, (decide (0 ≤ c i) && decide (c i < hi) && (decide (i = 0) || decide (c (i - 1) < c i))) = risesAt c 0 (hi - 1) i := fun i => by
    unfold risesAt
    have : decide (c i < hi) = decide (c i ≤ hi - 1) := by simp; omega
    rw [this]
  congr 2
  exact funext this

end Go.Proofs.Ytmmadlpkolcgkaa
