import Derived.Test.YtmmadlpkolcgkaaBox5
namespace Go.Proofs.Ytmmadlpkolcgkaa
open Go.RowKit

/-- of the marks below k: the first one with the least 'after' (and that number), if any was not looked at -/
def nx (B : Bk) (R : Fr) (f : Nat) : Nat → Nat × Nat × Bool
  | 0 => (0, 0, false)
  | k + 1 => if R.X f k ≠ -1 then nx B R f k else
      if (nx B R f k).2.2 = false ∨ afterOf B R f k < (nx B R f k).2.1 then (k, afterOf B R f k, true) else nx B R f k

theorem afterOf_le {B : Bk} {R : Fr} (hg : Good B R) (f m : Nat) : afterOf B R f m ≤ 8 := maxTo_le _ _ _ fun i _ => sorts_len hg.ns _
theorem nx_le {B : Bk} {R : Fr} (hg : Good B R) (f k : Nat) : (nx B R f k).2.1 ≤ 8 := by
  induction k with
  | zero => simp [nx]
  | succ k ih =>
    unfold nx
    split
    · exact ih
    · split
      · exact afterOf_le hg f k
      · exact ih
theorem nx_lt (B : Bk) (R : Fr) (f k : Nat) : (nx B R f k).1 ≤ k := by
  induction k with
  | zero => simp [nx]
  | succ k ih =>
    unfold nx
    split
    · omega
    · split
      · show k ≤ k + 1; omega
      · omega

set_option maxHeartbeats 2000000 in
theorem next_any (N : Nat) (v : Value) (B : Bk) (R : Fr) (f : Nat) (w : World) (h : BoxAt N w v B R) (hg : Good B R) (hf : f < R.n) :
    Calls Try.prog 82 #[v, .int .i64 f] w fun e w' => e = .returned (.tuple #[.int .i64 ((nx B R f B.nv).1 : Int), .bool (nx B R f B.nv).2.2]) ∧ Below w.heap.size w w' := by
  have H : Hid (BoxAt N w v B R) := h
  have HG : Hid _ := Lib.hid hg
  obtain ⟨hN, a1, c1, a2, c2, a3, c3, af, cf, rfl, h1, h2, h3, h4⟩ := h
  obtain ⟨_, _, e4, _, hc4⟩ := h4
  cases e4
  obtain ⟨b4, off4, rfl, hb4, hr4⟩ := hc4 (by omega)
  obtain ⟨r4, hcell4, ao, cap, rfl, hL, hcr⟩ := hr4 f hf
  have HCR : Hid _ := Lib.hid hcr
  have HL : Hid (R.L f = B.nv) := hg.L f hf
  have g4 : b4 < w.heap.size := by omega
  have H6 := hg.nv
  clear hg hc4 hr4 hcr h1 h2 h3
  go_enter Try.func82, Try.ntmps82
  go_wp2
  go_loopw [4, 5, 6, 16] (fun t u l i wr => ∃ k : Nat, k ≤ R.L f ∧ i = .int .i64 k ∧ t = .int .i64 ((nx B R f k).1 : Int) ∧ u = .bool (nx B R f k).2.2 ∧ l = .int .i64 ((nx B R f k).2.1 : Int) ∧ Hid (Below (w.heap.size + 1) (w.alloc (.cells #[.slice a1 B.nv c1, .slice a2 B.nf c2, .slice a3 B.ns c3, .int .i64 B.wr, .slice (some ⟨b4, off4, none⟩) R.n cf] 93)) wr)) (fun _ _ _ i _ => R.L f - (intOf i).toNat)
  case atStart => exact ⟨0, Nat.zero_le _, rfl, rfl, rfl, rfl, Below.refl _ _⟩
  case round =>
    obtain ⟨k, hk, rfl, rfl, rfl, rfl, hB⟩ := hrel
    by_cases hkn : k < R.L f
    · obtain ⟨b5, off5, rfl, hb5, hr5⟩ := HCR.out (by omega)
      obtain ⟨r5, hcell5, rfl⟩ := hr5 k hkn
      replace hcell5 := ((below_of hB.out).cell (p := ⟨b5, off5 + k, none⟩) (by show b5 < _; omega)).trans hcell5
      have q0 := box_cell hB.out 0 rfl
      have q1 := box_cell hB.out 1 rfl
      have q2 := box_cell hB.out 2 rfl
      have q3 := box_cell hB.out 3 rfl
      have q4 := box_cell hB.out 4 rfl
      have hkv : k < B.nv := by have := HL.out; omega
      have hl8 := nx_le HG.out f k
      have ha8 := afterOf_le HG.out f k
      clear hr5
      by_cases hx : R.X f k = -1
      · have hxe : (R.X f k != -1) = false := by simp [hx]
        have HX : Hid (R.X f k = -1) := hx
        clear hx
        cases hfd : (nx B R f k).2.2 with
        | false =>
          have HE : Hid (nx B R f (k + 1) = (k, afterOf B R f k, true)) := by
            unfold Hid; rw [nx, if_neg (by simp [HX.out]), if_pos (.inl hfd)]
          clear hfd
          generalize (nx B R f k).2.1 = l at *
          generalize (nx B R f k).1 = mk at *
          go_wp2_with (go_at_call 79; refine (after_any N _ B R f k _ (H.out.chain hB.out) HG.out hf hkv).mono ?_; rintro e w1 ⟨rfl, hb1⟩)
          go_roundw
          case rel => exact ⟨k + 1, by omega, by go_num, by rw [HE.out], by rw [HE.out], by rw [HE.out], chain hB.out hb1⟩
          case measure => simp [intOf]; omega
        | true =>
          by_cases hlt : afterOf B R f k < (nx B R f k).2.1
          · have HE : Hid (nx B R f (k + 1) = (k, afterOf B R f k, true)) := by
              unfold Hid; rw [nx, if_neg (by simp [HX.out]), if_pos (.inr hlt)]
            clear hfd
            generalize (nx B R f k).2.1 = l at *
            generalize (nx B R f k).1 = mk at *
            have hlt' : (afterOf B R f k : Int) < (l : Int) := by omega
            go_wp2_with (go_at_call 79; refine (after_any N _ B R f k _ (H.out.chain hB.out) HG.out hf hkv).mono ?_; rintro e w1 ⟨rfl, hb1⟩)
            go_roundw
            case rel => exact ⟨k + 1, by omega, by go_num, by rw [HE.out], by rw [HE.out], by rw [HE.out], chain hB.out hb1⟩
            case measure => simp [intOf]; omega
          · have HE : Hid (nx B R f (k + 1) = nx B R f k) := by
              unfold Hid; rw [nx, if_neg (by simp [HX.out]), if_neg (by rw [hfd]; simp; omega)]
            have HFD : Hid _ := Lib.hid hfd
            clear hfd
            have hlt' : ((nx B R f k).2.1 : Int) ≤ (afterOf B R f k : Int) := by omega
            go_wp2_with (go_at_call 79; refine (after_any N _ B R f k _ (H.out.chain hB.out) HG.out hf hkv).mono ?_; rintro e w1 ⟨rfl, hb1⟩)
            go_roundw
            case rel => exact ⟨k + 1, by omega, by go_num, by rw [HE.out], by rw [HE.out, HFD.out], by rw [HE.out], chain hB.out hb1⟩
            case measure => simp [intOf]; omega
      · have hxe : (R.X f k != -1) = true := by simp [hx]
        have HE : Hid (nx B R f (k + 1) = nx B R f k) := by
          unfold Hid; rw [nx, if_pos hx]
        clear hx
        go_wp2
        go_roundw
        case rel => exact ⟨k + 1, by omega, by go_num, by rw [HE.out], by rw [HE.out], by rw [HE.out], hB⟩
        case measure => simp [intOf]; omega
    · have Hk : Hid (k = B.nv) := by have := HL.out; show k = _; omega
      go_wp2
      go_ret2
      exact ⟨by show Ending.returned (.tuple #[.int .i64 ((nx B R f k).1 : Int), .bool (nx B R f k).2.2]) = _; rw [Hk.out], below_of hB.out⟩

end Go.Proofs.Ytmmadlpkolcgkaa
