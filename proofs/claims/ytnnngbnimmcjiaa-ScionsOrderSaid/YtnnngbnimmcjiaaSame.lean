/-
  Same: two lists of scions of the same contents.
-/
import Derived.Test.YtnnngbnimmcjiaaLaw
namespace Go.Proofs.Ytnnngbnimmcjiaa
open Go.RowKit

theorem eqGard (a b c d : Int) (w : World) : (Op.equalIn 10000 49 (.agg #[.int .i64 a, .int .i64 b]) (.agg #[.int .i64 c, .int .i64 d])).run Try.prog w = .ok (decide (a = c) && decide (b = d)) w := by
  rw [show (10000 : Nat) = 9999 + 1 from rfl, run_equalIn_struct w 9999 49 _ _ (by kernel_rfl) (by kernel_rfl)]
  have e : (Try.prog.fieldsOf 49).toList = [{ name := "Places", embedded := false, type := 3, tag := "", pkgPath := "", offset := 0, byteOffset := 0 }, { name := "Frost", embedded := false, type := 3, tag := "", pkgPath := "", offset := 1, byteOffset := 8 }] := by kernel_rfl
  rw [e]
  go_simp
  by_cases h0 : a = c <;> by_cases h1 : b = d <;> simp [h0, h1]
theorem sameI_self (n : Nat) (x : Nat → Int) : sameI n x n x = true := by
  unfold sameI
  rw [Bool.and_eq_true, decide_eq_true_eq, allB_true]
  exact ⟨rfl, fun i _ => decide_eq_true rfl⟩

set_option maxRecDepth 100000 in
set_option maxHeartbeats 3200000 in
theorem same_any (N M : Nat) (v u : Value) (B : SB) (w : World) (h : BookAt N w v B) (h2 : BookAt M w u B) :
    Calls Try.prog 38 #[v, u] w fun e w' => e = .returned (.bool true) ∧ Below w.heap.size w w' := by
  obtain ⟨a1, z1, a2, z2, a3, z3, rfl⟩ := h.form
  obtain ⟨b1, y1, b2, y2, b3, y3, rfl⟩ := h2.form
  obtain ⟨ws, hws, HB, hsz, hsz1, hblk, hblk1⟩ := box2 w (.cells #[.slice a1 B.ns z1, .slice a2 B.ng z2, .slice a3 B.nw z3] 26) (.cells #[.slice b1 B.ns y1, .slice b2 B.ng y2, .slice b3 B.nw y3] 26)
  have q0 := cell_blk hblk 0 rfl
  have q1 := cell_blk hblk 1 rfl
  have q2 := cell_blk hblk 2 rfl
  have p0 := cell_blk hblk1 0 rfl
  have p1 := cell_blk hblk1 1 rfl
  have p2 := cell_blk hblk1 2 rfl
  have HBK := Lib.hid (h.go HB.out)
  have HBG := Lib.hid (h2.go HB.out)
  have HB0 : Hid (Below ws.heap.size ws ws) := Below.refl _ _
  have hN : Hid (N ≤ ws.heap.size) := HBK.out.1
  have hM : Hid (M ≤ ws.heap.size) := HBG.out.1
  have hl := h.lens
  clear hblk hblk1 h h2
  have HE1 : Hid (sameI B.ns B.C B.ns B.C = true) := sameI_self _ _
  go_enter Try.func38, Try.ntmps38
  go_wp2_with (go_at_call 32; refine (sameInts_any ws.heap.size _ _ _ _ _ _ _ (HBK.out.scions.mono (Below.refl _ _) hN.out) (HBG.out.scions.mono (Below.refl _ _) hM.out)).mono ?_; rintro e w1 ⟨rfl, q, rfl⟩; rw [HE1.out]; have HB1 : Hid (Below ws.heap.size ws (ws.drewN q)) := below_drewN (Below.refl _ _) q; have c1 := (old_of HB1.out).1)
  clear hws
  go_loopw [5] (fun i wr => ∃ k : Nat, k ≤ B.ng ∧ i = .int .i64 k ∧ Hid (Below ws.heap.size ws wr)) (fun i _ => B.ng - (intOf i).toNat)
  case atStart => exact ⟨0, Nat.zero_le _, rfl, HB1⟩
  clear c1 HB1
  case round =>
    obtain ⟨k, hk, rfl, HBr⟩ := hrel
    have r1 := (HBr.out.cell (p := ⟨w.heap.size, 1, none⟩) hsz).trans q1
    have s1 := (HBr.out.cell (p := ⟨w.heap.size + 1, 1, none⟩) hsz1).trans p1
    by_cases hkn : k < B.ng
    · have hki : (k : Int) < (B.ng : Int) := by omega
      obtain ⟨c5, o5, rfl, hc5, hr5⟩ := HBK.out.gardens.cells (by omega)
      obtain ⟨c6, o6, rfl, hc6, hr6⟩ := HBG.out.gardens.cells (by omega)
      have d0 := (HBr.out.cell (p := ⟨c5, o5 + k * 2, none⟩) (Nat.lt_of_lt_of_le hc5 hN.out)).trans (hr5 k hkn).1
      have d1 := (HBr.out.cell (p := ⟨c5, o5 + k * 2 + 1, none⟩) (Nat.lt_of_lt_of_le hc5 hN.out)).trans (hr5 k hkn).2
      have e0 := (HBr.out.cell (p := ⟨c6, o6 + k * 2, none⟩) (Nat.lt_of_lt_of_le hc6 hM.out)).trans (hr6 k hkn).1
      have e1 := (HBr.out.cell (p := ⟨c6, o6 + k * 2 + 1, none⟩) (Nat.lt_of_lt_of_le hc6 hM.out)).trans (hr6 k hkn).2
      have heq : ∀ w, (Op.equalIn 10000 49 (.agg #[.int .i64 (B.P k), .int .i64 (B.F k)]) (.agg #[.int .i64 (B.P k), .int .i64 (B.F k)])).run Try.prog w = .ok true w := fun w => by rw [eqGard]; simp
      clear hr5 hr6
      go_wp2
      go_quiet (fail)
      go_wp2
      go_roundw
      case rel => exact ⟨k + 1, by omega, by go_num, below_drewN HBr.out _⟩
      case measure => simp [intOf]; omega
    · have hki : ¬ (k : Int) < (B.ng : Int) := by omega
      obtain ⟨wo, hwo⟩ : ∃ wo, wo = wr := ⟨_, rfl⟩
      subst hwo
      have HBo := HBr
      clear HBr
      go_wp2
      go_loopw [6] (fun i wr => ∃ k : Nat, k ≤ B.nw ∧ i = .int .i64 k ∧ Hid (Below ws.heap.size ws wr)) (fun i _ => B.nw - (intOf i).toNat)
      case atStart => exact ⟨0, Nat.zero_le _, rfl, HBo⟩
      clear r1 s1 hkn hki hk
      case round =>
        obtain ⟨k, hk, rfl, HBr⟩ := hrel
        have r2 := (HBr.out.cell (p := ⟨w.heap.size, 2, none⟩) hsz).trans q2
        have s2 := (HBr.out.cell (p := ⟨w.heap.size + 1, 2, none⟩) hsz1).trans p2
        by_cases hkn : k < B.nw
        · have hki : (k : Int) < (B.nw : Int) := by omega
          obtain ⟨c5, o5, rfl, hc5, hr5⟩ := HBK.out.wants.cells (by omega)
          obtain ⟨c6, o6, rfl, hc6, hr6⟩ := HBG.out.wants.cells (by omega)
          have d0 := (HBr.out.cell (p := ⟨c5, o5 + k * 2, none⟩) (Nat.lt_of_lt_of_le hc5 hN.out)).trans (hr5 k hkn).1
          have d1 := (HBr.out.cell (p := ⟨c5, o5 + k * 2 + 1, none⟩) (Nat.lt_of_lt_of_le hc5 hN.out)).trans (hr5 k hkn).2
          have e0 := (HBr.out.cell (p := ⟨c6, o6 + k * 2, none⟩) (Nat.lt_of_lt_of_le hc6 hM.out)).trans (hr6 k hkn).1
          have e1 := (HBr.out.cell (p := ⟨c6, o6 + k * 2 + 1, none⟩) (Nat.lt_of_lt_of_le hc6 hM.out)).trans (hr6 k hkn).2
          have heq : ∀ w, (Op.equalIn 10000 43 (.agg #[.int .i64 (B.G k), .int .i64 (B.S k)]) (.agg #[.int .i64 (B.G k), .int .i64 (B.S k)])).run Try.prog w = .ok true w := fun w => by rw [eqWant]; simp
          clear hr5 hr6
          go_wp2
          go_quiet (fail)
          go_wp2
          go_roundw
          case rel => exact ⟨k + 1, by omega, by go_num, below_drewN HBr.out _⟩
          case measure => simp [intOf]; omega
        · have hki : ¬ (k : Int) < (B.nw : Int) := by omega
          go_wp2
          go_ret
          exact ⟨rfl, fin HB.out HBr.out⟩

end Go.Proofs.Ytnnngbnimmcjiaa
