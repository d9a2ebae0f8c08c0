/-
  JLaw: Far, Same.
-/
import Derived.Test.YtffnlimgjnhmpaaJWks
namespace Go.Proofs.Ytffnlimgjnhmpaa
open Go.RowKit

/-- far too much of something -/
def farS (S : JB) : Bool := decide (40 < S.np) || anyB S.np fun i => decide (40 < (S.pts i).length)
theorem farS_le {S : JB} (h : farS S = false) : S.np ≤ 40 ∧ ∀ i, i < S.np → (S.pts i).length ≤ 40 := by
  unfold farS at h
  rw [Bool.or_eq_false_iff, decide_eq_false_iff_not, anyB_false] at h
  exact ⟨by omega, fun i hi => by have := of_decide_eq_false (h.2 i hi); omega⟩

set_option maxRecDepth 100000 in
set_option maxHeartbeats 3200000 in
theorem Far_any (N : Nat) (v : Value) (S : JB) (w : World) (h : ShowAt N w v S) :
    Calls Try.prog 42 #[v] w fun e w' => e = .returned (.bool (farS S)) ∧ Below w.heap.size w w' := by
  obtain ⟨a1, c1, rfl⟩ := h.form
  obtain ⟨ws, hws, HB, hsz, hblk⟩ := box1 w (.cells #[.int .i64 S.J, .int .i64 S.D, .int .i64 S.Z, .slice a1 S.np c1] 24)
  have q0 := cell_blk hblk 0 rfl
  have q1 := cell_blk hblk 1 rfl
  have q2 := cell_blk hblk 2 rfl
  have q3 := cell_blk hblk 3 rfl
  have HNZ : Hid (N ≤ w.heap.size) := h.1
  have HBK := Lib.hid (h.go HB.out)
  have HB0 : Hid (Below ws.heap.size ws ws) := Below.refl _ _
  have HNS : Hid (N ≤ ws.heap.size) := HBK.out.1
  have hlen := h.len
  clear hblk h
  by_cases g1 : 40 < S.np
  · have g1i : (40 : Int) < (S.np : Int) := by omega
    have HF : Hid (farS S = true) := by unfold Hid farS; rw [decide_eq_true g1]; rfl
    clear g1
    go_enter Try.func42, Try.ntmps42
    go_wp2
    go_ret
    exact ⟨ret_bool HF.out.symm, HB.out⟩
  · have g1i : ¬ (40 : Int) < (S.np : Int) := by omega
    have hn40 : S.np ≤ 40 := by omega
    have HF : Hid (farS S = anyB S.np fun i => decide (40 < (S.pts i).length)) := by unfold Hid farS; rw [decide_eq_false g1]; rfl
    obtain ⟨A, C, hcap, _, hrows, hcells⟩ := HBK.out.plates.open
    have HCL := Lib.hid hcells
    have HSQ : Hid (∀ W, Below ws.heap.size ws W → (W.cell? ⟨w.heap.size, 0, none⟩ = some (.int .i64 S.J) ∧ W.cell? ⟨w.heap.size, 1, none⟩ = some (.int .i64 S.D) ∧ W.cell? ⟨w.heap.size, 2, none⟩ = some (.int .i64 S.Z) ∧ W.cell? ⟨w.heap.size, 3, none⟩ = some (.slice a1 S.np c1))) := fun W hW => ⟨(hW.cell (p := ⟨w.heap.size, 0, none⟩) hsz).trans q0, (hW.cell (p := ⟨w.heap.size, 1, none⟩) hsz).trans q1, (hW.cell (p := ⟨w.heap.size, 2, none⟩) hsz).trans q2, (hW.cell (p := ⟨w.heap.size, 3, none⟩) hsz).trans q3⟩
    clear g1 hcells hrows
    go_enter Try.func42, Try.ntmps42
    go_wp2_with fail
    clear hws
    go_loopw [3] (fun i wr => ∃ k : Nat, k ≤ S.np ∧ i = .int .i64 k ∧ Hid (∀ j, j < k → decide (40 < (S.pts j).length) = false) ∧ wr = ws) (fun i _ => S.np - (intOf i).toNat)
    case atStart => exact ⟨0, Nat.zero_le _, rfl, fun j h => absurd h (Nat.not_lt_zero _), rfl⟩
    case round =>
      obtain ⟨k, hk, rfl, HN, rfl⟩ := hrel
      by_cases hkn : k < S.np
      · have hki : (k : Int) < (S.np : Int) := by omega
        obtain ⟨b, off, rfl, hbN, hrr⟩ := HCL.out (by omega)
        have d1 := (hrr k hkn).2
        obtain ⟨n, hn⟩ : ∃ n, (S.pts k).length = n := ⟨_, rfl⟩
        rw [hn] at d1
        have HLN := Lib.hid hn
        clear hrr hn
        by_cases hn4 : 40 < n
        · have hni : (40 : Int) < (n : Int) := by omega
          have HE : Hid (farS S = true) := by unfold Hid; rw [HF.out, anyB_true]; exact ⟨k, hkn, decide_eq_true (by rw [HLN.out]; exact hn4)⟩
          go_wp2
          go_ret
          exact ⟨ret_bool HE.out.symm, HB.out⟩
        · have hni : ¬ (40 : Int) < (n : Int) := by omega
          have HE : Hid (∀ j, j < k + 1 → decide (40 < (S.pts j).length) = false) := fun j hj => by
            by_cases e : j = k
            · subst e; exact decide_eq_false (by rw [HLN.out]; exact hn4)
            · exact HN.out j (by omega)
          go_wp2
          go_roundw
          case rel => exact ⟨k + 1, by omega, by go_num, HE.out, by first | trivial | rfl⟩
          case measure => simp [intOf]; omega
      · have hki : ¬ (k : Int) < (S.np : Int) := by omega
        have HE : Hid (farS S = false) := by unfold Hid; rw [HF.out, anyB_false]; exact fun i hi => HN.out i (by omega)
        go_wp2
        go_ret
        exact ⟨ret_bool HE.out.symm, HB.out⟩

theorem same_q (N : Nat) (v u : Value) (l : List Int) (w : World) (h1 : LI N w v l) (h2 : LI N w u l) :
    Calls Try.prog 40 #[v, u] w fun e w' => e = .returned (.bool true) ∧ ∃ q, w' = w.drewN q := by
  refine (sameInts_any N _ _ _ _ _ _ w h1 h2).mono ?_
  rintro e w' ⟨rfl, hq⟩
  exact ⟨ret_bool (sameI_self _ _), hq⟩

set_option maxRecDepth 100000 in
set_option maxHeartbeats 6400000 in
theorem same_any (N M : Nat) (v u : Value) (S : JB) (w : World) (h : ShowAt N w v S) (h2 : ShowAt M w u S) (hn40 : S.np ≤ 40) :
    Calls Try.prog 47 #[v, u] w fun e w' => e = .returned (.bool true) ∧ Below w.heap.size w w' := by
  obtain ⟨a1, c1, rfl⟩ := h.form
  obtain ⟨a2, c2, rfl⟩ := h2.form
  obtain ⟨ws, hws, HB, hsz, hsz1, hblk, hblk1⟩ := box2 w (.cells #[.int .i64 S.J, .int .i64 S.D, .int .i64 S.Z, .slice a1 S.np c1] 24) (.cells #[.int .i64 S.J, .int .i64 S.D, .int .i64 S.Z, .slice a2 S.np c2] 24)
  have q0 := cell_blk hblk 0 rfl
  have q1 := cell_blk hblk 1 rfl
  have q2 := cell_blk hblk 2 rfl
  have q3 := cell_blk hblk 3 rfl
  have p0 := cell_blk hblk1 0 rfl
  have p1 := cell_blk hblk1 1 rfl
  have p2 := cell_blk hblk1 2 rfl
  have p3 := cell_blk hblk1 3 rfl
  have HBK := Lib.hid (h.go HB.out)
  have HBG := Lib.hid (h2.go HB.out)
  have hN : Hid (N ≤ ws.heap.size) := HBK.out.1
  have hM : Hid (M ≤ ws.heap.size) := HBG.out.1
  have HZ := Lib.hid (And.intro hblk hblk1)
  obtain ⟨A, C, _, _, hrows, hcells⟩ := HBK.out.plates.open
  obtain ⟨A2, C2, _, _, hrows2, hcells2⟩ := HBG.out.plates.open
  have HC1 := Lib.hid (And.intro hrows hcells)
  have HC2 := Lib.hid (And.intro hrows2 hcells2)
  have HB0 : Hid (Below ws.heap.size ws ws) := Below.refl _ _
  clear hblk hblk1 h h2 hrows hcells hrows2 hcells2
  go_enter Try.func47, Try.ntmps47
  go_wp2_with fail
  clear hws
  go_loopw [5] (fun i wr => ∃ k : Nat, k ≤ S.np ∧ i = .int .i64 k ∧ Hid (Below ws.heap.size ws wr)) (fun i _ => S.np - (intOf i).toNat)
  case atStart => exact ⟨0, Nat.zero_le _, rfl, HB0⟩
  case round =>
    obtain ⟨k, hk, rfl, HBr⟩ := hrel
    have r3 := (HBr.out.cell (p := ⟨w.heap.size, 3, none⟩) hsz).trans q3
    have s3 := (HBr.out.cell (p := ⟨w.heap.size + 1, 3, none⟩) hsz1).trans p3
    by_cases hkn : k < S.np
    · have hki : (k : Int) < (S.np : Int) := by omega
      obtain ⟨b5, o5, rfl, hb5, hr5⟩ := HC1.out.2 (by omega)
      obtain ⟨b6, o6, rfl, hb6, hr6⟩ := HC2.out.2 (by omega)
      have d0 := (HBr.out.cell (p := ⟨b5, o5 + k * 2, none⟩) (Nat.lt_of_lt_of_le hb5 hN.out)).trans (hr5 k hkn).1
      have d1 := (HBr.out.cell (p := ⟨b5, o5 + k * 2 + 1, none⟩) (Nat.lt_of_lt_of_le hb5 hN.out)).trans (hr5 k hkn).2
      have e0 := (HBr.out.cell (p := ⟨b6, o6 + k * 2, none⟩) (Nat.lt_of_lt_of_le hb6 hM.out)).trans (hr6 k hkn).1
      have e1 := (HBr.out.cell (p := ⟨b6, o6 + k * 2 + 1, none⟩) (Nat.lt_of_lt_of_le hb6 hM.out)).trans (hr6 k hkn).2
      have HL1 : Hid (LI ws.heap.size wr (.slice (A k) (S.pts k).length (C k)) (S.pts k)) := (HC1.out.1 k hkn).2.mono (HBr.out.mono hN.out) hN.out
      have HL2 : Hid (LI ws.heap.size wr (.slice (A2 k) (S.pts k).length (C2 k)) (S.pts k)) := (HC2.out.1 k hkn).2.mono (HBr.out.mono hM.out) hM.out
      have HSI : Hid (sameI (S.pts k).length (fun i => (S.pts k).getD i 0) (S.pts k).length (fun i => (S.pts k).getD i 0) = true) := sameI_self _ _
      clear hr5 hr6
      go_upto_region 6 with fail
      go_quiet ((go_at_call 40; exact Calls.quiet_of (same_q ws.heap.size _ _ (S.pts k) _ (HL1.out.mono (below_drewN (Below.refl _ _) _) (Nat.le_refl _)) (HL2.out.mono (below_drewN (Below.refl _ _) _) (Nat.le_refl _)))))
      go_wp2_with fail
      go_roundw
      case rel => exact ⟨k + 1, by omega, by go_num, HBr.out.trans (below_drewN (Below.refl _ _) _)⟩
      case measure => simp [intOf]; omega
    · have hki : ¬ (k : Int) < (S.np : Int) := by omega
      go_wp2
      go_ret
      exact ⟨rfl, fin HB.out HBr.out⟩

end Go.Proofs.Ytffnlimgjnhmpaa
