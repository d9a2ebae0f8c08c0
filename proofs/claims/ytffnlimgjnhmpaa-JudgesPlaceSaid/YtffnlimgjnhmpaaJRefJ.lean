/-
  JRefJ: Sure of the reference.
-/
import Derived.Test.YtffnlimgjnhmpaaJRefI
import Derived.Test.YtffnlimgjnhmpaaJKM
namespace Go.Proofs.Ytffnlimgjnhmpaa
open Go.RowKit

set_option maxHeartbeats 3200000 in
set_option maxRecDepth 100000 in
theorem rSure_any (N : Nat) (v : Value) (S : JB) (er : Int) (w : World) (h : ShowAt N w v S) (her : errS S = er) :
    Calls Try.prog 50 #[v] w fun e w' => ∃ u1 u2, e = .returned (.tuple #[u1, u2, .int .i64 er]) ∧ OwnI w.heap.size w' u1 (spL er (prL S 1 S.np)) ∧ OwnI w.heap.size w' u2 (spL er (prL S 2 S.np)) ∧ Below w.heap.size w w' := by
  obtain ⟨a1, c1, rfl⟩ := h.form
  obtain ⟨ws, hws, HB, hsz, hblk⟩ := box1 w (.cells #[.int .i64 S.J, .int .i64 S.D, .int .i64 S.Z, .slice a1 S.np c1] 24)
  have q0 := cell_blk hblk 0 rfl
  have q1 := cell_blk hblk 1 rfl
  have q2 := cell_blk hblk 2 rfl
  have q3 := cell_blk hblk 3 rfl
  have HNZ : Hid (N ≤ w.heap.size) := h.1
  have HBK := Lib.hid (h.go HB.out)
  have HB0 : Hid (Below ws.heap.size ws ws) := Below.refl _ _
  have HNS : Hid (N ≤ ws.heap.size) := HBK.out.1
  have hlen := h.len
  clear hblk h
  have HER := Lib.hid her
  have HSQ : Hid (∀ W, Below ws.heap.size ws W → (W.cell? ⟨w.heap.size, 0, none⟩ = some (.int .i64 S.J) ∧ W.cell? ⟨w.heap.size, 1, none⟩ = some (.int .i64 S.D) ∧ W.cell? ⟨w.heap.size, 2, none⟩ = some (.int .i64 S.Z) ∧ W.cell? ⟨w.heap.size, 3, none⟩ = some (.slice a1 S.np c1))) := fun W hW => ⟨(hW.cell (p := ⟨w.heap.size, 0, none⟩) hsz).trans q0, (hW.cell (p := ⟨w.heap.size, 1, none⟩) hsz).trans q1, (hW.cell (p := ⟨w.heap.size, 2, none⟩) hsz).trans q2, (hW.cell (p := ⟨w.heap.size, 3, none⟩) hsz).trans q3⟩
  by_cases h0 : er = 0
  · subst h0
    have hok : okS S = true := by
      cases hk : okS S with
      | true => rfl
      | false => unfold errS at her; rw [hk] at her; cases her
    have HRD := Lib.hid (okS_good hok).rd
    have hnp6 := (okS_good hok).np
    clear hok her
    go_enter Try.func50, Try.ntmps50
    go_wp2_with (go_at_call 44; refine (rCheck_any N _ S _ HBK.out).mono ?_; rw [HER.out]; rintro e w1 ⟨rfl, hb1⟩; have HB1 : Hid (Below ws.heap.size ws w1) := hb1; clear hb1)
    clear hws q0 q1 q2 q3
    go_loopw [2, 3, 6] (fun u1 u2 i wr => ∃ k : Nat, k ≤ S.np ∧ i = .int .i64 k ∧ Hid (OwnI ws.heap.size wr u1 (prL S 1 k)) ∧ Hid (OwnI ws.heap.size wr u2 (prL S 2 k)) ∧ Hid (Apt u1 u2) ∧ Hid (Below ws.heap.size ws wr)) (fun _ _ i _ => S.np - (intOf i).toNat)
    case atStart => exact ⟨0, Nat.zero_le _, rfl, OwnI.nil _ _, OwnI.nil _ _, (fun g hg => by simp [Value.ownBlock] at hg), HB1⟩
    case round =>
      obtain ⟨k, hk, rfl, HO1, HO2, HA, HBr⟩ := hrel
      obtain ⟨r0, r1, r2, r3⟩ := HSQ.out wr HBr.out
      by_cases hkn : k < S.np
      · have hki : (k : Int) < (S.np : Int) := by omega
        obtain ⟨pz, hpz⟩ : ∃ x, prz S k = x := ⟨_, rfl⟩
        have HPZ := Lib.hid hpz
        have HL1 : Hid ((prL S 1 k).length ≤ 1000) := Nat.le_trans (sel_len _ _) (by omega)
        have HL2 : Hid ((prL S 2 k).length ≤ 1000) := Nat.le_trans (sel_len _ _) (by omega)
        have HHIT : Hid (prL S pz (k + 1) = prL S pz k ++ [(k : Int)]) := sel_hit (p := fun i => decide (prz S i = pz)) (decide_eq_true hpz)
        have HMISS : Hid (∀ c, c ≠ pz → prL S c (k + 1) = prL S c k) := fun c hc => sel_miss (p := fun i => decide (prz S i = c)) (decide_eq_false (by rw [hpz]; exact fun e => hc e.symm))
        rcases prz_123 S k with hc | hc | hc
        · have e : pz = 1 := by rw [← hpz]; exact hc
          subst e
          clear hpz hc
          go_wp2_with (first
            | (go_at_call 77; refine (prize_any N _ S k _ (HBK.out.go HBr.out) HRD.out hkn).mono ?_; rw [HPZ.out]; rintro e w2 ⟨rfl, hb2⟩; have HB2 : Hid (Below ws.heap.size ws w2) := bel HBr.out hb2; have HP1 := Lib.hid (HO1.out.go hb2); have HP2 := Lib.hid (HO2.out.go hb2); clear hb2 r0 r1 r2 r3)
            | (at_builtin; go_must (refine wpList_appI2 w2 rfl _ _ rfl rfl ws.heap.size _ _ k _ _ HP1.out HP2.out HA.out HB2.out.size HL1.out rfl rfl ?_); intro v6 w6 ho6 hu6 ha6 hb6))
          go_roundw
          case rel => exact ⟨k + 1, by omega, by go_num, by rw [HHIT.out]; exact ho6, by rw [HMISS.out 2 (by decide)]; exact hu6, ha6, HB2.out.trans hb6⟩
          case measure => simp [intOf]; omega
        · have e : pz = 2 := by rw [← hpz]; exact hc
          subst e
          clear hpz hc
          go_wp2_with (first
            | (go_at_call 77; refine (prize_any N _ S k _ (HBK.out.go HBr.out) HRD.out hkn).mono ?_; rw [HPZ.out]; rintro e w2 ⟨rfl, hb2⟩; have HB2 : Hid (Below ws.heap.size ws w2) := bel HBr.out hb2; have HP1 := Lib.hid (HO1.out.go hb2); have HP2 := Lib.hid (HO2.out.go hb2); clear hb2 r0 r1 r2 r3)
            | (at_builtin; go_must (refine wpList_appI2 w2 rfl _ _ rfl rfl ws.heap.size _ _ k _ _ HP2.out HP1.out HA.out.symm HB2.out.size HL2.out rfl rfl ?_); intro v6 w6 ho6 hu6 ha6 hb6))
          go_roundw
          case rel => exact ⟨k + 1, by omega, by go_num, by rw [HMISS.out 1 (by decide)]; exact hu6, by rw [HHIT.out]; exact ho6, ha6.symm, HB2.out.trans hb6⟩
          case measure => simp [intOf]; omega
        · have e : pz = 3 := by rw [← hpz]; exact hc
          subst e
          clear hpz hc
          go_wp2_with (go_at_call 77; refine (prize_any N _ S k _ (HBK.out.go HBr.out) HRD.out hkn).mono ?_; rw [HPZ.out]; rintro e w2 ⟨rfl, hb2⟩; have HB2 : Hid (Below ws.heap.size ws w2) := bel HBr.out hb2; have HP1 := Lib.hid (HO1.out.go hb2); have HP2 := Lib.hid (HO2.out.go hb2); clear hb2 r0 r1 r2 r3)
          go_roundw
          case rel => exact ⟨k + 1, by omega, by go_num, by rw [HMISS.out 1 (by decide)]; exact HP1.out, by rw [HMISS.out 2 (by decide)]; exact HP2.out, HA.out, HB2.out⟩
          case measure => simp [intOf]; omega
      · have hki : ¬ (k : Int) < (S.np : Int) := by omega
        have hke : k = S.np := by omega
        have HKE := Lib.hid hke
        clear hke
        go_wp2_with fail
        go_ret3
        have h1 := HO1.out
        have h2 := HO2.out
        rw [HKE.out] at h1 h2
        exact ⟨_, _, rfl, own_mono h1 HB.out.size, own_mono h2 HB.out.size, fin HB.out HBr.out⟩
  · have hne : (er != 0) = true := by simpa using h0
    have HS1 : Hid (spL er (prL S 1 S.np) = []) := spL_no h0 _
    have HS2 : Hid (spL er (prL S 2 S.np) = []) := spL_no h0 _
    clear h0 her
    go_enter Try.func50, Try.ntmps50
    go_wp2_with (go_at_call 44; refine (rCheck_any N _ S _ HBK.out).mono ?_; rw [HER.out]; rintro e w1 ⟨rfl, hb1⟩; have HB1 : Hid (Below ws.heap.size ws w1) := hb1; clear hb1)
    go_ret3
    exact ⟨_, _, rfl, by rw [HS1.out]; exact OwnI.nil _ _, by rw [HS2.out]; exact OwnI.nil _ _, fin HB.out HB1.out⟩

end Go.Proofs.Ytffnlimgjnhmpaa
