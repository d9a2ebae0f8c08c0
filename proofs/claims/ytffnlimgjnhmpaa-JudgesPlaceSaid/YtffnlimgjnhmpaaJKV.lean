/-
  JKV: decide of a jury.
-/
import Derived.Test.YtffnlimgjnhmpaaJKU
import Derived.Test.YtffnlimgjnhmpaaJKR
namespace Go.Proofs.Ytffnlimgjnhmpaa
open Go.RowKit

theorem without_rd {S : JB} (hG : GoodS S) {k : Nat} (hk : (k : Int) < S.J) : RdS (withoutJ S k) := by
  have hJ := hG.J1
  have hD0 := hG.D0
  have hDJ := hG.DJ
  have hel : ∀ i, i < S.np → (((S.pts i).eraseIdx k).length : Int) = S.J - 1 := fun i hi => by
    have := hG.len i hi
    rw [List.length_eraseIdx_of_lt (by omega)]; omega
  have hd : 0 ≤ drp S.J S.D ∧ 2 * drp S.J S.D ≤ S.J - 1 := by rw [drp_eq]; omega
  refine ⟨hd.1, fun i hi => ?_, fun i hi x hx => hG.pt i hi x (List.mem_of_mem_eraseIdx hx), by show S.np ≤ 40; have := hG.np; omega⟩
  have h1 := hel i hi
  have h5 := hG.J5
  show 2 * drp S.J S.D ≤ (((S.pts i).eraseIdx k).length : Int) ∧ ((S.pts i).eraseIdx k).length ≤ 40
  omega
theorem without_rj {S : JB} (hG : GoodS S) {k : Nat} (hk : (k : Int) < S.J) : RdJ (withoutJ S k) :=
  ⟨without_rd hG hk, fun i hi => by
    have h1 := hG.len i hi
    have h5 := hG.J5
    have h2 := List.length_eraseIdx_le (S.pts i) k
    show ((S.pts i).eraseIdx k).length ≤ 5
    omega⟩

set_option maxHeartbeats 6400000 in
set_option maxRecDepth 100000 in
theorem kdecide_any (N : Nat) (v : Value) (S : JB) (w : World) (h : ShowAt N w v S) (hG : GoodS S) (hin : allIn S = true) :
    Calls Try.prog 67 #[v] w fun e w' => ∃ u, e = .returned u ∧ OwnI w.heap.size w' u (dec S) ∧ Below w.heap.size w w' := by
  obtain ⟨a1, c1, rfl⟩ := h.form
  obtain ⟨ws, hws, HB, hsz, hblk⟩ := box1 w (.cells #[.int .i64 S.J, .int .i64 S.D, .int .i64 S.Z, .slice a1 S.np c1] 74)
  have q0 := cell_blk hblk 0 rfl
  have q1 := cell_blk hblk 1 rfl
  have q2 := cell_blk hblk 2 rfl
  have q3 := cell_blk hblk 3 rfl
  have HNZ : Hid (N ≤ w.heap.size) := h.1
  have HBK := Lib.hid (h.go HB.out)
  have HB0 : Hid (Below ws.heap.size ws ws) := Below.refl _ _
  have HNS : Hid (N ≤ ws.heap.size) := HBK.out.1
  have hlen := h.len
  clear hblk h
  have HG := Lib.hid hG
  have HIN := Lib.hid hin
  have hnp6 : S.np ≤ 6 := hG.np
  have hJ1 := hG.J1
  have hJ5 := hG.J5
  obtain ⟨jn, hjn⟩ : ∃ jn : Nat, S.J = jn := ⟨S.J.toNat, by omega⟩
  have HJN : Hid (S.J.toNat = jn) := by unfold Hid; omega
  have hj5 : jn ≤ 5 := by omega
  have HJI := Lib.hid hjn
  have HSQ : Hid (∀ W, Below ws.heap.size ws W → (W.cell? ⟨w.heap.size, 0, none⟩ = some (.int .i64 S.J) ∧ W.cell? ⟨w.heap.size, 1, none⟩ = some (.int .i64 S.D) ∧ W.cell? ⟨w.heap.size, 2, none⟩ = some (.int .i64 S.Z) ∧ W.cell? ⟨w.heap.size, 3, none⟩ = some (.slice a1 S.np c1))) := fun W hW => ⟨(hW.cell (p := ⟨w.heap.size, 0, none⟩) hsz).trans q0, (hW.cell (p := ⟨w.heap.size, 1, none⟩) hsz).trans q1, (hW.cell (p := ⟨w.heap.size, 2, none⟩) hsz).trans q2, (hW.cell (p := ⟨w.heap.size, 3, none⟩) hsz).trans q3⟩
  clear hG hin hjn
  go_enter Try.func67, Try.ntmps67
  go_upto_region 1 with fail
  go_upto_region 2 with (go_at_call 88; refine (agrees_any N _ S _ HBK.out HG.out.rj).mono ?_; rintro e w1 ⟨G, rfl, hC, hb1⟩; have HC := Lib.hid hC; have HB1 : Hid (Below ws.heap.size ws w1) := hb1; clear hb1 hC)
  clear hws q0 q1 q2 q3
  obtain ⟨r0, r1, r2, r3⟩ := HSQ.out w1 HB1.out
  go_wp2_with fail
  clear r0 r1 r2 r3
  go_loopw [4, 11] (fun u i wr => ∃ m : Nat, m ≤ jn ∧ i = .int .i64 m ∧ Hid (OwnI w1.heap.size wr u (sel (fun k => !decide (getL (withoutJ S k) = getL S)) m)) ∧ Hid (Below w1.heap.size w1 wr)) (fun _ i _ => jn - (intOf i).toNat)
  case atStart => exact ⟨0, Nat.zero_le _, rfl, OwnI.nil _ _, Below.refl _ _⟩
  case round =>
    obtain ⟨m, hm, rfl, HO, HBr⟩ := hrel
    have HBw : Hid (Below ws.heap.size ws wr) := bel HB1.out HBr.out
    have HCr := Lib.hid (HC.out.below HBr.out)
    obtain ⟨r0, r1, r2, r3⟩ := HSQ.out wr HBw.out
    by_cases hmn : m < jn
    · have hmi : (m : Int) < S.J := by have := HJI.out; omega
      have HMJ := Lib.hid hmi
      obtain ⟨bb, hbb⟩ : ∃ bb, decide (prL (withoutJ S m) 1 S.np = prL S 1 S.np) = bb := ⟨_, rfl⟩
      have HBB := Lib.hid hbb
      have HEQ : Hid (decide (getL (withoutJ S m) = getL S) = bb) := by unfold Hid; rw [← hbb]; exact decide_eq_decide.2 (by rw [eq_without HIN.out])
      clear hbb
      cases bb with
      | true =>
        have HE : Hid (sel (fun k => !decide (getL (withoutJ S k) = getL S)) (m + 1) = sel (fun k => !decide (getL (withoutJ S k) = getL S)) m) := sel_miss (by rw [HEQ.out]; rfl)
        go_wp2_with (first
          | (go_at_call 89; refine (kwithout_any N _ S m _ (HBK.out.go HBw.out) HG.out HMJ.out).mono ?_; rintro e w4 ⟨v4, rfl, hs4, hb4⟩; obtain ⟨a4, c4, rfl⟩ := hs4.form; have HS4 := Lib.hid hs4; have HB4 := Lib.hid hb4; have HC4 := Lib.hid (HCr.out.below hb4); clear hs4 hb4)
          | (go_at_call 98; refine (agrees1_any w4.heap.size ws.heap.size G _ (withoutJ S m) (prL S 1 S.np) w4 HS4.out (without_rj HG.out HMJ.out) HC4.out HC4.out.lt (Nat.le_trans (sel_len _ _) (by omega))).mono ?_; rw [show (withoutJ S m).np = S.np from rfl, HBB.out]; rintro e w5 ⟨rfl, hb5⟩; have HB5 : Hid (Below wr.heap.size wr w5) := bel HB4.out hb5; have HO5 := Lib.hid (HO.out.go HB5.out); have HB15 : Hid (Below w1.heap.size w1 w5) := bel HBr.out HB5.out; clear hb5))
        go_roundw
        case rel => exact ⟨m + 1, by omega, by go_num, by rw [HE.out]; exact HO5.out, HB15.out⟩
        case measure => simp [intOf]; omega
      | false =>
        have HE : Hid (sel (fun k => !decide (getL (withoutJ S k) = getL S)) (m + 1) = sel (fun k => !decide (getL (withoutJ S k) = getL S)) m ++ [(m : Int)]) := sel_hit (by rw [HEQ.out]; rfl)
        have HSL := Lib.hid (sel_len (fun k => !decide (getL (withoutJ S k) = getL S)) m)
        go_wp2_with (first
          | (go_at_call 89; refine (kwithout_any N _ S m _ (HBK.out.go HBw.out) HG.out HMJ.out).mono ?_; rintro e w4 ⟨v4, rfl, hs4, hb4⟩; obtain ⟨a4, c4, rfl⟩ := hs4.form; have HS4 := Lib.hid hs4; have HB4 := Lib.hid hb4; have HC4 := Lib.hid (HCr.out.below hb4); clear hs4 hb4)
          | (go_at_call 98; refine (agrees1_any w4.heap.size ws.heap.size G _ (withoutJ S m) (prL S 1 S.np) w4 HS4.out (without_rj HG.out HMJ.out) HC4.out HC4.out.lt (Nat.le_trans (sel_len _ _) (by omega))).mono ?_; rw [show (withoutJ S m).np = S.np from rfl, HBB.out]; rintro e w5 ⟨rfl, hb5⟩; have HB5 : Hid (Below wr.heap.size wr w5) := bel HB4.out hb5; have HO5 := Lib.hid (HO.out.go HB5.out); have HB15 : Hid (Below w1.heap.size w1 w5) := bel HBr.out HB5.out; clear hb5)
          | (at_builtin; go_must (refine wpList_appI w5 rfl _ _ rfl rfl w1.heap.size _ _ m HO5.out HB15.out.size (by have := HSL.out; omega) rfl rfl ?_); intro v6 w6 ho6 hb6))
        go_roundw
        case rel => exact ⟨m + 1, by omega, by go_num, by rw [HE.out]; exact ho6, HB15.out.trans hb6⟩
        case measure => simp [intOf]; omega
    · have hmi : ¬ (m : Int) < S.J := by have := HJI.out; omega
      have hme : m = jn := by omega
      have HME := Lib.hid hme
      clear hme
      go_wp2_with fail
      go_ret
      refine ⟨_, rfl, ?_, fin HB.out HBw.out⟩
      have h1 := HO.out
      rw [HME.out] at h1
      unfold dec
      rw [HJN.out]
      exact own_mono h1 (by have := HB.out.size; have := HB1.out.size; omega)

end Go.Proofs.Ytffnlimgjnhmpaa
