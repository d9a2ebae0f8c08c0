/-
  MarksLeave says true, of any book, fruits and leave.
-/
import Derived.Test.YtmmadlpkolcgkaaLeave3
import Derived.Test.YtmmadlpkolcgkaaCApart
import Derived.Deep.DeepCutAuto
namespace Go.Proofs.Ytmmadlpkolcgkaa
open Go.RowKit

set_option maxHeartbeats 4000000 in
set_option maxRecDepth 100000 in
theorem leave_out (N : Nat) (v u : Value) (B : Bk) (R : Fr) (xw xs xm xv lo : Int) (w : World) (h : BookAt N w v B) (hf : FruitsAt N w u R)
    (hn : rdy B R = false ∨ ¬ (0 ≤ xw ∧ xw ≤ 9)) :
    Calls Try.prog 9 #[v, u, .agg #[.int .i64 xw, .int .i64 xs, .int .i64 xm, .int .i64 xv, .int .i64 lo]] w fun e w' => e = .returned (.bool true) ∧ Below w.heap.size w w' := by
  have h' := h
  obtain ⟨_, a1, c1, a2, c2, a3, c3, rfl, _⟩ := h'
  obtain ⟨ws, hws, HB, hsz, hsz1, hblk, hblk1⟩ := box2 w (.cells #[.slice a1 B.nv c1, .slice a2 B.nf c2, .slice a3 B.ns c3, .int .i64 B.wr] 25) (.cells #[.int .i64 xw, .int .i64 xs, .int .i64 xm, .int .i64 xv, .int .i64 lo] 70)
  have q0 := cell_blk hblk 0 rfl
  have q1 := cell_blk hblk 1 rfl
  have q2 := cell_blk hblk 2 rfl
  have q3 := cell_blk hblk 3 rfl
  have p0 := cell_blk hblk1 0 rfl
  obtain ⟨HBF, HB0⟩ := entry HB.out h hf
  clear hblk hblk1 h hf
  cases hr : rdy B R with
  | false =>
    have HR := Lib.hid hr
    clear hr hn
    go_enter Try.func9, Try.ntmps9
    go_wp2_with (first
      | (go_at_call 44; refine (ready_any N _ _ B R _ (HBF.out.go HB0.out).1 (HBF.out.go HB0.out).2).mono ?_; rintro e w1 ⟨rfl, hb1⟩; rw [HR.out]; (try clear c0); have HB1 := Lib.hid (bel HB0.out hb1); have c1 := (old_of HB1.out).1; clear hb1)
      | (go_at_call 15; refine (works_any _).mono ?_; rintro e w2 ⟨rfl, hb2⟩; (try clear c1); have HB2 := Lib.hid (bel HB1.out hb2); have c2 := (old_of HB2.out).1; clear hb2))
    go_ret
    exact ⟨rfl, fin HB.out HB2.out⟩
  | true =>
    have HR := Lib.hid hr
    have hx : ¬ (0 ≤ xw ∧ xw ≤ 9) := by
      rcases hn with hn | hn
      · rw [hr] at hn; simp at hn
      · exact hn
    clear hr hn
    by_cases h0 : 0 ≤ xw
    · have e0 : decide (xw < 0) = false := by simp; omega
      have e1 : decide (9 < xw) = true := by simp; omega
      have e2 : (9 : Int) < xw := by omega
      clear hx
      go_enter Try.func9, Try.ntmps9
      go_wp2_with (first
        | (go_at_call 44; refine (ready_any N _ _ B R _ (HBF.out.go HB0.out).1 (HBF.out.go HB0.out).2).mono ?_; rintro e w1 ⟨rfl, hb1⟩; rw [HR.out]; (try clear c0); have HB1 := Lib.hid (bel HB0.out hb1); have c1 := (old_of HB1.out).1; clear hb1)
        | (go_at_call 15; refine (works_any _).mono ?_; rintro e w2 ⟨rfl, hb2⟩; (try clear c1); have HB2 := Lib.hid (bel HB1.out hb2); have c2 := (old_of HB2.out).1; clear hb2))
      go_ret
      exact ⟨rfl, fin HB.out HB2.out⟩
    · have e0 : decide (xw < 0) = true := by simp; omega
      have e2 : xw < 0 := by omega
      clear hx h0
      go_enter Try.func9, Try.ntmps9
      go_wp2_with (first
        | (go_at_call 44; refine (ready_any N _ _ B R _ (HBF.out.go HB0.out).1 (HBF.out.go HB0.out).2).mono ?_; rintro e w1 ⟨rfl, hb1⟩; rw [HR.out]; (try clear c0); have HB1 := Lib.hid (bel HB0.out hb1); have c1 := (old_of HB1.out).1; clear hb1)
        | (go_at_call 15; refine (works_any _).mono ?_; rintro e w2 ⟨rfl, hb2⟩; (try clear c1); have HB2 := Lib.hid (bel HB1.out hb2); have c2 := (old_of HB2.out).1; clear hb2))
      go_ret
      exact ⟨rfl, fin HB.out HB2.out⟩

set_option maxHeartbeats 8000000 in
set_option maxRecDepth 100000 in
theorem leave_in (N : Nat) (v u : Value) (B : Bk) (R : Fr) (xw xs xm xv lo : Int) (w : World) (h : BookAt N w v B) (hf : FruitsAt N w u R)
    (hr : rdy B R = true) (hx0 : 0 ≤ xw) (hx9 : xw ≤ 9) :
    Calls Try.prog 9 #[v, u, .agg #[.int .i64 xw, .int .i64 xs, .int .i64 xm, .int .i64 xv, .int .i64 lo]] w fun e w' => e = .returned (.bool true) ∧ Below w.heap.size w w' := by
  have h' := h
  obtain ⟨_, a1, c1, a2, c2, a3, c3, rfl, _⟩ := h'
  obtain ⟨ws, hws, HB, hsz, hsz1, hblk, hblk1⟩ := box2 w (.cells #[.slice a1 B.nv c1, .slice a2 B.nf c2, .slice a3 B.ns c3, .int .i64 B.wr] 25) (.cells #[.int .i64 xw, .int .i64 xs, .int .i64 xm, .int .i64 xv, .int .i64 lo] 70)
  have q0 := cell_blk hblk 0 rfl
  have q1 := cell_blk hblk 1 rfl
  have q2 := cell_blk hblk 2 rfl
  have q3 := cell_blk hblk 3 rfl
  have p0 := cell_blk hblk1 0 rfl
  have p1 := cell_blk hblk1 1 rfl
  have p2 := cell_blk hblk1 2 rfl
  have p3 := cell_blk hblk1 3 rfl
  have p4 := cell_blk hblk1 4 rfl
  obtain ⟨HBF, HB0⟩ := entry HB.out h hf
  clear hblk hblk1 h hf
  obtain ⟨af, cf, rfl, hRn, _⟩ := id HBF.out.2
  have HNS : Hid (N ≤ ws.heap.size) := HBF.out.1.1
  have hg := (rdy_parts hr).2.2
  have HR := Lib.hid hr
  have HCK := Lib.hid (rdy_parts hr).1
  have HG := Lib.hid hg
  have hwr0 := hg.wr0
  have hwr9 := hg.wr9
  have hnv := hg.nv
  have hns := hg.ns
  have HLEN : Hid (B.nv ≤ 1000000 ∧ B.nf ≤ 1000000 ∧ B.ns ≤ 1000000 ∧ ∀ s, s < B.ns → B.nc s ≤ 1000 ∧ ∀ i, i < B.nc s → B.ncc s i ≤ 1000) := by
    refine ⟨by omega, by rw [hg.nf]; omega, by omega, fun s hs => ⟨by rw [hg.nc s hs]; omega, fun i hi => ?_⟩⟩
    rw [hg.nc s hs] at hi
    have := okCan_len (hg.can s hs i hi) (hg.V i hi).2
    omega
  clear hr hg
  go_enter Try.func9, Try.ntmps9
  go_upto_region 5 with (first
    | (go_at_call 44; refine (ready_any N _ _ B R _ (HBF.out.go HB0.out).1 (HBF.out.go HB0.out).2).mono ?_; rintro e w1 ⟨rfl, hb1⟩; rw [HR.out]; (try clear c0); have HB1 := Lib.hid (bel HB0.out hb1); have c1 := (old_of HB1.out).1; clear hb1)
    | (go_at_call 16; refine (copy_any N _ B _ (HBF.out.go HB1.out).1 HLEN.out.1 HLEN.out.2.1 HLEN.out.2.2.1 HLEN.out.2.2.2).mono ?_; rintro e w2 ⟨v2, rfl, how2, hb2⟩; obtain ⟨v1, v2, v3, m, rfl, htwo, hsor⟩ := how2; obtain ⟨g1, p1', rfl⟩ := htwo.form1; obtain ⟨g2, p2', rfl⟩ := htwo.form2; obtain ⟨ao3, p3', rfl⟩ := hsor.form; have HTWO := Lib.hid htwo; have HSOR := Lib.hid hsor; have HC2 := Lib.hid hb2; clear htwo hsor; (try clear c1); have HB2 := Lib.hid (bel HB1.out hb2); have c2 := (old_of HB2.out).1; clear hb2; have hsz2 := Nat.lt_of_lt_of_le hsz HB2.out.size; have hsz2b := Nat.lt_of_lt_of_le hsz1 HB2.out.size))
  obtain ⟨w3, hw3⟩ : ∃ w3 : World, w2.alloc (.cells #[.slice (some ⟨g1, 0, none⟩) B.nv p1', .slice (some ⟨g2, 0, none⟩) B.nf p2', .slice ao3 B.ns p3', .int .i64 (B.wr + xw)] 25) = w3 := ⟨_, rfl⟩
  rw [hw3]
  have hb3 : Below w2.heap.size w2 w3 := by rw [← hw3]; exact below_alloc (Nat.le_refl _) _
  have HBX : Hid (w3.heap[w2.heap.size]? = some (Obj.cells #[.slice (some ⟨g1, 0, none⟩) B.nv p1', .slice (some ⟨g2, 0, none⟩) B.nf p2', .slice ao3 B.ns p3', .int .i64 (B.wr + xw)] 25 (0, 0))) := by rw [← hw3]; exact World.alloc_heap_new _ _
  have HG3 : Hid (w2.heap.size < w3.heap.size) := by rw [← hw3]; unfold Hid; simp
  have HTW : Hid (Two w3 ws.heap.size m (.slice (some ⟨g1, 0, none⟩) B.nv p1') (.slice (some ⟨g2, 0, none⟩) B.nf p2') B) := (HTWO.out.lower HB1.out.size).grow hb3
  have HSO : Hid (SortsIn w3 m w2.heap.size (.slice ao3 B.ns p3') B.ns B) := HSOR.out.grow hb3
  have HB3 := Lib.hid (bel HB2.out hb3)
  have HGB : Hid (ws.heap.size ≤ w2.heap.size) := HB2.out.size
  obtain ⟨gb, hgb⟩ : ∃ gb, w2.heap.size = gb := ⟨_, rfl⟩
  rw [hgb] at HBX HG3 HSO HGB ⊢
  clear hw3 hb3 hgb HTWO HSOR HC2 c2 HB2 hws hsz2 hsz2b
  have c3' := (old_of HB3.out).1
  have g3 := HG3.out
  have z0 := cell_blk HBX.out 0 rfl
  have z1 := cell_blk HBX.out 1 rfl
  go_upto_if 45 with (first
    | (go_at_call 53; refine (isMark_any N _ B lo _ (HBF.out.go HB3.out).1).mono ?_; rintro e w4 ⟨rfl, hb4⟩; have HC4 := Lib.hid hb4; (try clear c3); have HB4 := Lib.hid (bel HB3.out hb4); have c4 := (old_of HB4.out).1; clear hb4))
  clear z0 z1
  have hb4 := HC4.out
  have HBX4 := Lib.hid (keep_blk hb4 HBX.out)
  have HTW4 := Lib.hid (HTW.out.grow hb4)
  have HSO4 := Lib.hid (HSO.out.grow hb4)
  have HG4 : Hid (gb < w4.heap.size) := Nat.lt_of_lt_of_le HG3.out hb4.size
  clear HC4 hb4 HBX HTW HSO HG3 c3' g3
  go_cut [] (fun wx => Hid (Below ws.heap.size ws wx) ∧ Hid (Two wx ws.heap.size m (.slice (some ⟨g1, 0, none⟩) B.nv p1') (.slice (some ⟨g2, 0, none⟩) B.nf p2') (B.loose xw lo)) ∧ Hid (SortsIn wx m gb (.slice ao3 B.ns p3') B.ns (B.loose xw lo)) ∧ Hid (wx.heap[gb]? = some (Obj.cells #[.slice (some ⟨g1, 0, none⟩) B.nv p1', .slice (some ⟨g2, 0, none⟩) B.nf p2', .slice ao3 B.ns p3', .int .i64 (B.wr + xw)] 25 (0, 0))) ∧ Hid (gb < wx.heap.size))
  case first =>
    have y1 := cell_blk HBX4.out 1 rfl
    have gg := HG4.out
    cases hlo : (decide (0 ≤ lo) && decide (lo < (B.nv : Int))) with
    | false =>
      go_wp2_with fail
      go_meet
      refine ⟨HB4, Two.congr HTW4.out rfl rfl rfl fun i hi => ?_, HSO4, HBX4, HG4⟩
      have : ¬ ((i : Int) = lo) := by
        rintro rfl
        rw [HG.out.nf] at hi
        simp at hlo
        omega
      simp [Bk.loose, this]
    | true =>
      obtain ⟨k, rfl, hk⟩ : ∃ k : Nat, lo = k ∧ k < B.nv := ⟨lo.toNat, by simp at hlo; omega, by simp at hlo; omega⟩
      obtain ⟨gf, cf', ef, hcf, hfz, hlow, ⟨cur, hcur⟩, ht2, hs2⟩ := Two.put HTW4.out HSO4.out (i := k) (by rw [HG.out.nf]; exact hk) (by omega) xw
      cases ef
      have hfz0 := hfz k
      have hki : (k : Int) < (B.nf : Int) := by rw [HG.out.nf]; omega
      have HT2 := Lib.hid ht2
      have HS2 := Lib.hid hs2
      have HCUR := Lib.hid hcur
      have HLOW := Lib.hid hlow
      clear hlo hk hfz ht2 hs2 hcur hlow
      go_wp2_with fail
      go_meet
      refine ⟨HB4.out.setCell (p := ⟨g2, k, none⟩) HLOW.out _, HT2, HS2, ?_, ?_⟩
      · exact (set_other (i := k) (v := .int .i64 0) HCUR.out gb _ _ (by decide) HBX4.out).trans HBX4.out
      · have := HG4.out; unfold Hid; simpa [World.setCell] using this
  case rest =>
  obtain ⟨HB5, HTW5, HSO5, HBX5, HG5⟩ := hcut
  clear HB4 c4 HBX4 HTW4 HSO4 HG4
  obtain ⟨w5, rfl⟩ : ∃ w5, w5 = wc := ⟨wc, rfl⟩
  have c5 := (old_of HB5.out).1
  have C := leaveBk B xw xs xm xv lo
  go_upto_region 7 with fail
  go_cut [60] (fun c wx => c = .bool (inR xs B.ns && inR xm B.nv) ∧ Hid (Below w5.heap.size w5 wx) ∧ Hid (Below ws.heap.size ws wx))
  case first =>
    cases hs : inR xs B.ns with
    | false =>
      have HS := Lib.hid hs
      clear hs
      go_wp2_with (first
        | (go_at_call 54; refine (isSort_any N _ B xs _ (HBF.out.go HB5.out).1).mono ?_; rintro e w6 ⟨rfl, hb6⟩; rw [show (decide (0 ≤ xs) && decide (xs < (B.ns : Int))) = false from HS.out]; have HC6 := Lib.hid hb6; (try clear c5); have HB6 := Lib.hid (bel HB5.out hb6); have c6 := (old_of HB6.out).1; clear hb6))
      go_meet
      exact ⟨by rw [HS.out]; rfl, HC6, HB6⟩
    | true =>
      have HS := Lib.hid hs
      cases hm : inR xm B.nv
      all_goals
        have HM := Lib.hid hm
        (try clear hs hm)
        go_wp2_with (first
          | (go_at_call 54; refine (isSort_any N _ B xs _ (HBF.out.go HB5.out).1).mono ?_; rintro e w6 ⟨rfl, hb6⟩; rw [show (decide (0 ≤ xs) && decide (xs < (B.ns : Int))) = true from HS.out]; have HC6 := Lib.hid hb6; (try clear c5); have HB6 := Lib.hid (bel HB5.out hb6); have c6 := (old_of HB6.out).1; clear hb6)
          | (go_at_call 53; refine (isMark_any N _ B xm _ (HBF.out.go HB6.out).1).mono ?_; rintro e w7 ⟨rfl, hb7⟩; rw [show (decide (0 ≤ xm) && decide (xm < (B.nv : Int))) = _ from HM.out]; have HC7 := Lib.hid (bel HC6.out hb7); (try clear c6); have HB7 := Lib.hid (bel HB6.out hb7); have c7 := (old_of HB7.out).1; clear hb7))
        go_meet
        exact ⟨by rw [HS.out, HM.out]; rfl, HC7, HB7⟩
  case rest =>
  obtain ⟨rfl, HC6, HB6⟩ := hcut
  have HBX6 := Lib.hid (keep_blk HC6.out HBX5.out)
  have HTW6 := Lib.hid (HTW5.out.grow HC6.out)
  have HSO6 := Lib.hid (HSO5.out.grow HC6.out)
  have HG6 : Hid (gb < wc.heap.size) := Nat.lt_of_lt_of_le HG5.out HC6.out.size
  clear HB5 c5 HBX5 HTW5 HSO5 HG5 HC6
  obtain ⟨w6, rfl⟩ : ∃ w6, w6 = wc := ⟨wc, rfl⟩
  have c6 := (old_of HB6.out).1
  go_upto_if 60 with fail
  go_cut [8, 9] (fun _ _ wx => Hid (Below ws.heap.size ws wx) ∧ Hid (BookAt wx.heap.size wx (.agg #[.slice (some ⟨g1, 0, none⟩) B.nv p1', .slice (some ⟨g2, 0, none⟩) B.nf p2', .slice ao3 B.ns p3', .int .i64 (B.wr + xw)]) (leaveBk B xw xs xm xv lo)) ∧ Hid (wx.heap[gb]? = some (Obj.cells #[.slice (some ⟨g1, 0, none⟩) B.nv p1', .slice (some ⟨g2, 0, none⟩) B.nf p2', .slice ao3 B.ns p3', .int .i64 (B.wr + xw)] 25 (0, 0))) ∧ Hid (gb < wx.heap.size))
  case first =>
    cases hsm : (inR xs B.ns && inR xm B.nv) with
    | false =>
      have HBK : Hid (BookAt w6.heap.size w6 (.agg #[.slice (some ⟨g1, 0, none⟩) B.nv p1', .slice (some ⟨g2, 0, none⟩) B.nf p2', .slice ao3 B.ns p3', .int .i64 (B.wr + xw)]) (leaveBk B xw xs xm xv lo)) := by
        unfold Hid leaveBk
        rw [hsm]
        obtain ⟨k1, k2⟩ := HTW6.out.ints (Nat.le_of_lt (Nat.lt_of_le_of_lt HGB.out HG6.out)) HLEN.out.1 HLEN.out.2.1
        exact ⟨Nat.le_refl _, _, _, _, _, _, _, rfl, k1, k2, SortsIn.sorts (B := B) HSO6.out (Nat.le_of_lt HG6.out) HLEN.out.2.2.1 HLEN.out.2.2.2⟩
      clear hsm
      go_wp2_with fail
      go_meet
      exact ⟨HB6, HBK, HBX6, HG6⟩
    | true =>
      obtain ⟨a, b, rfl, rfl, ha, hb⟩ : ∃ a b : Nat, xs = a ∧ xm = b ∧ a < B.ns ∧ b < B.nv := by
        unfold inR at hsm
        simp only [Bool.and_eq_true, decide_eq_true_eq] at hsm
        exact ⟨xs.toNat, xm.toNat, by omega, by omega, by omega, by omega⟩
      have HSM := Lib.hid hsm
      obtain ⟨i0, hi, hz0, hz1, hz2⟩ := info_parts Try.infoInt
      obtain ⟨n, hn⟩ : ∃ n : Nat, B.V b = n := ⟨(B.V b).toNat, by have := HG.out.V b hb; omega⟩
      obtain ⟨b1, o1, rfl, hb1, hv1⟩ := val_at HBF.out.1 hb
      obtain ⟨b3, o3, cap3, b4, o4, asl, csl, rfl, hb3, hq3, hb4, hq4, HI3, _⟩ := can_at HBF.out.1 ha (i := b) (by rw [HG.out.nc a ha]; exact hb)
      have g1' : b1 < ws.heap.size := Nat.lt_of_lt_of_le hb1 HNS.out
      have g3 : b3 < ws.heap.size := Nat.lt_of_lt_of_le hb3 HNS.out
      have g4 : b4 < ws.heap.size := Nat.lt_of_lt_of_le hb4 HNS.out
      have hai : (a : Int) < (B.ns : Int) := by omega
      have hbi : (b : Int) < (B.nv : Int) := by omega
      have hbc : (b : Int) < (B.nc a : Int) := by rw [HG.out.nc a ha]; omega
      have HNE : Hid ((B.V b).toNat = n) := by unfold Hid; omega
      have hn5 : n ≤ 5 := by have := HG.out.V b hb; omega
      rw [hn] at hv1
      have HA := Lib.hid ha
      have HBB := Lib.hid hb
      clear hsm hn hb1 hb3 hb4 ha hb
      go_wp2
      go_loopw [8, 9] (fun va i wr => ∃ k : Nat, k ≤ n ∧ i = .int .i64 k ∧ Hid (OwnI w6.heap.size wr va (sel (moreP B a b xv) k)) ∧ Hid (Below w6.heap.size w6 wr)) (fun _ i _ => n - (intOf i).toNat)
      case atStart => exact ⟨0, Nat.zero_le _, rfl, own_nil _ _, Below.refl _ _⟩
      case round =>
      clear c6
      obtain ⟨k, hk, rfl, HO, HCr⟩ := hrel
      have HBr := Lib.hid (bel HB6.out HCr.out)
      have cr := (old_of HBr.out).1
      by_cases hkn : k < n
      · have HQ5 : Hid ((sel (moreP B a b xv) k).length ≤ 5) := by have := sel_len (moreP B a b xv) k; show _ ≤ _; omega
        obtain ⟨q, hq⟩ : ∃ q, (sel (moreP B a b xv) k).length = q := ⟨_, rfl⟩
        have HQ := Lib.hid hq
        rw [hq] at HQ5
        have HKN := Lib.hid hkn
        clear hq hkn
        have Srd := old_of HBr.out.drew; have HBrd := Srd.2
        go_upto_region 12 with fail
        by_cases hv : (k : Int) = xv
        · have hvb : ((k : Int) == xv) = true := by simp [hv]
          have HP : Hid (sel (moreP B a b xv) (k + 1) = sel (moreP B a b xv) k ++ [(k : Int)]) := sel_hit (by unfold moreP; rw [decide_eq_true hv, Bool.true_or])
          clear hv
          refine wp_region_held_drew (S := (fun w' => (∀ b o, b < ws.heap.size → w'.cell? ⟨b, o, none⟩ = ws.cell? ⟨b, o, none⟩) ∧ Hid (Below ws.heap.size ws w'))) (by kernel_rfl) Srd (fun hHeld => ?_)
          (refine wpAnyH_take (i := 0) (v := ?_) rfl (by kernel_rfl) (by kernel_rfl) (by kernel_rfl) (fun _ _ _ h => h) (Or.inl ⟨by rfl, ?_⟩) (by assumption) ?_; rotate_left; (focus (intro w hSw; (try dsimp only at hSw); go_simp; (try with_reducible rfl))); (try simp only [List.getElem_toArray, List.getElem_cons_zero, List.getElem_cons_succ, Act.put, List.setIfInBounds_toArray, List.set_cons_zero, List.set_cons_succ])); (refine wpAnyH_take (i := 1) (v := ?_) rfl (by kernel_rfl) (by kernel_rfl) (by kernel_rfl) (fun _ _ _ h => h) (Or.inl ⟨by rfl, ?_⟩) (by assumption) ?_; rotate_left; (focus (intro w hSw; (try dsimp only at hSw); go_simp; (try with_reducible rfl))); (try simp only [List.getElem_toArray, List.getElem_cons_zero, List.getElem_cons_succ, Act.put, List.setIfInBounds_toArray, List.set_cons_zero, List.set_cons_succ])); (refine wpAnyH_take (i := 2) (v := ?_) rfl (by kernel_rfl) (by kernel_rfl) (by kernel_rfl) (fun _ _ _ h => h) (Or.inl ⟨by rfl, ?_⟩) (by assumption) ?_; rotate_left; (focus (intro w hSw; (try dsimp only at hSw); go_simp; (try with_reducible rfl))); (try simp only [List.getElem_toArray, List.getElem_cons_zero, List.getElem_cons_succ, Act.put, List.setIfInBounds_toArray, List.set_cons_zero, List.set_cons_succ])); (refine wpAnyH_take (i := 3) (v := ?_) rfl (by kernel_rfl) (by kernel_rfl) (by kernel_rfl) (fun _ _ _ h => h) (Or.inl ⟨by rfl, ?_⟩) (by assumption) ?_; rotate_left; (focus (intro w hSw; (try dsimp only at hSw); go_simp; (try with_reducible rfl))); (try simp only [List.getElem_toArray, List.getElem_cons_zero, List.getElem_cons_succ, Act.put, List.setIfInBounds_toArray, List.set_cons_zero, List.set_cons_succ])); (refine wpAnyH_take (i := 4) (v := ?_) rfl (by kernel_rfl) (by kernel_rfl) (by kernel_rfl) (fun _ _ _ h => h) (Or.inl ⟨by rfl, ?_⟩) (by assumption) ?_; rotate_left; (focus (intro w hSw; (try dsimp only at hSw); go_simp; (try with_reducible rfl))); (try simp only [List.getElem_toArray, List.getElem_cons_zero, List.getElem_cons_succ, Act.put, List.setIfInBounds_toArray, List.set_cons_zero, List.set_cons_succ]))
          (refine wpAnyH_take (i := 5) (v := undef) rfl (by kernel_rfl) (by kernel_rfl) (by kernel_rfl) (fun _ _ _ h => h) (Or.inr ⟨by rfl, rfl⟩) (by assumption) ?_; (try simp only [List.getElem_toArray, List.getElem_cons_zero, List.getElem_cons_succ, Act.put, List.setIfInBounds_toArray, List.set_cons_zero, List.set_cons_succ])); (refine wpAnyH_take (i := 6) (v := undef) rfl (by kernel_rfl) (by kernel_rfl) (by kernel_rfl) (fun _ _ _ h => h) (Or.inr ⟨by rfl, rfl⟩) (by assumption) ?_; (try simp only [List.getElem_toArray, List.getElem_cons_zero, List.getElem_cons_succ, Act.put, List.setIfInBounds_toArray, List.set_cons_zero, List.set_cons_succ])); (refine wpAnyH_take (i := 7) (v := undef) rfl (by kernel_rfl) (by kernel_rfl) (by kernel_rfl) (fun _ _ _ h => h) (Or.inr ⟨by rfl, rfl⟩) (by assumption) ?_; (try simp only [List.getElem_toArray, List.getElem_cons_zero, List.getElem_cons_succ, Act.put, List.setIfInBounds_toArray, List.set_cons_zero, List.set_cons_succ])); (refine wpAnyH_take (i := 8) (v := undef) rfl (by kernel_rfl) (by kernel_rfl) (by kernel_rfl) (fun _ _ _ h => h) (Or.inr ⟨by rfl, rfl⟩) (by assumption) ?_; (try simp only [List.getElem_toArray, List.getElem_cons_zero, List.getElem_cons_succ, Act.put, List.setIfInBounds_toArray, List.set_cons_zero, List.set_cons_succ])); (refine wpAnyH_take (i := 9) (v := undef) rfl (by kernel_rfl) (by kernel_rfl) (by kernel_rfl) (fun _ _ _ h => h) (Or.inr ⟨by rfl, rfl⟩) (by assumption) ?_; (try simp only [List.getElem_toArray, List.getElem_cons_zero, List.getElem_cons_succ, Act.put, List.setIfInBounds_toArray, List.set_cons_zero, List.set_cons_succ])); (refine wpAnyH_take (i := 10) (v := undef) rfl (by kernel_rfl) (by kernel_rfl) (by kernel_rfl) (fun _ _ _ h => h) (Or.inr ⟨by rfl, rfl⟩) (by assumption) ?_; (try simp only [List.getElem_toArray, List.getElem_cons_zero, List.getElem_cons_succ, Act.put, List.setIfInBounds_toArray, List.set_cons_zero, List.set_cons_succ])); (refine wpAnyH_take (i := 11) (v := undef) rfl (by kernel_rfl) (by kernel_rfl) (by kernel_rfl) (fun _ _ _ h => h) (Or.inr ⟨by rfl, rfl⟩) (by assumption) ?_; (try simp only [List.getElem_toArray, List.getElem_cons_zero, List.getElem_cons_succ, Act.put, List.setIfInBounds_toArray, List.set_cons_zero, List.set_cons_succ])); (refine wpAnyH_take (i := 12) (v := undef) rfl (by kernel_rfl) (by kernel_rfl) (by kernel_rfl) (fun _ _ _ h => h) (Or.inr ⟨by rfl, rfl⟩) (by assumption) ?_; (try simp only [List.getElem_toArray, List.getElem_cons_zero, List.getElem_cons_succ, Act.put, List.setIfInBounds_toArray, List.set_cons_zero, List.set_cons_succ])); (refine wpAnyH_take (i := 13) (v := undef) rfl (by kernel_rfl) (by kernel_rfl) (by kernel_rfl) (fun _ _ _ h => h) (Or.inr ⟨by rfl, rfl⟩) (by assumption) ?_; (try simp only [List.getElem_toArray, List.getElem_cons_zero, List.getElem_cons_succ, Act.put, List.setIfInBounds_toArray, List.set_cons_zero, List.set_cons_succ])); (refine wpAnyH_take (i := 14) (v := undef) rfl (by kernel_rfl) (by kernel_rfl) (by kernel_rfl) (fun _ _ _ h => h) (Or.inr ⟨by rfl, rfl⟩) (by assumption) ?_; (try simp only [List.getElem_toArray, List.getElem_cons_zero, List.getElem_cons_succ, Act.put, List.setIfInBounds_toArray, List.set_cons_zero, List.set_cons_succ])); (refine wpAnyH_take (i := 15) (v := undef) rfl (by kernel_rfl) (by kernel_rfl) (by kernel_rfl) (fun _ _ _ h => h) (Or.inr ⟨by rfl, rfl⟩) (by assumption) ?_; (try simp only [List.getElem_toArray, List.getElem_cons_zero, List.getElem_cons_succ, Act.put, List.setIfInBounds_toArray, List.set_cons_zero, List.set_cons_succ])); (refine wpAnyH_take (i := 16) (v := undef) rfl (by kernel_rfl) (by kernel_rfl) (by kernel_rfl) (fun _ _ _ h => h) (Or.inr ⟨by rfl, rfl⟩) (by assumption) ?_; (try simp only [List.getElem_toArray, List.getElem_cons_zero, List.getElem_cons_succ, Act.put, List.setIfInBounds_toArray, List.set_cons_zero, List.set_cons_succ])); (refine wpAnyH_take (i := 17) (v := undef) rfl (by kernel_rfl) (by kernel_rfl) (by kernel_rfl) (fun _ _ _ h => h) (Or.inr ⟨by rfl, rfl⟩) (by assumption) ?_; (try simp only [List.getElem_toArray, List.getElem_cons_zero, List.getElem_cons_succ, Act.put, List.setIfInBounds_toArray, List.set_cons_zero, List.set_cons_succ]))
          (refine wpAnyH_take (i := 18) (v := ?_) rfl (by kernel_rfl) (by kernel_rfl) (by kernel_rfl) (fun _ _ _ h => h) (Or.inl ⟨by rfl, ?_⟩) (by assumption) ?_; rotate_left; (focus (intro w hSw; (try dsimp only at hSw); go_simp; (try with_reducible rfl))); (try simp only [List.getElem_toArray, List.getElem_cons_zero, List.getElem_cons_succ, Act.put, List.setIfInBounds_toArray, List.set_cons_zero, List.set_cons_succ]))
          refine wpAnyH_done (by kernel_rfl) ?_ _; clear hHeld
          clear Srd
          have hown1 := own_below HO.out ((Below.refl _ _).drew : Below wr.heap.size wr wr.drew)
          have hL1 : (sel (moreP B a b xv) k).length = q := HQ.out
          go_wp2_with (first
            | (at_builtin; refine wpList_append_own _ rfl (.tmp 90) (.tmp 92) 22 rfl w6.heap.size 3 i0 (.int .i64 0) 1 8 Try.underlying22 hi hz0 hz1 hz2 rfl (by decide) _ _ _ rfl (hown1.alloc _) ⟨wr.drew.heap.size, 0, none⟩ 1 1 [.int .i64 k] rfl rfl (cell_one_new _ _ _) (by simp [Value.oneCell']) (by have := HQ5.out; rw [hL1]; unfold maxLen; omega) (by have := HQ5.out; rw [hL1]; omega) (Nat.le_trans HCr.out.size (by simp)) ?_; intro v' w9 hown2 hgrow _; have HO2 := Lib.hid hown2; have HC2 : Hid (Below w6.heap.size w6 w9) := (HCr.out.drew.alloc HCr.out.drew.size _).grown hgrow (Nat.le_trans HCr.out.size (by simp)) (fun j e => (hown1.lt j e).1); clear hown2 hgrow))
          go_roundw
          case rel => exact ⟨k + 1, by have := HKN.out; omega, by go_num, by rw [HP.out]; unfold Hid OwnI; rw [List.length_append, List.map_append]; exact HO2.out, HC2⟩
          case measure => simp [intOf]; have := HKN.out; omega
        · have hvb : ((k : Int) == xv) = false := by simp [hv]
          cases hc : cin B a b k with
          | true =>
            have HC := Lib.hid hc
            have HP : Hid (sel (moreP B a b xv) (k + 1) = sel (moreP B a b xv) k ++ [(k : Int)]) := sel_hit (by unfold moreP; rw [hc, Bool.or_true])
            clear hv hc
            refine wp_region_held_drew (S := (fun w' => (∀ b o, b < ws.heap.size → w'.cell? ⟨b, o, none⟩ = ws.cell? ⟨b, o, none⟩) ∧ Hid (Below ws.heap.size ws w'))) (by kernel_rfl) Srd (fun hHeld => ?_)
            (refine wpAnyH_take (i := 0) (v := ?_) rfl (by kernel_rfl) (by kernel_rfl) (by kernel_rfl) (fun _ _ _ h => h) (Or.inl ⟨by rfl, ?_⟩) (by assumption) ?_; rotate_left; (focus (intro w hSw; (try dsimp only at hSw); go_simp; (try with_reducible rfl))); (try simp only [List.getElem_toArray, List.getElem_cons_zero, List.getElem_cons_succ, Act.put, List.setIfInBounds_toArray, List.set_cons_zero, List.set_cons_succ])); (refine wpAnyH_take (i := 1) (v := ?_) rfl (by kernel_rfl) (by kernel_rfl) (by kernel_rfl) (fun _ _ _ h => h) (Or.inl ⟨by rfl, ?_⟩) (by assumption) ?_; rotate_left; (focus (intro w hSw; (try dsimp only at hSw); go_simp; (try with_reducible rfl))); (try simp only [List.getElem_toArray, List.getElem_cons_zero, List.getElem_cons_succ, Act.put, List.setIfInBounds_toArray, List.set_cons_zero, List.set_cons_succ])); (refine wpAnyH_take (i := 2) (v := ?_) rfl (by kernel_rfl) (by kernel_rfl) (by kernel_rfl) (fun _ _ _ h => h) (Or.inl ⟨by rfl, ?_⟩) (by assumption) ?_; rotate_left; (focus (intro w hSw; (try dsimp only at hSw); go_simp; (try with_reducible rfl))); (try simp only [List.getElem_toArray, List.getElem_cons_zero, List.getElem_cons_succ, Act.put, List.setIfInBounds_toArray, List.set_cons_zero, List.set_cons_succ])); (refine wpAnyH_take (i := 3) (v := ?_) rfl (by kernel_rfl) (by kernel_rfl) (by kernel_rfl) (fun _ _ _ h => h) (Or.inl ⟨by rfl, ?_⟩) (by assumption) ?_; rotate_left; (focus (intro w hSw; (try dsimp only at hSw); go_simp; (try with_reducible rfl))); (try simp only [List.getElem_toArray, List.getElem_cons_zero, List.getElem_cons_succ, Act.put, List.setIfInBounds_toArray, List.set_cons_zero, List.set_cons_succ])); (refine wpAnyH_take (i := 4) (v := ?_) rfl (by kernel_rfl) (by kernel_rfl) (by kernel_rfl) (fun _ _ _ h => h) (Or.inl ⟨by rfl, ?_⟩) (by assumption) ?_; rotate_left; (focus (intro w hSw; (try dsimp only at hSw); go_simp; (try with_reducible rfl))); (try simp only [List.getElem_toArray, List.getElem_cons_zero, List.getElem_cons_succ, Act.put, List.setIfInBounds_toArray, List.set_cons_zero, List.set_cons_succ])); (refine wpAnyH_take (i := 5) (v := ?_) rfl (by kernel_rfl) (by kernel_rfl) (by kernel_rfl) (fun _ _ _ h => h) (Or.inl ⟨by rfl, ?_⟩) (by assumption) ?_; rotate_left; (focus (intro w hSw; (try dsimp only at hSw); go_simp; (try with_reducible rfl))); (try simp only [List.getElem_toArray, List.getElem_cons_zero, List.getElem_cons_succ, Act.put, List.setIfInBounds_toArray, List.set_cons_zero, List.set_cons_succ])); (refine wpAnyH_take (i := 6) (v := ?_) rfl (by kernel_rfl) (by kernel_rfl) (by kernel_rfl) (fun _ _ _ h => h) (Or.inl ⟨by rfl, ?_⟩) (by assumption) ?_; rotate_left; (focus (intro w hSw; (try dsimp only at hSw); go_simp; (try with_reducible rfl))); (try simp only [List.getElem_toArray, List.getElem_cons_zero, List.getElem_cons_succ, Act.put, List.setIfInBounds_toArray, List.set_cons_zero, List.set_cons_succ])); (refine wpAnyH_take (i := 7) (v := ?_) rfl (by kernel_rfl) (by kernel_rfl) (by kernel_rfl) (fun _ _ _ h => h) (Or.inl ⟨by rfl, ?_⟩) (by assumption) ?_; rotate_left; (focus (intro w hSw; (try dsimp only at hSw); go_simp; (try with_reducible rfl))); (try simp only [List.getElem_toArray, List.getElem_cons_zero, List.getElem_cons_succ, Act.put, List.setIfInBounds_toArray, List.set_cons_zero, List.set_cons_succ])); (refine wpAnyH_take (i := 8) (v := ?_) rfl (by kernel_rfl) (by kernel_rfl) (by kernel_rfl) (fun _ _ _ h => h) (Or.inl ⟨by rfl, ?_⟩) (by assumption) ?_; rotate_left; (focus (intro w hSw; (try dsimp only at hSw); go_simp; (try with_reducible rfl))); (try simp only [List.getElem_toArray, List.getElem_cons_zero, List.getElem_cons_succ, Act.put, List.setIfInBounds_toArray, List.set_cons_zero, List.set_cons_succ])); (refine wpAnyH_take (i := 9) (v := ?_) rfl (by kernel_rfl) (by kernel_rfl) (by kernel_rfl) (fun _ _ _ h => h) (Or.inl ⟨by rfl, ?_⟩) (by assumption) ?_; rotate_left; (focus (intro w hSw; (try dsimp only at hSw); go_simp; (try with_reducible rfl))); (try simp only [List.getElem_toArray, List.getElem_cons_zero, List.getElem_cons_succ, Act.put, List.setIfInBounds_toArray, List.set_cons_zero, List.set_cons_succ])); (refine wpAnyH_take (i := 10) (v := ?_) rfl (by kernel_rfl) (by kernel_rfl) (by kernel_rfl) (fun _ _ _ h => h) (Or.inl ⟨by rfl, ?_⟩) (by assumption) ?_; rotate_left; (focus (intro w hSw; (try dsimp only at hSw); go_simp; (try with_reducible rfl))); (try simp only [List.getElem_toArray, List.getElem_cons_zero, List.getElem_cons_succ, Act.put, List.setIfInBounds_toArray, List.set_cons_zero, List.set_cons_succ])); (refine wpAnyH_take (i := 11) (v := ?_) rfl (by kernel_rfl) (by kernel_rfl) (by kernel_rfl) (fun _ _ _ h => h) (Or.inl ⟨by rfl, ?_⟩) (by assumption) ?_; rotate_left; (focus (intro w hSw; (try dsimp only at hSw); go_simp; (try with_reducible rfl))); (try simp only [List.getElem_toArray, List.getElem_cons_zero, List.getElem_cons_succ, Act.put, List.setIfInBounds_toArray, List.set_cons_zero, List.set_cons_succ])); (refine wpAnyH_take (i := 12) (v := ?_) rfl (by kernel_rfl) (by kernel_rfl) (by kernel_rfl) (fun _ _ _ h => h) (Or.inl ⟨by rfl, ?_⟩) (by assumption) ?_; rotate_left; (focus (intro w hSw; (try dsimp only at hSw); go_simp; (try with_reducible rfl))); (try simp only [List.getElem_toArray, List.getElem_cons_zero, List.getElem_cons_succ, Act.put, List.setIfInBounds_toArray, List.set_cons_zero, List.set_cons_succ])); (refine wpAnyH_take (i := 13) (v := ?_) rfl (by kernel_rfl) (by kernel_rfl) (by kernel_rfl) (fun _ _ _ h => h) (Or.inl ⟨by rfl, ?_⟩) (by assumption) ?_; rotate_left; (focus (intro w hSw; (try dsimp only at hSw); go_simp; (try with_reducible rfl))); (try simp only [List.getElem_toArray, List.getElem_cons_zero, List.getElem_cons_succ, Act.put, List.setIfInBounds_toArray, List.set_cons_zero, List.set_cons_succ])); (refine wpAnyH_take (i := 14) (v := ?_) rfl (by kernel_rfl) (by kernel_rfl) (by kernel_rfl) (fun _ _ _ h => h) (Or.inl ⟨by rfl, ?_⟩) (by assumption) ?_; rotate_left; (focus (intro w hSw; (try dsimp only at hSw); go_simp; (try with_reducible rfl))); (try simp only [List.getElem_toArray, List.getElem_cons_zero, List.getElem_cons_succ, Act.put, List.setIfInBounds_toArray, List.set_cons_zero, List.set_cons_succ])); (refine wpAnyH_take (i := 15) (v := ?_) rfl (by kernel_rfl) (by kernel_rfl) (by kernel_rfl) (fun _ _ _ h => h) (Or.inl ⟨by rfl, ?_⟩) (by assumption) ?_; rotate_left; (focus (intro w hSw; (try dsimp only at hSw); go_simp; (try with_reducible rfl))); (try simp only [List.getElem_toArray, List.getElem_cons_zero, List.getElem_cons_succ, Act.put, List.setIfInBounds_toArray, List.set_cons_zero, List.set_cons_succ])); (refine wpAnyH_take (i := 16) (v := ?_) rfl (by kernel_rfl) (by kernel_rfl) (by kernel_rfl) (fun _ _ _ h => h) (Or.inl ⟨by rfl, ?_⟩) (by assumption) ?_; rotate_left; (focus (intro w hSw; (try dsimp only at hSw); go_simp; (try with_reducible rfl))); (try simp only [List.getElem_toArray, List.getElem_cons_zero, List.getElem_cons_succ, Act.put, List.setIfInBounds_toArray, List.set_cons_zero, List.set_cons_succ]))
            refine wpAnyH_ready (rs := [17]) (by kernel_rfl) (by simp) ?_; refine AllReadyH.cons rfl (fun K hK => ?_) AllReadyH.nil; go_simp
            go_at_call 48
            refine (in_any N _ _ _ _ _ (HI3.out.mono (HBrd.out.mono HNS.out) (Nat.le_refl _))).mono ?_
            rintro e wx ⟨rfl, rfl⟩
            rw [show (anyB (B.ncc a b) fun i => decide (B.can a b i = (k : Int))) = true from HC.out]
            refine hK.out _ _ Srd (fun hHeld => ?_); clear hK K; (try simp only [List.getElem_toArray, List.getElem_cons_zero, List.getElem_cons_succ, Act.put, List.setIfInBounds_toArray, List.set_cons_zero, List.set_cons_succ])
            (refine wpAnyH_take (i := 18) (v := ?_) rfl (by kernel_rfl) (by kernel_rfl) (by kernel_rfl) (fun _ _ _ h => h) (Or.inl ⟨by rfl, ?_⟩) (by assumption) ?_; rotate_left; (focus (intro w hSw; (try dsimp only at hSw); go_simp; (try with_reducible rfl))); (try simp only [List.getElem_toArray, List.getElem_cons_zero, List.getElem_cons_succ, Act.put, List.setIfInBounds_toArray, List.set_cons_zero, List.set_cons_succ]))
            refine wpAnyH_done (by kernel_rfl) ?_ _; clear hHeld
            clear Srd
            have hown1 := own_below HO.out ((Below.refl _ _).drew : Below wr.heap.size wr wr.drew)
            have hL1 : (sel (moreP B a b xv) k).length = q := HQ.out
            go_wp2_with (first
              | (at_builtin; refine wpList_append_own _ rfl (.tmp 90) (.tmp 92) 22 rfl w6.heap.size 3 i0 (.int .i64 0) 1 8 Try.underlying22 hi hz0 hz1 hz2 rfl (by decide) _ _ _ rfl (hown1.alloc _) ⟨wr.drew.heap.size, 0, none⟩ 1 1 [.int .i64 k] rfl rfl (cell_one_new _ _ _) (by simp [Value.oneCell']) (by have := HQ5.out; rw [hL1]; unfold maxLen; omega) (by have := HQ5.out; rw [hL1]; omega) (Nat.le_trans HCr.out.size (by simp)) ?_; intro v' w9 hown2 hgrow _; have HO2 := Lib.hid hown2; have HC2 : Hid (Below w6.heap.size w6 w9) := (HCr.out.drew.alloc HCr.out.drew.size _).grown hgrow (Nat.le_trans HCr.out.size (by simp)) (fun j e => (hown1.lt j e).1); clear hown2 hgrow))
            go_roundw
            case rel => exact ⟨k + 1, by have := HKN.out; omega, by go_num, by rw [HP.out]; unfold Hid OwnI; rw [List.length_append, List.map_append]; exact HO2.out, HC2⟩
            case measure => simp [intOf]; have := HKN.out; omega
          | false =>
            have HC := Lib.hid hc
            have HP : Hid (sel (moreP B a b xv) (k + 1) = sel (moreP B a b xv) k) := sel_miss (by unfold moreP; rw [hc, decide_eq_false hv]; rfl)
            clear hv hc
            refine wp_region_held_drew (S := (fun w' => (∀ b o, b < ws.heap.size → w'.cell? ⟨b, o, none⟩ = ws.cell? ⟨b, o, none⟩) ∧ Hid (Below ws.heap.size ws w'))) (by kernel_rfl) Srd (fun hHeld => ?_)
            (refine wpAnyH_take (i := 0) (v := ?_) rfl (by kernel_rfl) (by kernel_rfl) (by kernel_rfl) (fun _ _ _ h => h) (Or.inl ⟨by rfl, ?_⟩) (by assumption) ?_; rotate_left; (focus (intro w hSw; (try dsimp only at hSw); go_simp; (try with_reducible rfl))); (try simp only [List.getElem_toArray, List.getElem_cons_zero, List.getElem_cons_succ, Act.put, List.setIfInBounds_toArray, List.set_cons_zero, List.set_cons_succ])); (refine wpAnyH_take (i := 1) (v := ?_) rfl (by kernel_rfl) (by kernel_rfl) (by kernel_rfl) (fun _ _ _ h => h) (Or.inl ⟨by rfl, ?_⟩) (by assumption) ?_; rotate_left; (focus (intro w hSw; (try dsimp only at hSw); go_simp; (try with_reducible rfl))); (try simp only [List.getElem_toArray, List.getElem_cons_zero, List.getElem_cons_succ, Act.put, List.setIfInBounds_toArray, List.set_cons_zero, List.set_cons_succ])); (refine wpAnyH_take (i := 2) (v := ?_) rfl (by kernel_rfl) (by kernel_rfl) (by kernel_rfl) (fun _ _ _ h => h) (Or.inl ⟨by rfl, ?_⟩) (by assumption) ?_; rotate_left; (focus (intro w hSw; (try dsimp only at hSw); go_simp; (try with_reducible rfl))); (try simp only [List.getElem_toArray, List.getElem_cons_zero, List.getElem_cons_succ, Act.put, List.setIfInBounds_toArray, List.set_cons_zero, List.set_cons_succ])); (refine wpAnyH_take (i := 3) (v := ?_) rfl (by kernel_rfl) (by kernel_rfl) (by kernel_rfl) (fun _ _ _ h => h) (Or.inl ⟨by rfl, ?_⟩) (by assumption) ?_; rotate_left; (focus (intro w hSw; (try dsimp only at hSw); go_simp; (try with_reducible rfl))); (try simp only [List.getElem_toArray, List.getElem_cons_zero, List.getElem_cons_succ, Act.put, List.setIfInBounds_toArray, List.set_cons_zero, List.set_cons_succ])); (refine wpAnyH_take (i := 4) (v := ?_) rfl (by kernel_rfl) (by kernel_rfl) (by kernel_rfl) (fun _ _ _ h => h) (Or.inl ⟨by rfl, ?_⟩) (by assumption) ?_; rotate_left; (focus (intro w hSw; (try dsimp only at hSw); go_simp; (try with_reducible rfl))); (try simp only [List.getElem_toArray, List.getElem_cons_zero, List.getElem_cons_succ, Act.put, List.setIfInBounds_toArray, List.set_cons_zero, List.set_cons_succ])); (refine wpAnyH_take (i := 5) (v := ?_) rfl (by kernel_rfl) (by kernel_rfl) (by kernel_rfl) (fun _ _ _ h => h) (Or.inl ⟨by rfl, ?_⟩) (by assumption) ?_; rotate_left; (focus (intro w hSw; (try dsimp only at hSw); go_simp; (try with_reducible rfl))); (try simp only [List.getElem_toArray, List.getElem_cons_zero, List.getElem_cons_succ, Act.put, List.setIfInBounds_toArray, List.set_cons_zero, List.set_cons_succ])); (refine wpAnyH_take (i := 6) (v := ?_) rfl (by kernel_rfl) (by kernel_rfl) (by kernel_rfl) (fun _ _ _ h => h) (Or.inl ⟨by rfl, ?_⟩) (by assumption) ?_; rotate_left; (focus (intro w hSw; (try dsimp only at hSw); go_simp; (try with_reducible rfl))); (try simp only [List.getElem_toArray, List.getElem_cons_zero, List.getElem_cons_succ, Act.put, List.setIfInBounds_toArray, List.set_cons_zero, List.set_cons_succ])); (refine wpAnyH_take (i := 7) (v := ?_) rfl (by kernel_rfl) (by kernel_rfl) (by kernel_rfl) (fun _ _ _ h => h) (Or.inl ⟨by rfl, ?_⟩) (by assumption) ?_; rotate_left; (focus (intro w hSw; (try dsimp only at hSw); go_simp; (try with_reducible rfl))); (try simp only [List.getElem_toArray, List.getElem_cons_zero, List.getElem_cons_succ, Act.put, List.setIfInBounds_toArray, List.set_cons_zero, List.set_cons_succ])); (refine wpAnyH_take (i := 8) (v := ?_) rfl (by kernel_rfl) (by kernel_rfl) (by kernel_rfl) (fun _ _ _ h => h) (Or.inl ⟨by rfl, ?_⟩) (by assumption) ?_; rotate_left; (focus (intro w hSw; (try dsimp only at hSw); go_simp; (try with_reducible rfl))); (try simp only [List.getElem_toArray, List.getElem_cons_zero, List.getElem_cons_succ, Act.put, List.setIfInBounds_toArray, List.set_cons_zero, List.set_cons_succ])); (refine wpAnyH_take (i := 9) (v := ?_) rfl (by kernel_rfl) (by kernel_rfl) (by kernel_rfl) (fun _ _ _ h => h) (Or.inl ⟨by rfl, ?_⟩) (by assumption) ?_; rotate_left; (focus (intro w hSw; (try dsimp only at hSw); go_simp; (try with_reducible rfl))); (try simp only [List.getElem_toArray, List.getElem_cons_zero, List.getElem_cons_succ, Act.put, List.setIfInBounds_toArray, List.set_cons_zero, List.set_cons_succ])); (refine wpAnyH_take (i := 10) (v := ?_) rfl (by kernel_rfl) (by kernel_rfl) (by kernel_rfl) (fun _ _ _ h => h) (Or.inl ⟨by rfl, ?_⟩) (by assumption) ?_; rotate_left; (focus (intro w hSw; (try dsimp only at hSw); go_simp; (try with_reducible rfl))); (try simp only [List.getElem_toArray, List.getElem_cons_zero, List.getElem_cons_succ, Act.put, List.setIfInBounds_toArray, List.set_cons_zero, List.set_cons_succ])); (refine wpAnyH_take (i := 11) (v := ?_) rfl (by kernel_rfl) (by kernel_rfl) (by kernel_rfl) (fun _ _ _ h => h) (Or.inl ⟨by rfl, ?_⟩) (by assumption) ?_; rotate_left; (focus (intro w hSw; (try dsimp only at hSw); go_simp; (try with_reducible rfl))); (try simp only [List.getElem_toArray, List.getElem_cons_zero, List.getElem_cons_succ, Act.put, List.setIfInBounds_toArray, List.set_cons_zero, List.set_cons_succ])); (refine wpAnyH_take (i := 12) (v := ?_) rfl (by kernel_rfl) (by kernel_rfl) (by kernel_rfl) (fun _ _ _ h => h) (Or.inl ⟨by rfl, ?_⟩) (by assumption) ?_; rotate_left; (focus (intro w hSw; (try dsimp only at hSw); go_simp; (try with_reducible rfl))); (try simp only [List.getElem_toArray, List.getElem_cons_zero, List.getElem_cons_succ, Act.put, List.setIfInBounds_toArray, List.set_cons_zero, List.set_cons_succ])); (refine wpAnyH_take (i := 13) (v := ?_) rfl (by kernel_rfl) (by kernel_rfl) (by kernel_rfl) (fun _ _ _ h => h) (Or.inl ⟨by rfl, ?_⟩) (by assumption) ?_; rotate_left; (focus (intro w hSw; (try dsimp only at hSw); go_simp; (try with_reducible rfl))); (try simp only [List.getElem_toArray, List.getElem_cons_zero, List.getElem_cons_succ, Act.put, List.setIfInBounds_toArray, List.set_cons_zero, List.set_cons_succ])); (refine wpAnyH_take (i := 14) (v := ?_) rfl (by kernel_rfl) (by kernel_rfl) (by kernel_rfl) (fun _ _ _ h => h) (Or.inl ⟨by rfl, ?_⟩) (by assumption) ?_; rotate_left; (focus (intro w hSw; (try dsimp only at hSw); go_simp; (try with_reducible rfl))); (try simp only [List.getElem_toArray, List.getElem_cons_zero, List.getElem_cons_succ, Act.put, List.setIfInBounds_toArray, List.set_cons_zero, List.set_cons_succ])); (refine wpAnyH_take (i := 15) (v := ?_) rfl (by kernel_rfl) (by kernel_rfl) (by kernel_rfl) (fun _ _ _ h => h) (Or.inl ⟨by rfl, ?_⟩) (by assumption) ?_; rotate_left; (focus (intro w hSw; (try dsimp only at hSw); go_simp; (try with_reducible rfl))); (try simp only [List.getElem_toArray, List.getElem_cons_zero, List.getElem_cons_succ, Act.put, List.setIfInBounds_toArray, List.set_cons_zero, List.set_cons_succ])); (refine wpAnyH_take (i := 16) (v := ?_) rfl (by kernel_rfl) (by kernel_rfl) (by kernel_rfl) (fun _ _ _ h => h) (Or.inl ⟨by rfl, ?_⟩) (by assumption) ?_; rotate_left; (focus (intro w hSw; (try dsimp only at hSw); go_simp; (try with_reducible rfl))); (try simp only [List.getElem_toArray, List.getElem_cons_zero, List.getElem_cons_succ, Act.put, List.setIfInBounds_toArray, List.set_cons_zero, List.set_cons_succ]))
            refine wpAnyH_ready (rs := [17]) (by kernel_rfl) (by simp) ?_; refine AllReadyH.cons rfl (fun K hK => ?_) AllReadyH.nil; go_simp
            go_at_call 48
            refine (in_any N _ _ _ _ _ (HI3.out.mono (HBrd.out.mono HNS.out) (Nat.le_refl _))).mono ?_
            rintro e wx ⟨rfl, rfl⟩
            rw [show (anyB (B.ncc a b) fun i => decide (B.can a b i = (k : Int))) = false from HC.out]
            refine hK.out _ _ Srd (fun hHeld => ?_); clear hK K; (try simp only [List.getElem_toArray, List.getElem_cons_zero, List.getElem_cons_succ, Act.put, List.setIfInBounds_toArray, List.set_cons_zero, List.set_cons_succ])
            (refine wpAnyH_take (i := 18) (v := ?_) rfl (by kernel_rfl) (by kernel_rfl) (by kernel_rfl) (fun _ _ _ h => h) (Or.inl ⟨by rfl, ?_⟩) (by assumption) ?_; rotate_left; (focus (intro w hSw; (try dsimp only at hSw); go_simp; (try with_reducible rfl))); (try simp only [List.getElem_toArray, List.getElem_cons_zero, List.getElem_cons_succ, Act.put, List.setIfInBounds_toArray, List.set_cons_zero, List.set_cons_succ]))
            refine wpAnyH_done (by kernel_rfl) ?_ _; clear hHeld
            go_wp2
            go_roundw
            case rel => exact ⟨k + 1, by have := HKN.out; omega, by go_num, by rw [HP.out]; exact own_below HO.out (Below.refl _ _).drew, HCr.out.drew⟩
            case measure => simp [intOf]; have := HKN.out; omega
      · have hke : k = n := by omega
        subst hke
        have HML : Hid (sel (moreP B a b xv) k = moreL B a b xv) := by unfold Hid moreL; rw [HNE.out]
        have HMLL : Hid ((moreL B a b xv).length ≤ 5) := by rw [← HML.out]; have := sel_len (moreP B a b xv) k; show _ ≤ _; omega
        rw [HML.out] at HO
        obtain ⟨av, cv, rfl⟩ := HO.out.form
        have HBXr := Lib.hid (keep_blk HCr.out HBX6.out)
        have HTWr := Lib.hid (HTW6.out.grow HCr.out)
        have HSOr := HSO6.out.grow HCr.out
        have HGr : Hid (gb < wr.heap.size) := Nat.lt_of_lt_of_le HG6.out HCr.out.size
        obtain ⟨g0, cap0, g, cap, cur, e3, hq0, hl0, hlg, hgh, hcur, ⟨old, hold⟩, hst⟩ := SortsIn.store (B := B) (r := .slice av (moreL B a b xv).length cv) (nl := (moreL B a b xv).length) (z := fun k => (moreL B a b xv).getD k 0) HSOr (Nat.le_of_lt HGr.out) HLEN.out.2.2.1 HLEN.out.2.2.2 HA.out (i := b) (by rw [HG.out.nc a HA.out]; exact HBB.out)
        cases e3
        have HLG : Hid (ws.heap.size ≤ g) := Nat.le_trans (HTWr.out.span (by have := HBB.out; show 0 < B.nv; omega) (by have := HBB.out; show 0 < B.nf; rw [HG.out.nf]; omega)) hlg
        have hfz := frozen_blk hcur b
        have HCUR := Lib.hid hcur
        have HST := Lib.hid hst
        have y2 := cell_blk HBXr.out 2 rfl
        have ggr := HGr.out
        have gg0 : g0 < wr.heap.size := World.block_lt_of_cell? wr _ hq0
        clear hcur hst HSOr hl0 hlg hgh hk hkn
        have Srd := old_of HBr.out.drew; have HBrd := Srd.2
        go_upto_region 14 with fail
        refine wp_region_held_drew (S := (fun w' => (∀ b o, b < ws.heap.size → w'.cell? ⟨b, o, none⟩ = ws.cell? ⟨b, o, none⟩) ∧ Hid (Below ws.heap.size ws w'))) (by kernel_rfl) Srd (fun hHeld => ?_)
        (refine wpAnyH_take (i := 0) (v := ?_) rfl (by kernel_rfl) (by kernel_rfl) (by kernel_rfl) (fun _ _ _ h => h) (Or.inl ⟨by rfl, ?_⟩) (by assumption) ?_; rotate_left; (focus (intro w hSw; (try dsimp only at hSw); go_simp; (try with_reducible rfl))); (try simp only [List.getElem_toArray, List.getElem_cons_zero, List.getElem_cons_succ, Act.put, List.setIfInBounds_toArray, List.set_cons_zero, List.set_cons_succ]))
        (refine wpAnyH_take (i := 2) (v := ?_) rfl (by kernel_rfl) (by kernel_rfl) (by kernel_rfl) (fun _ _ _ h => h) (Or.inl ⟨by rfl, ?_⟩) (by assumption) ?_; rotate_left; (focus (intro w hSw; (try dsimp only at hSw); go_simp; (try with_reducible rfl))); (try simp only [List.getElem_toArray, List.getElem_cons_zero, List.getElem_cons_succ, Act.put, List.setIfInBounds_toArray, List.set_cons_zero, List.set_cons_succ])); (refine wpAnyH_take (i := 3) (v := ?_) rfl (by kernel_rfl) (by kernel_rfl) (by kernel_rfl) (fun _ _ _ h => h) (Or.inl ⟨by rfl, ?_⟩) (by assumption) ?_; rotate_left; (focus (intro w hSw; (try dsimp only at hSw); go_simp; (try with_reducible rfl))); (try simp only [List.getElem_toArray, List.getElem_cons_zero, List.getElem_cons_succ, Act.put, List.setIfInBounds_toArray, List.set_cons_zero, List.set_cons_succ]))
        (refine wpAnyH_take (i := 7) (v := ?_) rfl (by kernel_rfl) (by kernel_rfl) (by kernel_rfl) (fun _ _ _ h => h) (Or.inl ⟨by rfl, ?_⟩) (by assumption) ?_; rotate_left; (focus (intro w hSw; (try dsimp only at hSw); go_simp; (try with_reducible rfl))); (try simp only [List.getElem_toArray, List.getElem_cons_zero, List.getElem_cons_succ, Act.put, List.setIfInBounds_toArray, List.set_cons_zero, List.set_cons_succ])); (refine wpAnyH_take (i := 8) (v := ?_) rfl (by kernel_rfl) (by kernel_rfl) (by kernel_rfl) (fun _ _ _ h => h) (Or.inl ⟨by rfl, ?_⟩) (by assumption) ?_; rotate_left; (focus (intro w hSw; (try dsimp only at hSw); go_simp; (try with_reducible rfl))); (try simp only [List.getElem_toArray, List.getElem_cons_zero, List.getElem_cons_succ, Act.put, List.setIfInBounds_toArray, List.set_cons_zero, List.set_cons_succ])); (refine wpAnyH_take (i := 9) (v := ?_) rfl (by kernel_rfl) (by kernel_rfl) (by kernel_rfl) (fun _ _ _ h => h) (Or.inl ⟨by rfl, ?_⟩) (by assumption) ?_; rotate_left; (focus (intro w hSw; (try dsimp only at hSw); go_simp; (try with_reducible rfl))); (try simp only [List.getElem_toArray, List.getElem_cons_zero, List.getElem_cons_succ, Act.put, List.setIfInBounds_toArray, List.set_cons_zero, List.set_cons_succ]))
        refine wpAnyH_ready (rs := [1]) (by kernel_rfl) (by simp) ?_; refine AllReadyH.cons rfl (fun K hK => ?_) AllReadyH.nil; go_simp
        refine hK.out _ _ Srd (fun hHeld => ?_); clear hK K; (try simp only [List.getElem_toArray, List.getElem_cons_zero, List.getElem_cons_succ, Act.put, List.setIfInBounds_toArray, List.set_cons_zero, List.set_cons_succ])
        (refine wpAnyH_take (i := 4) (v := ?_) rfl (by kernel_rfl) (by kernel_rfl) (by kernel_rfl) (fun _ _ _ h => h) (Or.inl ⟨by rfl, ?_⟩) (by assumption) ?_; rotate_left; (focus (intro w hSw; (try dsimp only at hSw); go_simp; (try with_reducible rfl))); (try simp only [List.getElem_toArray, List.getElem_cons_zero, List.getElem_cons_succ, Act.put, List.setIfInBounds_toArray, List.set_cons_zero, List.set_cons_succ])); (refine wpAnyH_take (i := 5) (v := ?_) rfl (by kernel_rfl) (by kernel_rfl) (by kernel_rfl) (fun _ _ _ h => h) (Or.inl ⟨by rfl, ?_⟩) (by assumption) ?_; rotate_left; (focus (intro w hSw; (try dsimp only at hSw); go_simp; (try with_reducible rfl))); (try simp only [List.getElem_toArray, List.getElem_cons_zero, List.getElem_cons_succ, Act.put, List.setIfInBounds_toArray, List.set_cons_zero, List.set_cons_succ]))
        refine wpAnyH_ready (rs := [6]) (by kernel_rfl) (by simp) ?_; refine AllReadyH.cons rfl (fun K hK => ?_) AllReadyH.nil; go_simp
        refine hK.out _ _ Srd (fun hHeld => ?_); clear hK K; (try simp only [List.getElem_toArray, List.getElem_cons_zero, List.getElem_cons_succ, Act.put, List.setIfInBounds_toArray, List.set_cons_zero, List.set_cons_succ])
        (refine wpAnyH_take (i := 10) (v := ?_) rfl (by kernel_rfl) (by kernel_rfl) (by kernel_rfl) (fun _ _ _ h => h) (Or.inl ⟨by rfl, ?_⟩) (by assumption) ?_; rotate_left; (focus (intro w hSw; (try dsimp only at hSw); go_simp; (try with_reducible rfl))); (try simp only [List.getElem_toArray, List.getElem_cons_zero, List.getElem_cons_succ, Act.put, List.setIfInBounds_toArray, List.set_cons_zero, List.set_cons_succ]))
        refine wpAnyH_ready (rs := [11]) (by kernel_rfl) (by simp) ?_; refine AllReadyH.cons rfl (fun K hK => ?_) AllReadyH.nil; go_simp
        obtain ⟨wS, hwS⟩ : ∃ wS : World, (wr.setCell ⟨g, b, none⟩ (.slice av (moreL B a b xv).length cv)).drew = wS := ⟨_, rfl⟩
        rw [hwS]
        have hbS : Below ws.heap.size ws wS := by rw [← hwS]; exact (HBr.out.setCell (p := ⟨g, b, none⟩) HLG.out _).drew
        have hsS : wS.heap.size = wr.heap.size := by rw [← hwS]; simp [World.setCell]
        have HBXS : Hid (wS.heap[gb]? = some (Obj.cells #[.slice (some ⟨g1, 0, none⟩) B.nv p1', .slice (some ⟨g2, 0, none⟩) B.nf p2', .slice (some ⟨g0, 0, none⟩) B.ns p3', .int .i64 (B.wr + xw)] 25 (0, 0))) := by
          rw [← hwS]
          exact (set_other (i := b) (v := .slice av (moreL B a b xv).length cv) HCUR.out gb _ _ (by decide) HBXr.out).trans HBXr.out
        have HBKS : Hid (BookAt wS.heap.size wS (.agg #[.slice (some ⟨g1, 0, none⟩) B.nv p1', .slice (some ⟨g2, 0, none⟩) B.nf p2', .slice (some ⟨g0, 0, none⟩) B.ns p3', .int .i64 (B.wr + xw)]) (leaveBk B xw (a : Int) (b : Int) xv lo)) := by
          unfold Hid leaveBk
          rw [HSM.out, if_pos rfl, Int.toNat_natCast, Int.toNat_natCast]
          have hint : ∀ (k : Nat) (cs : Array Value), wr.heap[k]? = some (Obj.cells cs 3 (0, 0)) → (wr.setCell ⟨g, b, none⟩ (.slice av (moreL B a b xv).length cv)).heap[k]? = wr.heap[k]? := fun k cs hk => set_other (i := b) (v := .slice av (moreL B a b xv).length cv) HCUR.out k cs _ (by decide) hk
          have hT2 := HTWr.out.other hint
          have hO2 : OwnI w6.heap.size (wr.setCell ⟨g, b, none⟩ (.slice av (moreL B a b xv).length cv)) (.slice av (moreL B a b xv).length cv) (moreL B a b xv) := own_keep HO.out fun k cs hk => hint k cs hk
          have hz := hO2.ints (by have := HMLL.out; omega)
          have hsz2 : (wr.setCell ⟨g, b, none⟩ (.slice av (moreL B a b xv).length cv)).heap.size = wr.heap.size := by simp [World.setCell]
          rw [hsz2] at hz
          have hSS := HST.out hz
          obtain ⟨k1, k2⟩ := hT2.ints (by rw [hsz2]; exact Nat.le_of_lt (Nat.lt_of_le_of_lt HGB.out HGr.out)) HLEN.out.1 HLEN.out.2.1
          rw [hsz2] at k1 k2
          have hbk : BookAt wr.heap.size (wr.setCell ⟨g, b, none⟩ (.slice av (moreL B a b xv).length cv)) (.agg #[.slice (some ⟨g1, 0, none⟩) B.nv p1', .slice (some ⟨g2, 0, none⟩) B.nf p2', .slice (some ⟨g0, 0, none⟩) B.ns p3', .int .i64 (B.wr + xw)]) ((B.loose xw lo).can1 a b (moreL B a b xv)) :=
            ⟨by rw [hsz2]; exact Nat.le_refl _, _, _, _, _, _, _, rfl, k1, k2, hSS⟩
          rw [hsS, ← hwS]
          exact hbk.mono (Below.refl _ _).drew (Nat.le_refl _) (by simp [World.setCell])
        have HGS : Hid (gb < wS.heap.size) := by unfold Hid; rw [hsS]; exact HGr.out
        have S9 := old_of hbS
        have HB9 := S9.2
        clear hwS hbS hsS
        refine hK.out _ _ S9 (fun hHeld => ?_); clear hK K; (try simp only [List.getElem_toArray, List.getElem_cons_zero, List.getElem_cons_succ, Act.put, List.setIfInBounds_toArray, List.set_cons_zero, List.set_cons_succ])
        refine wpAnyH_done (by kernel_rfl) ?_ _; clear hHeld
        clear S9 Srd
        go_wp2_with fail
        go_meet
        exact ⟨HB9, HBKS, HBXS, HGS⟩
  case rest =>
  obtain ⟨HB7, HBC, HBX7, HG7⟩ := hcut
  clear HB6 c6 HBX6 HTW6 HSO6 HG6
  obtain ⟨w7, rfl⟩ : ∃ w7, w7 = wc := ⟨wc, rfl⟩
  have c7 := (old_of HB7.out).1
  have gg := HG7.out
  have y0 := cell_blk HBX7.out 0 rfl
  have y1 := cell_blk HBX7.out 1 rfl
  have y2 := cell_blk HBX7.out 2 rfl
  have y3 := cell_blk HBX7.out 3 rfl
  obtain ⟨D, hD⟩ : ∃ D, leaveBk B xw xs xm xv lo = D := ⟨_, rfl⟩
  have hDs := leaveBk_same B xw xs xm xv lo
  have hDw := fun (hg2 : Good (leaveBk B xw xs xm xv lo) R) (s : Nat) (hs : s < B.ns) => wrong_leaveBk HG.out hg2 hs
  rw [hD] at HBC hDs hDw
  have HFD : Hid (FruitsAt w7.heap.size w7 (.slice af R.n cf) R) := RowsAt.mono (HBF.out.go HB7.out).2 (Below.refl _ _) (HBF.out.go HB7.out).1.1
  have HDS := Lib.hid hDs
  have HDW := Lib.hid hDw
  clear hD hDs hDw
  cases hr2 : rdy D R with
  | false =>
    have HR2 := Lib.hid hr2
    clear hr2
    go_wp2_with (first
      | (go_at_call 44; refine (ready_any _ _ _ D R _ HBC.out HFD.out).mono ?_; rintro e w8 ⟨rfl, hb8⟩; rw [HR2.out]; (try clear c7); have HB8 := Lib.hid (bel HB7.out hb8); have c8 := (old_of HB8.out).1; clear hb8)
      | (go_at_call 15; refine (works_any _).mono ?_; rintro e w9 ⟨rfl, hb9⟩; (try clear c8); have HB9 := Lib.hid (bel HB8.out hb9); have c9 := (old_of HB9.out).1; clear hb9))
    go_ret
    exact ⟨rfl, fin HB.out HB9.out⟩
  | true =>
    have HR2 := Lib.hid hr2
    have hcD := (rdy_parts hr2).1
    have HCD := Lib.hid hcD
    have HGD := Lib.hid (rdy_parts hr2).2.2
    have HWD : Hid (∀ s, s < B.ns → wrong D R s ≤ wrong B R s) := HDW.out HGD.out
    obtain ⟨l1, hl1⟩ : ∃ l, sorts B R = l := ⟨_, rfl⟩
    obtain ⟨l2, hl2⟩ : ∃ l, sorts D R = l := ⟨_, rfl⟩
    obtain ⟨e1, he1⟩ : ∃ e, (if l1.length = 0 then (3 : Int) else 0) = e := ⟨_, rfl⟩
    obtain ⟨e2, he2⟩ : ∃ e, (if l2.length = 0 then (3 : Int) else 0) = e := ⟨_, rfl⟩
    have HE1 : Hid (eSorts B R = (l1, e1)) := by unfold Hid; rw [eSorts_ok HCK.out, hl1, he1]
    have HE2 : Hid (eSorts D R = (l2, e2)) := by unfold Hid; rw [eSorts_ok hcD, hl2, he2]
    have HK1 : Hid ((decide (e1 = 0) || decide (e1 = 3)) = true) := by rw [← he1]; exact known_code _
    have HK2 : Hid ((decide (e2 = 0) || decide (e2 = 3)) = true) := by rw [← he2]; exact known_code _
    have hsub : sub l1.length (fun i => l1.getD i 0) l2.length (fun i => l2.getD i 0) = true := by
      rw [← hl1, ← hl2]
      exact sorts_sub (by omega) HDS.out.2.1 fun s hs h => by
        have := HWD.out s hs
        have := HDS.out.2.2.1
        omega
    have hz : e1 = 0 → e2 = 0 := fun hh => by
      have h1 : l1.length ≤ l2.length := by
        unfold sub at hsub
        simp only [Bool.and_eq_true, decide_eq_true_eq] at hsub
        exact hsub.1.1
      rw [← he1] at hh
      rw [← he2]
      by_cases h0 : l1.length = 0
      · rw [if_pos h0] at hh; omega
      · rw [if_neg (by omega)]
    have HSUB := Lib.hid hsub
    have HBD : Hid (l1.length ≤ 140737488351232 ∧ l2.length ≤ 140737488351232) := by
      have h1 := sel_len (fun s => decide ((wrong B R s : Int) ≤ B.wr)) B.ns
      have h2 := sel_len (fun s => decide ((wrong D R s : Int) ≤ D.wr)) D.ns
      have := HDS.out.2.1
      rw [← hl1, ← hl2]
      unfold sorts
      exact ⟨by omega, by omega⟩
    clear hr2 hcD hl1 hl2 he1 he2 hsub
    by_cases h0 : e1 = 0
    all_goals
      first
        | (have h1 := hz h0; subst h0; subst h1)
        | (have h3 : e1 = 3 := by have := HK1.out; simp [h0] at this; exact this
           subst h3)
      clear hz
      (try clear h0)
      go_wp2_with (first
        | (go_at_call 44; refine (ready_any _ _ _ D R _ HBC.out HFD.out).mono ?_; rintro e w8 ⟨rfl, hb8⟩; rw [HR2.out]; have HC8 := Lib.hid hb8; (try clear c7); have HB8 := Lib.hid (bel HB7.out hb8); have c8 := (old_of HB8.out).1; clear hb8; have x0 := keep_blk HC8.out HBX7.out; have y0 := cell_blk x0 0 rfl; have y1 := cell_blk x0 1 rfl; have y2 := cell_blk x0 2 rfl; have y3 := cell_blk x0 3 rfl; have gg := Nat.lt_of_lt_of_le HG7.out HC8.out.size; clear x0)
        | (go_at_call 26; have _t := HB9; refine (mSorts_any w7.heap.size _ _ D R _ (HBC.out.go (bel HC8.out HC9.out)) (RowsAt.mono HFD.out (bel HC8.out HC9.out) (Nat.le_refl _))).mono ?_; rintro e wA ⟨u4, rfl, hu4, hbA⟩; rw [HE2.out] at hu4; rw [HE2.out]; obtain ⟨ao4, co4, rfl⟩ := hu4.form; have HU4 := Lib.hid hu4; clear hu4; have HCA := Lib.hid hbA; (try clear c9); have HBA := Lib.hid (bel HB9.out hbA); have cA := (old_of HBA.out).1; clear hbA)
        | (go_at_call 26; refine (mSorts_any N _ _ B R _ (HBF.out.go HB8.out).1 (HBF.out.go HB8.out).2).mono ?_; rintro e w9 ⟨u3, rfl, hu3, hb9⟩; rw [HE1.out] at hu3; rw [HE1.out]; obtain ⟨ao3', co3', rfl⟩ := hu3.form; have HU3 := Lib.hid hu3; clear hu3; have HC9 := Lib.hid hb9; (try clear c8); have HB9 := Lib.hid (bel HB8.out hb9); have c9 := (old_of HB9.out).1; clear hb9; have x0 := keep_blk (bel HC8.out HC9.out) HBX7.out; have y0 := cell_blk x0 0 rfl; have y1 := cell_blk x0 1 rfl; have y2 := cell_blk x0 2 rfl; have y3 := cell_blk x0 3 rfl; have gg := Nat.lt_of_lt_of_le HG7.out (bel HC8.out HC9.out).size; clear x0)
        | (go_at_call 55; first | (refine (isKnown0 _).mono ?_; rintro e wB ⟨rfl, rfl⟩) | (refine (isKnown3 _).mono ?_; rintro e wB ⟨rfl, rfl⟩) | (refine (isKnown_any _ _).mono ?_; rintro e wB ⟨rfl, rfl⟩; rw [HK2.out]))
        | (go_at_call 56; refine (subset_any _ _ _ _ _ _ _ _ (IntsAt.wider (HU3.out.at_ HBD.out.1 HCA.out) HCA.out.size) (HU4.out.at_ HBD.out.2 (Below.refl _ _))).mono ?_; rintro e wB ⟨rfl, rfl⟩; rw [HSUB.out]))
      have HCZ : Hid (Below w7.heap.size w7 _) := bel (bel HC8.out HC9.out) HCA.out
      go_loopw [14] (fun i wr => ∃ k : Nat, k ≤ B.ns ∧ i = .int .i64 k ∧ Hid (Below ws.heap.size ws wr) ∧ Hid (Below w7.heap.size w7 wr)) (fun i _ => B.ns - (intOf i).toNat)
      case atStart => exact ⟨0, Nat.zero_le _, rfl, HBA.out, HCZ.out⟩
      case round =>
        clear cA HBA HCZ y0 y1 y2 y3 gg
        obtain ⟨k, hk, rfl, HBr, HCr⟩ := hrel
        have cr := (old_of HBr.out).1
        by_cases hkn : k < B.ns
        · have HE3 : Hid (eWrong B R (k : Int) = ((wrong B R k : Int), 0)) := eWrong_ok HCK.out hkn
          have HE4 : Hid (eWrong D R (k : Int) = ((wrong D R k : Int), 0)) := eWrong_ok HCD.out (by rw [HDS.out.2.1]; exact hkn)
          have g1' := wrong_le HG.out k
          have g2' := wrong_le HGD.out k
          have g3' := HWD.out k hkn
          have HBXr := Lib.hid (keep_blk HCr.out HBX7.out)
          have ggr : gb < wr.heap.size := Nat.lt_of_lt_of_le HG7.out HCr.out.size
          generalize wrong B R k = m1 at *
          generalize wrong D R k = m2 at *
          have d1 : decide (m1 < m2) = false := by simp; omega
          have d2 : decide ((m2 : Int) < 0) = false := by simp
          have i1 : (m2 : Int) ≤ (m1 : Int) := by omega
          go_wp2_with (first
            | (go_at_call 20; have _t := HB6; refine (mWrong_any w7.heap.size _ _ D R (k : Int) _ (HBC.out.go (bel HCr.out HC6.out)) (RowsAt.mono HFD.out (bel HCr.out HC6.out) (Nat.le_refl _))).mono ?_; rintro e wE ⟨rfl, hbE⟩; rw [HE4.out]; have HCE := Lib.hid (bel (bel HCr.out HC6.out) hbE); (try clear c6); have HBE := Lib.hid (bel HB6.out hbE); have cE := (old_of HBE.out).1; clear hbE)
            | (go_at_call 20; refine (mWrong_any N _ _ B R (k : Int) _ (HBF.out.go HBr.out).1 (HBF.out.go HBr.out).2).mono ?_; rintro e wF ⟨rfl, hb6⟩; rw [HE3.out]; have HC6 := Lib.hid hb6; (try clear cr); have HB6 := Lib.hid (bel HBr.out hb6); have c6 := (old_of HB6.out).1; clear hb6; have x0 := keep_blk HC6.out HBXr.out; have y0 := cell_blk x0 0 rfl; have y1 := cell_blk x0 1 rfl; have y2 := cell_blk x0 2 rfl; have y3 := cell_blk x0 3 rfl; have gg := Nat.lt_of_lt_of_le ggr HC6.out.size; clear x0))
          go_roundw
          case rel => exact ⟨k + 1, by omega, by go_num, HBE.out, HCE.out⟩
          case measure => simp [intOf]; omega
        · go_wp2_with (first
            | (go_at_call 15; refine (works_any _).mono ?_; rintro e wG ⟨rfl, hbG⟩; (try clear cr); have HBG := Lib.hid (bel HBr.out hbG); have cG := (old_of HBG.out).1; clear hbG))
          go_ret
          exact ⟨rfl, fin HB.out HBG.out⟩

end Go.Proofs.Ytmmadlpkolcgkaa
