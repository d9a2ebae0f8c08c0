/-
  JKRo: Room of package judges.
-/
import Derived.Test.YtffnlimgjnhmpaaJKEn
import Derived.Test.YtffnlimgjnhmpaaJKS
namespace Go.Proofs.Ytffnlimgjnhmpaa
open Go.RowKit

theorem isMk_nat {S : JB} {p j : Int} (hG : GoodS S) (h : isMk S p j = true) : ∃ q k : Nat, p = q ∧ j = k ∧ q < S.np ∧ k < (S.pts q).length := by
  unfold isMk at h
  rw [Bool.and_eq_true] at h
  obtain ⟨q, rfl, hq⟩ := inN_nat h.1
  have h2 := h.2
  simp only [Bool.and_eq_true, decide_eq_true_eq] at h2
  exact ⟨q, j.toNat, rfl, by omega, hq, by have := hG.len q hq; omega⟩
set_option maxHeartbeats 3200000 in
set_option maxRecDepth 100000 in
theorem kRoom_any (N : Nat) (v : Value) (S : JB) (p j er : Int) (w : World) (h : ShowAt N w v S) (her : errC (okS S) (isMk S p j) (allIn S) = er) :
    Calls Try.prog 38 #[v, .agg #[.int .i64 p, .int .i64 j]] w fun e w' => e = .returned (.tuple #[.agg #[.int .i64 (sp er (room S p.toNat j.toNat 21).1), .int .i64 (sp er (room S p.toNat j.toNat 21).2)], .int .i64 er]) ∧ Below w.heap.size w w' := by
  obtain ⟨a1, c1, rfl⟩ := h.form
  obtain ⟨wv, hwv, HBv, hszv, hszv1, hblk, hblk1⟩ := box2 w (.cells #[.int .i64 S.J, .int .i64 S.D, .int .i64 S.Z, .slice a1 S.np c1] 24) (.cells #[.int .i64 p, .int .i64 j] 46)
  obtain ⟨ws, hws, HBs, hszs, hblks⟩ := box1 wv (.cells #[.int .i64 0, .int .i64 0] 30)
  have HB : Hid (Below w.heap.size w ws) := HBv.out.trans (HBs.out.mono HBv.out.size)
  have hz0 := (HBs.out.block _ hszv).trans hblk
  have hz1 := (HBs.out.block _ hszv1).trans hblk1
  have hsz := Nat.lt_of_lt_of_le hszv HBs.out.size
  have hsz1 := Nat.lt_of_lt_of_le hszv1 HBs.out.size
  have q0 := cell_blk hz0 0 rfl
  have q1 := cell_blk hz0 1 rfl
  have q2 := cell_blk hz0 2 rfl
  have q3 := cell_blk hz0 3 rfl
  have p0 := cell_blk hz1 0 rfl
  have p1 := cell_blk hz1 1 rfl
  have HBK := Lib.hid (h.go HB.out)
  have HB0 : Hid (Below ws.heap.size ws ws) := Below.refl _ _
  have HZ1 := Lib.hid hblks
  have HVW : Hid (w.heap.size ≤ wv.heap.size) := HBv.out.size
  have HSQ : Hid (∀ W, Below ws.heap.size ws W → ((W.cell? ⟨w.heap.size, 0, none⟩ = some (.int .i64 S.J) ∧ W.cell? ⟨w.heap.size, 1, none⟩ = some (.int .i64 S.D) ∧ W.cell? ⟨w.heap.size, 2, none⟩ = some (.int .i64 S.Z) ∧ W.cell? ⟨w.heap.size, 3, none⟩ = some (.slice a1 S.np c1))) ∧ W.cell? ⟨w.heap.size + 1, 0, none⟩ = some (.int .i64 p) ∧ W.cell? ⟨w.heap.size + 1, 1, none⟩ = some (.int .i64 j)) := fun W hW => ⟨⟨(hW.cell (p := ⟨w.heap.size, 0, none⟩) hsz).trans q0, (hW.cell (p := ⟨w.heap.size, 1, none⟩) hsz).trans q1, (hW.cell (p := ⟨w.heap.size, 2, none⟩) hsz).trans q2, (hW.cell (p := ⟨w.heap.size, 3, none⟩) hsz).trans q3⟩, (hW.cell (p := ⟨w.heap.size + 1, 0, none⟩) hsz1).trans p0, (hW.cell (p := ⟨w.heap.size + 1, 1, none⟩) hsz1).trans p1⟩
  clear hblk hblk1 h hz0 hz1 hblks
  obtain ⟨ea, hea⟩ : ∃ x, errA (okS S) (isMk S p j) = x := ⟨_, rfl⟩
  by_cases h0 : ea = 0
  · subst h0
    obtain ⟨hok, him⟩ := errA_ok hea
    have HGS := Lib.hid (okS_good hok)
    obtain ⟨q, k, rfl, rfl, hq, hk⟩ := isMk_nat HGS.out him
    rw [hok, him] at her
    cases hin : allIn S with
    | true =>
      rw [hin] at her
      have he : er = 0 := her.symm
      subst he
      have HIN := Lib.hid hin
      obtain ⟨lo, hlo⟩ : ∃ x, (room S q k 21).1 = x := ⟨_, rfl⟩
      obtain ⟨hi, hhi⟩ : ∃ x, (room S q k 21).2 = x := ⟨_, rfl⟩
      have HLO := Lib.hid hlo
      have HHI := Lib.hid hhi
      have HSL : Hid (sp 0 (room S (q : Int).toNat (k : Int).toNat 21).1 = lo) := by unfold Hid; rw [Int.toNat_natCast, Int.toNat_natCast, sp_ok]; exact hlo
      have HSH : Hid (sp 0 (room S (q : Int).toNat (k : Int).toNat 21).2 = hi) := by unfold Hid; rw [Int.toNat_natCast, Int.toNat_natCast, sp_ok]; exact hhi
      clear her hin hlo hhi him hok
      go_enter Try.func38, Try.ntmps38
      go_upto_region 1 with fail
      clear hwv
      go_upto_region 2 with (go_at_call 62; refine (enterMark_ok N _ S q k _ HBK.out hea).mono ?_; rintro e w1 ⟨rfl, hb1⟩; have HB1 : Hid (Below ws.heap.size ws w1) := (bel HB0.out hb1); clear hb1; obtain ⟨wo, hwo, HBo, hszo, hblko⟩ := box1 w1 (.cells #[.int .i64 0, .int .i64 0, .int .i64 0, .slice none 0 0] 74); have HZo := Lib.hid hblko; have z0 := cell_blk hblko 0 rfl; have z1 := cell_blk hblko 1 rfl; have z2 := cell_blk hblko 2 rfl; have z3 := cell_blk hblko 3 rfl; have f0 := free_blk hblko 0; have f1 := free_blk hblko 1; have f2 := free_blk hblko 2; have f3 := free_blk hblko 3; clear hblko)
      obtain ⟨w2, hw2, hz2, ho2, hb2⟩ := put4o HZo.out (.int .i64 S.J) (.int .i64 S.D) (.int .i64 S.Z) (.slice a1 S.np c1)
      rw [hw2]
      have HB2 : Hid (Below ws.heap.size ws w2) := HB1.out.trans ((HBo.out.trans hb2).mono HB1.out.size)
      have HZ2 := Lib.hid hz2
      have hs12 : w1.heap.size < w2.heap.size := Nat.lt_of_lt_of_le hszo hb2.size
      clear hw2 ho2 hb2 z0 z1 z2 z3 f0 f1 f2 f3 hwo HZo HBo hszo
      obtain ⟨jb, hjb⟩ : ∃ jb, w1.heap.size = jb := ⟨_, rfl⟩
      rw [hjb] at hz2 HZ2 hs12 ⊢
      have HJB : Hid (ws.heap.size ≤ jb) := by rw [← hjb]; exact HB1.out.size
      have j0 := cell_blk hz2 0 rfl
      have j1 := cell_blk hz2 1 rfl
      have j2 := cell_blk hz2 2 rfl
      have j3 := cell_blk hz2 3 rfl
      clear hz2 hjb
      have hsz2 : wv.heap.size < w2.heap.size := Nat.lt_of_lt_of_le hszs HB2.out.size
      have HZq := Lib.hid ((HB2.out.block _ hszs).trans HZ1.out)
      have hjw : jb < w2.heap.size := heap_lt HZ2.out
      obtain ⟨⟨r0, r1, r2, r3⟩, t0, t1⟩ := HSQ.out w2 HB2.out
      go_wp2_with (first
        | (go_at_call 70; refine (isOpen_any N _ S _ (HBK.out.go HB2.out) HGS.out).mono ?_; rw [HIN.out]; rintro e w3 ⟨rfl, hb3⟩; have HB3 : Hid (Below ws.heap.size ws w3) := bel HB2.out hb3; have HJ3 := Lib.hid ((hb3.block _ hjw).trans HZ2.out); have HZr := Lib.hid ((hb3.block _ hsz2).trans HZq.out); clear j0 j1 j2 j3 r0 r1 r2 r3 t0 t1; obtain ⟨⟨r0, r1, r2, r3⟩, t0, t1⟩ := HSQ.out w3 HB3.out; have j0 := cell_blk HJ3.out 0 rfl; have j1 := cell_blk HJ3.out 1 rfl; have j2 := cell_blk HJ3.out 2 rfl; have j3 := cell_blk HJ3.out 3 rfl; clear hb3)
        | (go_at_call 71; refine (kroom_any N _ S q k _ (HBK.out.go HB3.out) HGS.out HIN.out hq hk).mono ?_; rw [HLO.out, HHI.out]; rintro e w5 ⟨rfl, hb5⟩; have HB5 : Hid (Below ws.heap.size ws w5) := bel HB3.out hb5; have HZ5 := Lib.hid ((hb5.block _ (heap_lt HZr.out)).trans HZr.out); have x0 := cell_blk HZ5.out 0 rfl; have x1 := cell_blk HZ5.out 1 rfl; have y0 := free_blk HZ5.out 0; have y1 := free_blk HZ5.out 1; clear hb5))
      obtain ⟨w6, hw6, hz6, ho6, hb6⟩ := put2o HZ5.out (.int .i64 lo) (.int .i64 hi)
      rw [hw6]
      have s0 := cell_blk hz6 0 rfl
      have s1 := cell_blk hz6 1 rfl
      have hbf : Below w.heap.size w w6 := HB.out.trans ((HB5.out.mono HB.out.size).trans (hb6.mono HVW.out))
      exact bodyPost_ret (v := .tuple #[.agg #[.int .i64 lo, .int .i64 hi], .int .i64 0]) (by simp [results, Try.results38, go_sem, s0, s1]) rfl ⟨by rw [HSL.out, HSH.out], hbf⟩
    | false =>
      rw [hin] at her
      have he : er = 81 := her.symm
      subst he
      have HIN := Lib.hid hin
      have HSL : Hid (sp 81 (room S (q : Int).toNat (k : Int).toNat 21).1 = 0) := sp_no (by decide) _
      have HSH : Hid (sp 81 (room S (q : Int).toNat (k : Int).toNat 21).2 = 0) := sp_no (by decide) _
      clear her hin him hok
      go_enter Try.func38, Try.ntmps38
      go_upto_region 1 with fail
      clear hwv
      go_upto_region 2 with (go_at_call 62; refine (enterMark_ok N _ S q k _ HBK.out hea).mono ?_; rintro e w1 ⟨rfl, hb1⟩; have HB1 : Hid (Below ws.heap.size ws w1) := (bel HB0.out hb1); clear hb1; obtain ⟨wo, hwo, HBo, hszo, hblko⟩ := box1 w1 (.cells #[.int .i64 0, .int .i64 0, .int .i64 0, .slice none 0 0] 74); have HZo := Lib.hid hblko; have z0 := cell_blk hblko 0 rfl; have z1 := cell_blk hblko 1 rfl; have z2 := cell_blk hblko 2 rfl; have z3 := cell_blk hblko 3 rfl; have f0 := free_blk hblko 0; have f1 := free_blk hblko 1; have f2 := free_blk hblko 2; have f3 := free_blk hblko 3; clear hblko)
      obtain ⟨w2, hw2, hz2, ho2, hb2⟩ := put4o HZo.out (.int .i64 S.J) (.int .i64 S.D) (.int .i64 S.Z) (.slice a1 S.np c1)
      rw [hw2]
      have HB2 : Hid (Below ws.heap.size ws w2) := HB1.out.trans ((HBo.out.trans hb2).mono HB1.out.size)
      have HZ2 := Lib.hid hz2
      have hs12 : w1.heap.size < w2.heap.size := Nat.lt_of_lt_of_le hszo hb2.size
      clear hw2 ho2 hb2 z0 z1 z2 z3 f0 f1 f2 f3 hwo HZo HBo hszo
      obtain ⟨jb, hjb⟩ : ∃ jb, w1.heap.size = jb := ⟨_, rfl⟩
      rw [hjb] at hz2 HZ2 hs12 ⊢
      have HJB : Hid (ws.heap.size ≤ jb) := by rw [← hjb]; exact HB1.out.size
      have j0 := cell_blk hz2 0 rfl
      have j1 := cell_blk hz2 1 rfl
      have j2 := cell_blk hz2 2 rfl
      have j3 := cell_blk hz2 3 rfl
      clear hz2 hjb
      have hsz2 : wv.heap.size < w2.heap.size := Nat.lt_of_lt_of_le hszs HB2.out.size
      have HZq := Lib.hid ((HB2.out.block _ hszs).trans HZ1.out)
      have hjw : jb < w2.heap.size := heap_lt HZ2.out
      obtain ⟨⟨r0, r1, r2, r3⟩, t0, t1⟩ := HSQ.out w2 HB2.out
      go_wp2_with (go_at_call 70; refine (isOpen_any N _ S _ (HBK.out.go HB2.out) HGS.out).mono ?_; rw [HIN.out]; rintro e w3 ⟨rfl, hb3⟩; have HB3 : Hid (Below ws.heap.size ws w3) := bel HB2.out hb3; have HZ5 := Lib.hid ((hb3.block _ hsz2).trans HZq.out); have x0 := cell_blk HZ5.out 0 rfl; have x1 := cell_blk HZ5.out 1 rfl; have y0 := free_blk HZ5.out 0; have y1 := free_blk HZ5.out 1; clear hb3)
      obtain ⟨w6, hw6, hz6, ho6, hb6⟩ := put2o HZ5.out (.int .i64 0) (.int .i64 0)
      rw [hw6]
      have s0 := cell_blk hz6 0 rfl
      have s1 := cell_blk hz6 1 rfl
      have hbf : Below w.heap.size w w6 := HB.out.trans ((HB3.out.mono HB.out.size).trans (hb6.mono HVW.out))
      exact bodyPost_ret (v := .tuple #[.agg #[.int .i64 0, .int .i64 0], .int .i64 81]) (by simp [results, Try.results38, go_sem, s0, s1]) rfl ⟨by rw [HSL.out, HSH.out], hbf⟩
  · have hee : er = ea := by
      rw [← her, ← hea]
      rw [← hea] at h0
      clear hea her
      unfold errA at h0 ⊢
      unfold errC
      revert h0
      cases okS S <;> cases isMk S p j <;> simp
    subst hee
    have HSL : Hid (sp er (room S p.toNat j.toNat 21).1 = 0) := sp_no h0 _
    have HSH : Hid (sp er (room S p.toNat j.toNat 21).2 = 0) := sp_no h0 _
    have hne : (er != 0) = true := by simpa using h0
    have HCN := Lib.hid (fun W (hW : Below ws.heap.size ws W) => enterMark_no N _ S p j er W (HBK.out.go hW) hea h0)
    clear h0 her hea
    go_enter Try.func38, Try.ntmps38
    go_upto_region 1 with fail
    clear hwv
    go_upto_region 2 with (go_at_call 62; refine (HCN.out _ HB0.out).mono ?_; rintro e w1 ⟨rfl, hb1⟩; have HB1 : Hid (Below ws.heap.size ws w1) := (bel HB0.out hb1); clear hb1; obtain ⟨wo, hwo, HBo, hszo, hblko⟩ := box1 w1 (.cells #[.int .i64 0, .int .i64 0, .int .i64 0, .slice none 0 0] 74); have HZo := Lib.hid hblko; have z0 := cell_blk hblko 0 rfl; have z1 := cell_blk hblko 1 rfl; have z2 := cell_blk hblko 2 rfl; have z3 := cell_blk hblko 3 rfl; have f0 := free_blk hblko 0; have f1 := free_blk hblko 1; have f2 := free_blk hblko 2; have f3 := free_blk hblko 3; clear hblko)
    obtain ⟨w2, hw2, hz2, ho2, hb2⟩ := put4o HZo.out (.int .i64 0) (.int .i64 0) (.int .i64 0) (.slice none 0 0)
    rw [hw2]
    have HB2 : Hid (Below ws.heap.size ws w2) := HB1.out.trans ((HBo.out.trans hb2).mono HB1.out.size)
    have HZ2 := Lib.hid hz2
    have hs12 : w1.heap.size < w2.heap.size := Nat.lt_of_lt_of_le hszo hb2.size
    clear hw2 ho2 hb2 z0 z1 z2 z3 f0 f1 f2 f3 hwo HZo HBo hszo
    obtain ⟨jb, hjb⟩ : ∃ jb, w1.heap.size = jb := ⟨_, rfl⟩
    rw [hjb] at hz2 HZ2 hs12 ⊢
    have HJB : Hid (ws.heap.size ≤ jb) := by rw [← hjb]; exact HB1.out.size
    have j0 := cell_blk hz2 0 rfl
    have j1 := cell_blk hz2 1 rfl
    have j2 := cell_blk hz2 2 rfl
    have j3 := cell_blk hz2 3 rfl
    clear hz2 hjb
    have HZ5 := Lib.hid ((HB2.out.block _ hszs).trans HZ1.out)
    have x0 := cell_blk HZ5.out 0 rfl
    have x1 := cell_blk HZ5.out 1 rfl
    have y0 := free_blk HZ5.out 0
    have y1 := free_blk HZ5.out 1
    go_wp2_with fail
    obtain ⟨w6, hw6, hz6, ho6, hb6⟩ := put2o HZ5.out (.int .i64 0) (.int .i64 0)
    rw [hw6]
    have s0 := cell_blk hz6 0 rfl
    have s1 := cell_blk hz6 1 rfl
    have hbf : Below w.heap.size w w6 := HB.out.trans ((HB2.out.mono HB.out.size).trans (hb6.mono HVW.out))
    exact bodyPost_ret (v := .tuple #[.agg #[.int .i64 0, .int .i64 0], .int .i64 er]) (by simp [results, Try.results38, go_sem, s0, s1]) rfl ⟨by rw [HSL.out, HSH.out], hbf⟩

end Go.Proofs.Ytffnlimgjnhmpaa
