/-
  JKQ: marks: validMark, enterMark, waits, after, After of package judges.
-/
import Derived.Test.YtffnlimgjnhmpaaJKP
import Derived.Test.YtffnlimgjnhmpaaJKH
namespace Go.Proofs.Ytffnlimgjnhmpaa
open Go.RowKit

set_option maxHeartbeats 800000 in
theorem kwithinI_any (a n : Int) (v : Bool) (w : World) (h : (decide (0 ≤ a) && decide (a < n)) = v) :
    Calls Try.prog 59 #[.int .i64 a, .int .i64 n] w fun e w' => e = .returned (.bool v) ∧ w' = w := by
  have H := Lib.hid h
  by_cases h1 : 0 ≤ a
  all_goals
    clear h
    go_enter Try.func59, Try.ntmps59
    go_wp2
    go_ret
    exact ⟨ret_bool (by rw [← H.out]; first | (simp [h1]; done) | (simp; omega)), rfl⟩

set_option maxHeartbeats 1600000 in
theorem kvalidMark_any (N : Nat) (v : Value) (S : JB) (p j : Int) (w : World) (h : ShowAt N w v S) :
    Calls Try.prog 86 #[v, .agg #[.int .i64 p, .int .i64 j]] w fun e w' => e = .returned (.bool (isMk S p j)) ∧ Below w.heap.size w w' := by
  obtain ⟨a1, c1, rfl⟩ := h.form
  obtain ⟨ws, hws, HB, hsz, hsz1, hblk, hblk1⟩ := box2 w (.cells #[.int .i64 S.J, .int .i64 S.D, .int .i64 S.Z, .slice a1 S.np c1] 24) (.cells #[.int .i64 p, .int .i64 j] 46)
  have q0 := cell_blk hblk 0 rfl
  have q1 := cell_blk hblk 1 rfl
  have q2 := cell_blk hblk 2 rfl
  have q3 := cell_blk hblk 3 rfl
  have p0 := cell_blk hblk1 0 rfl
  have p1 := cell_blk hblk1 1 rfl
  have HNZ : Hid (N ≤ w.heap.size) := h.1
  have HBK := Lib.hid (h.go HB.out)
  have HB0 : Hid (Below ws.heap.size ws ws) := Below.refl _ _
  have HNS : Hid (N ≤ ws.heap.size) := HBK.out.1
  have hlen := h.len
  have HSQ : Hid (∀ W, Below ws.heap.size ws W → ((W.cell? ⟨w.heap.size, 0, none⟩ = some (.int .i64 S.J) ∧ W.cell? ⟨w.heap.size, 1, none⟩ = some (.int .i64 S.D) ∧ W.cell? ⟨w.heap.size, 2, none⟩ = some (.int .i64 S.Z) ∧ W.cell? ⟨w.heap.size, 3, none⟩ = some (.slice a1 S.np c1))) ∧ W.cell? ⟨w.heap.size + 1, 0, none⟩ = some (.int .i64 p) ∧ W.cell? ⟨w.heap.size + 1, 1, none⟩ = some (.int .i64 j)) := fun W hW => ⟨⟨(hW.cell (p := ⟨w.heap.size, 0, none⟩) hsz).trans q0, (hW.cell (p := ⟨w.heap.size, 1, none⟩) hsz).trans q1, (hW.cell (p := ⟨w.heap.size, 2, none⟩) hsz).trans q2, (hW.cell (p := ⟨w.heap.size, 3, none⟩) hsz).trans q3⟩, (hW.cell (p := ⟨w.heap.size + 1, 0, none⟩) hsz1).trans p0, (hW.cell (p := ⟨w.heap.size + 1, 1, none⟩) hsz1).trans p1⟩
  clear hblk hblk1 h
  cases hp : inN p S.np with
  | false =>
    have HP := Lib.hid hp
    have HE : Hid (isMk S p j = false) := by unfold Hid isMk; rw [hp]; rfl
    clear hp
    go_enter Try.func86, Try.ntmps86
    go_wp2_with (go_at_call 59; refine (kwithin_any _ _ _ _ HP.out).mono ?_; rintro e w' ⟨rfl, hw'⟩; rw [hw']; clear hw')
    go_ret
    exact ⟨ret_bool HE.out.symm, HB.out⟩
  | true =>
    have HP := Lib.hid hp
    obtain ⟨bb, hbb⟩ : ∃ b, (decide (0 ≤ j) && decide (j < S.J)) = b := ⟨_, rfl⟩
    have HBB := Lib.hid hbb
    have HE : Hid (isMk S p j = bb) := by unfold Hid isMk; rw [hp, hbb]; rfl
    clear hp hbb
    go_enter Try.func86, Try.ntmps86
    go_wp2_with (first
      | (go_at_call 59; have hx := HP; clear HP; refine (kwithin_any _ _ _ _ hx.out).mono ?_; clear hx; rintro e w' ⟨rfl, hw'⟩; rw [hw']; clear hw')
      | (go_at_call 59; refine (kwithinI_any _ _ _ _ HBB.out).mono ?_; rintro e w' ⟨rfl, hw'⟩; rw [hw']; clear hw'))
    go_ret
    exact ⟨ret_bool HE.out.symm, HB.out⟩

set_option maxHeartbeats 3200000 in
set_option maxRecDepth 100000 in
theorem enterMark_any (N : Nat) (v : Value) (S : JB) (p j er : Int) (w : World) (h : ShowAt N w v S) (her : errA (okS S) (isMk S p j) = er) :
    Calls Try.prog 62 #[v, .agg #[.int .i64 p, .int .i64 j]] w fun e w' => e = .returned (.tuple #[entV er v, .int .i64 er]) ∧ Below w.heap.size w w' := by
  obtain ⟨a1, c1, rfl⟩ := h.form
  obtain ⟨wv, hwv, HBv, hszv, hszv1, hblk, hblk1⟩ := box2 w (.cells #[.int .i64 S.J, .int .i64 S.D, .int .i64 S.Z, .slice a1 S.np c1] 24) (.cells #[.int .i64 p, .int .i64 j] 46)
  obtain ⟨ws, hws, HBs, hszs, hblks⟩ := box1 wv (.cells #[.int .i64 0, .int .i64 0, .int .i64 0, .slice none 0 0] 74)
  have HB : Hid (Below w.heap.size w ws) := HBv.out.trans (HBs.out.mono HBv.out.size)
  have hz0 := (HBs.out.block _ hszv).trans hblk
  have hz1 := (HBs.out.block _ hszv1).trans hblk1
  have hsz := Nat.lt_of_lt_of_le hszv HBs.out.size
  have hsz1 := Nat.lt_of_lt_of_le hszv1 HBs.out.size
  have q0 := cell_blk hz0 0 rfl
  have q1 := cell_blk hz0 1 rfl
  have q2 := cell_blk hz0 2 rfl
  have q3 := cell_blk hz0 3 rfl
  have p0 := cell_blk hz1 0 rfl
  have p1 := cell_blk hz1 1 rfl
  have HBK := Lib.hid (h.go HB.out)
  have HB0 : Hid (Below ws.heap.size ws ws) := Below.refl _ _
  have HZ1 := Lib.hid hblks
  have HVW : Hid (w.heap.size ≤ wv.heap.size) := HBv.out.size
  have HSQ : Hid (∀ W, Below ws.heap.size ws W → ((W.cell? ⟨w.heap.size, 0, none⟩ = some (.int .i64 S.J) ∧ W.cell? ⟨w.heap.size, 1, none⟩ = some (.int .i64 S.D) ∧ W.cell? ⟨w.heap.size, 2, none⟩ = some (.int .i64 S.Z) ∧ W.cell? ⟨w.heap.size, 3, none⟩ = some (.slice a1 S.np c1))) ∧ W.cell? ⟨w.heap.size + 1, 0, none⟩ = some (.int .i64 p) ∧ W.cell? ⟨w.heap.size + 1, 1, none⟩ = some (.int .i64 j)) := fun W hW => ⟨⟨(hW.cell (p := ⟨w.heap.size, 0, none⟩) hsz).trans q0, (hW.cell (p := ⟨w.heap.size, 1, none⟩) hsz).trans q1, (hW.cell (p := ⟨w.heap.size, 2, none⟩) hsz).trans q2, (hW.cell (p := ⟨w.heap.size, 3, none⟩) hsz).trans q3⟩, (hW.cell (p := ⟨w.heap.size + 1, 0, none⟩) hsz1).trans p0, (hW.cell (p := ⟨w.heap.size + 1, 1, none⟩) hsz1).trans p1⟩
  clear hblk hblk1 h hz0 hz1 hblks
  cases hok : okS S with
  | false =>
    rw [hok] at her
    have he : er = 80 := her.symm
    subst he
    rw [entV_no (by decide)]
    go_enter Try.func62, Try.ntmps62
    go_upto_region 1 with fail
    clear hwv
    go_upto_region 2 with (go_at_call 68; refine (enter_no N _ S _ HBK.out hok).mono ?_; rintro e w1 ⟨rfl, hb1⟩; have HB1 : Hid (Below ws.heap.size ws w1) := (bel HB0.out hb1); clear hb1; obtain ⟨wo, hwo, HBo, hszo, hblko⟩ := box1 w1 (.cells #[.int .i64 0, .int .i64 0, .int .i64 0, .slice none 0 0] 74); have HZo := Lib.hid hblko; have z0 := cell_blk hblko 0 rfl; have z1 := cell_blk hblko 1 rfl; have z2 := cell_blk hblko 2 rfl; have z3 := cell_blk hblko 3 rfl; have f0 := free_blk hblko 0; have f1 := free_blk hblko 1; have f2 := free_blk hblko 2; have f3 := free_blk hblko 3; clear hblko)
    obtain ⟨w2, hw2, hz2, ho2, hb2⟩ := put4o HZo.out (.int .i64 0) (.int .i64 0) (.int .i64 0) (.slice none 0 0)
    rw [hw2]
    have HB2 : Hid (Below ws.heap.size ws w2) := HB1.out.trans ((HBo.out.trans hb2).mono HB1.out.size)
    have HZ2 := Lib.hid hz2
    have hs12 : w1.heap.size < w2.heap.size := Nat.lt_of_lt_of_le hszo hb2.size
    clear hw2 ho2 hb2 z0 z1 z2 z3 f0 f1 f2 f3 hwo HZo HBo hszo
    obtain ⟨jb, hjb⟩ : ∃ jb, w1.heap.size = jb := ⟨_, rfl⟩
    rw [hjb] at hz2 HZ2 hs12 ⊢
    have HJB : Hid (ws.heap.size ≤ jb) := by rw [← hjb]; exact HB1.out.size
    have j0 := cell_blk hz2 0 rfl
    have j1 := cell_blk hz2 1 rfl
    have j2 := cell_blk hz2 2 rfl
    have j3 := cell_blk hz2 3 rfl
    clear hz2 hjb
    have HZr := Lib.hid ((HB2.out.block _ hszs).trans HZ1.out)
    have g0 := free_blk HZr.out 0
    have g1 := free_blk HZr.out 1
    have g2 := free_blk HZr.out 2
    have g3 := free_blk HZr.out 3
    have k0 := cell_blk HZr.out 0 rfl
    have k1 := cell_blk HZr.out 1 rfl
    have k2 := cell_blk HZr.out 2 rfl
    have k3 := cell_blk HZr.out 3 rfl
    have hjne : wv.heap.size < jb := by have := HJB.out; omega
    obtain ⟨⟨r0, r1, r2, r3⟩, t0, t1⟩ := HSQ.out w2 HB2.out
    go_wp2_with fail
    obtain ⟨w4, hw4, hz4, ho4, hb4⟩ := put4o HZr.out (.int .i64 0) (.int .i64 0) (.int .i64 0) (.slice none 0 0)
    rw [hw4]
    have s0 := cell_blk hz4 0 rfl
    have s1 := cell_blk hz4 1 rfl
    have s2 := cell_blk hz4 2 rfl
    have s3 := cell_blk hz4 3 rfl
    exact bodyPost_ret (v := .tuple #[.agg #[(.int .i64 0), (.int .i64 0), (.int .i64 0), (.slice none 0 0)], .int .i64 80]) (by simp [results, Try.results62, go_sem, s0, s1, s2, s3]) rfl ⟨rfl, HB.out.trans ((HB2.out.mono HB.out.size).trans (hb4.mono HVW.out))⟩
  | true =>
    rw [hok] at her
    cases hin : isMk S p j with
    | true =>
      rw [hin] at her
      have he : er = 0 := her.symm
      subst he
      rw [entV_ok]
      have HIN := Lib.hid hin
      clear her hin
      go_enter Try.func62, Try.ntmps62
      go_upto_region 1 with fail
      clear hwv
      go_upto_region 2 with (go_at_call 68; refine (enter_ok N _ S _ HBK.out hok).mono ?_; rintro e w1 ⟨rfl, hb1⟩; have HB1 : Hid (Below ws.heap.size ws w1) := (bel HB0.out hb1); clear hb1; obtain ⟨wo, hwo, HBo, hszo, hblko⟩ := box1 w1 (.cells #[.int .i64 0, .int .i64 0, .int .i64 0, .slice none 0 0] 74); have HZo := Lib.hid hblko; have z0 := cell_blk hblko 0 rfl; have z1 := cell_blk hblko 1 rfl; have z2 := cell_blk hblko 2 rfl; have z3 := cell_blk hblko 3 rfl; have f0 := free_blk hblko 0; have f1 := free_blk hblko 1; have f2 := free_blk hblko 2; have f3 := free_blk hblko 3; clear hblko)
      obtain ⟨w2, hw2, hz2, ho2, hb2⟩ := put4o HZo.out (.int .i64 S.J) (.int .i64 S.D) (.int .i64 S.Z) (.slice a1 S.np c1)
      rw [hw2]
      have HB2 : Hid (Below ws.heap.size ws w2) := HB1.out.trans ((HBo.out.trans hb2).mono HB1.out.size)
      have HZ2 := Lib.hid hz2
      have hs12 : w1.heap.size < w2.heap.size := Nat.lt_of_lt_of_le hszo hb2.size
      clear hw2 ho2 hb2 z0 z1 z2 z3 f0 f1 f2 f3 hwo HZo HBo hszo
      obtain ⟨jb, hjb⟩ : ∃ jb, w1.heap.size = jb := ⟨_, rfl⟩
      rw [hjb] at hz2 HZ2 hs12 ⊢
      have HJB : Hid (ws.heap.size ≤ jb) := by rw [← hjb]; exact HB1.out.size
      have j0 := cell_blk hz2 0 rfl
      have j1 := cell_blk hz2 1 rfl
      have j2 := cell_blk hz2 2 rfl
      have j3 := cell_blk hz2 3 rfl
      clear hz2 hjb
      have HZr := Lib.hid ((HB2.out.block _ hszs).trans HZ1.out)
      have g0 := free_blk HZr.out 0
      have g1 := free_blk HZr.out 1
      have g2 := free_blk HZr.out 2
      have g3 := free_blk HZr.out 3
      have k0 := cell_blk HZr.out 0 rfl
      have k1 := cell_blk HZr.out 1 rfl
      have k2 := cell_blk HZr.out 2 rfl
      have k3 := cell_blk HZr.out 3 rfl
      have hjne : wv.heap.size < jb := by have := HJB.out; omega
      obtain ⟨⟨r0, r1, r2, r3⟩, t0, t1⟩ := HSQ.out w2 HB2.out
      have hjn2 : jb < w2.heap.size := heap_lt HZ2.out
      go_wp2_with (go_at_call 86; refine (kvalidMark_any N _ S p j _ (HBK.out.go HB2.out)).mono ?_; rw [HIN.out]; rintro e w3 ⟨rfl, hb3⟩; have HZ3 := Lib.hid ((hb3.block _ (heap_lt HZr.out)).trans HZr.out); have HJ3 := Lib.hid ((hb3.block _ hjn2).trans HZ2.out); have HB3 : Hid (Below ws.heap.size ws w3) := bel HB2.out hb3; have x0 := cell_blk HJ3.out 0 rfl; have x1 := cell_blk HJ3.out 1 rfl; have x2 := cell_blk HJ3.out 2 rfl; have x3 := cell_blk HJ3.out 3 rfl; have l0 := free_blk HZ3.out 0; have l1 := free_blk HZ3.out 1; have l2 := free_blk HZ3.out 2; have l3 := free_blk HZ3.out 3; have n0 := cell_blk HZ3.out 0 rfl; have n1 := cell_blk HZ3.out 1 rfl; have n2 := cell_blk HZ3.out 2 rfl; have n3 := cell_blk HZ3.out 3 rfl; clear hb3)
      obtain ⟨w4, hw4, hz4, ho4, hb4⟩ := put4o HZ3.out (.int .i64 S.J) (.int .i64 S.D) (.int .i64 S.Z) (.slice a1 S.np c1)
      rw [hw4]
      have s0 := cell_blk hz4 0 rfl
      have s1 := cell_blk hz4 1 rfl
      have s2 := cell_blk hz4 2 rfl
      have s3 := cell_blk hz4 3 rfl
      exact bodyPost_ret (v := .tuple #[.agg #[.int .i64 S.J, .int .i64 S.D, .int .i64 S.Z, .slice a1 S.np c1], .int .i64 0]) (by simp [results, Try.results62, go_sem, s0, s1, s2, s3]) rfl ⟨rfl, HB.out.trans ((HB3.out.mono HB.out.size).trans (hb4.mono HVW.out))⟩
    | false =>
      rw [hin] at her
      have he : er = 1 := her.symm
      subst he
      rw [entV_no (by decide)]
      have HIN := Lib.hid hin
      clear her hin
      go_enter Try.func62, Try.ntmps62
      go_upto_region 1 with fail
      clear hwv
      go_upto_region 2 with (go_at_call 68; refine (enter_ok N _ S _ HBK.out hok).mono ?_; rintro e w1 ⟨rfl, hb1⟩; have HB1 : Hid (Below ws.heap.size ws w1) := (bel HB0.out hb1); clear hb1; obtain ⟨wo, hwo, HBo, hszo, hblko⟩ := box1 w1 (.cells #[.int .i64 0, .int .i64 0, .int .i64 0, .slice none 0 0] 74); have HZo := Lib.hid hblko; have z0 := cell_blk hblko 0 rfl; have z1 := cell_blk hblko 1 rfl; have z2 := cell_blk hblko 2 rfl; have z3 := cell_blk hblko 3 rfl; have f0 := free_blk hblko 0; have f1 := free_blk hblko 1; have f2 := free_blk hblko 2; have f3 := free_blk hblko 3; clear hblko)
      obtain ⟨w2, hw2, hz2, ho2, hb2⟩ := put4o HZo.out (.int .i64 S.J) (.int .i64 S.D) (.int .i64 S.Z) (.slice a1 S.np c1)
      rw [hw2]
      have HB2 : Hid (Below ws.heap.size ws w2) := HB1.out.trans ((HBo.out.trans hb2).mono HB1.out.size)
      have HZ2 := Lib.hid hz2
      have hs12 : w1.heap.size < w2.heap.size := Nat.lt_of_lt_of_le hszo hb2.size
      clear hw2 ho2 hb2 z0 z1 z2 z3 f0 f1 f2 f3 hwo HZo HBo hszo
      obtain ⟨jb, hjb⟩ : ∃ jb, w1.heap.size = jb := ⟨_, rfl⟩
      rw [hjb] at hz2 HZ2 hs12 ⊢
      have HJB : Hid (ws.heap.size ≤ jb) := by rw [← hjb]; exact HB1.out.size
      have j0 := cell_blk hz2 0 rfl
      have j1 := cell_blk hz2 1 rfl
      have j2 := cell_blk hz2 2 rfl
      have j3 := cell_blk hz2 3 rfl
      clear hz2 hjb
      have HZr := Lib.hid ((HB2.out.block _ hszs).trans HZ1.out)
      have g0 := free_blk HZr.out 0
      have g1 := free_blk HZr.out 1
      have g2 := free_blk HZr.out 2
      have g3 := free_blk HZr.out 3
      have k0 := cell_blk HZr.out 0 rfl
      have k1 := cell_blk HZr.out 1 rfl
      have k2 := cell_blk HZr.out 2 rfl
      have k3 := cell_blk HZr.out 3 rfl
      have hjne : wv.heap.size < jb := by have := HJB.out; omega
      obtain ⟨⟨r0, r1, r2, r3⟩, t0, t1⟩ := HSQ.out w2 HB2.out
      go_wp2_with (go_at_call 86; refine (kvalidMark_any N _ S p j _ (HBK.out.go HB2.out)).mono ?_; rw [HIN.out]; rintro e w3 ⟨rfl, hb3⟩; have HZ3 := Lib.hid ((hb3.block _ (heap_lt HZr.out)).trans HZr.out); have HB3 : Hid (Below ws.heap.size ws w3) := bel HB2.out hb3; have l0 := free_blk HZ3.out 0; have l1 := free_blk HZ3.out 1; have l2 := free_blk HZ3.out 2; have l3 := free_blk HZ3.out 3; have n0 := cell_blk HZ3.out 0 rfl; have n1 := cell_blk HZ3.out 1 rfl; have n2 := cell_blk HZ3.out 2 rfl; have n3 := cell_blk HZ3.out 3 rfl; clear hb3)
      obtain ⟨w4, hw4, hz4, ho4, hb4⟩ := put4o HZ3.out (.int .i64 0) (.int .i64 0) (.int .i64 0) (.slice none 0 0)
      rw [hw4]
      have s0 := cell_blk hz4 0 rfl
      have s1 := cell_blk hz4 1 rfl
      have s2 := cell_blk hz4 2 rfl
      have s3 := cell_blk hz4 3 rfl
      exact bodyPost_ret (v := .tuple #[.agg #[.int .i64 0, .int .i64 0, .int .i64 0, .slice none 0 0], .int .i64 1]) (by simp [results, Try.results62, go_sem, s0, s1, s2, s3]) rfl ⟨rfl, HB.out.trans ((HB3.out.mono HB.out.size).trans (hb4.mono HVW.out))⟩
theorem enterMark_ok (N : Nat) (v : Value) (S : JB) (p j : Int) (w : World) (h : ShowAt N w v S) (her : errA (okS S) (isMk S p j) = 0) :
    Calls Try.prog 62 #[v, .agg #[.int .i64 p, .int .i64 j]] w fun e w' => e = .returned (.tuple #[v, .int .i64 0]) ∧ Below w.heap.size w w' := enterMark_any N v S p j 0 w h her
theorem enterMark_no (N : Nat) (v : Value) (S : JB) (p j er : Int) (w : World) (h : ShowAt N w v S) (her : errA (okS S) (isMk S p j) = er) (h0 : er ≠ 0) :
    Calls Try.prog 62 #[v, .agg #[.int .i64 p, .int .i64 j]] w fun e w' => e = .returned (.tuple #[.agg #[.int .i64 0, .int .i64 0, .int .i64 0, .slice none 0 0], .int .i64 er]) ∧ Below w.heap.size w w' := by
  have := enterMark_any N v S p j er w h her
  rwa [entV_no h0] at this

theorem opn_at {S : JB} {q k : Nat} : opn S q k = decide ((S.pts q).getD k 0 = -1) := rfl
set_option maxHeartbeats 3200000 in
set_option maxRecDepth 100000 in
theorem kwaits_any (N : Nat) (v : Value) (S : JB) (q k : Nat) (w : World) (h : ShowAt N w v S) (hq : q < S.np) (hk : k < (S.pts q).length) :
    Calls Try.prog 63 #[v, .agg #[.int .i64 q, .int .i64 k]] w fun e w' => e = .returned (.bool (opn S q k)) ∧ Below w.heap.size w w' := by
  obtain ⟨p, hp⟩ : ∃ p : Int, (q : Int) = p := ⟨_, rfl⟩
  obtain ⟨j, hj⟩ : ∃ j : Int, (k : Int) = j := ⟨_, rfl⟩
  rw [hp, hj]
  obtain ⟨a1, c1, rfl⟩ := h.form
  obtain ⟨ws, hws, HB, hsz, hsz1, hblk, hblk1⟩ := box2 w (.cells #[.int .i64 S.J, .int .i64 S.D, .int .i64 S.Z, .slice a1 S.np c1] 74) (.cells #[.int .i64 p, .int .i64 j] 46)
  have q0 := cell_blk hblk 0 rfl
  have q1 := cell_blk hblk 1 rfl
  have q2 := cell_blk hblk 2 rfl
  have q3 := cell_blk hblk 3 rfl
  have p0 := cell_blk hblk1 0 rfl
  have p1 := cell_blk hblk1 1 rfl
  have HNZ : Hid (N ≤ w.heap.size) := h.1
  have HBK := Lib.hid (h.go HB.out)
  have HB0 : Hid (Below ws.heap.size ws ws) := Below.refl _ _
  have HNS : Hid (N ≤ ws.heap.size) := HBK.out.1
  have hlen := h.len
  have HSQ : Hid (∀ W, Below ws.heap.size ws W → ((W.cell? ⟨w.heap.size, 0, none⟩ = some (.int .i64 S.J) ∧ W.cell? ⟨w.heap.size, 1, none⟩ = some (.int .i64 S.D) ∧ W.cell? ⟨w.heap.size, 2, none⟩ = some (.int .i64 S.Z) ∧ W.cell? ⟨w.heap.size, 3, none⟩ = some (.slice a1 S.np c1))) ∧ W.cell? ⟨w.heap.size + 1, 0, none⟩ = some (.int .i64 p) ∧ W.cell? ⟨w.heap.size + 1, 1, none⟩ = some (.int .i64 j)) := fun W hW => ⟨⟨(hW.cell (p := ⟨w.heap.size, 0, none⟩) hsz).trans q0, (hW.cell (p := ⟨w.heap.size, 1, none⟩) hsz).trans q1, (hW.cell (p := ⟨w.heap.size, 2, none⟩) hsz).trans q2, (hW.cell (p := ⟨w.heap.size, 3, none⟩) hsz).trans q3⟩, (hW.cell (p := ⟨w.heap.size + 1, 0, none⟩) hsz1).trans p0, (hW.cell (p := ⟨w.heap.size + 1, 1, none⟩) hsz1).trans p1⟩
  clear hblk hblk1 h
  obtain ⟨A, C, hcap, _, hrows, hcells⟩ := HBK.out.plates.open
  obtain ⟨b, off, rfl, hbN, hrr⟩ := hcells (by omega)
  have d1 := (hrr q hq).2
  have hli := (hrows q hq).2
  obtain ⟨gr, or, hA, hgr, hrc⟩ := hli.cell (by omega)
  rw [hA] at d1
  obtain ⟨x, hx⟩ : ∃ x, (S.pts q).getD k 0 = x := ⟨_, rfl⟩
  have ck := hrc k hk
  rw [hx] at ck
  have HO : Hid (opn S q k = decide (x = -1)) := by unfold Hid; rw [opn_at, hx]
  obtain ⟨n, hn⟩ : ∃ n, (S.pts q).length = n := ⟨_, rfl⟩
  rw [hn] at d1 hk
  subst hp
  subst hj
  have hqi : (q : Int) < (S.np : Int) := by omega
  have hki : (k : Int) < (n : Int) := by omega
  clear hrr hrows hcells hli hA hrc hx hn
  by_cases hx1 : x = -1
  · have hxb : (x == -1) = true := by simp [hx1]
    have HE : Hid (opn S q k = true) := by unfold Hid; rw [HO.out]; exact decide_eq_true hx1
    clear hx1
    go_enter Try.func63, Try.ntmps63
    go_wp2_with fail
    go_quiet (fail)
    go_wp2_with fail
    go_ret
    exact ⟨ret_bool HE.out.symm, HB.out.trans ((below_drewN (Below.refl _ _) _).mono HB.out.size)⟩
  · have hxb : (x == -1) = false := by simp [hx1]
    have HE : Hid (opn S q k = false) := by unfold Hid; rw [HO.out]; exact decide_eq_false hx1
    clear hx1
    go_enter Try.func63, Try.ntmps63
    go_wp2_with fail
    go_quiet (fail)
    go_wp2_with fail
    go_ret
    exact ⟨ret_bool HE.out.symm, HB.out.trans ((below_drewN (Below.refl _ _) _).mono HB.out.size)⟩

end Go.Proofs.Ytffnlimgjnhmpaa
