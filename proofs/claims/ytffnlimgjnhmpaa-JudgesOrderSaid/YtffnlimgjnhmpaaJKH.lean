/-
  JKG: what enters; Check, Total, Place, Prize, Better of package judges.
  JKH: enterPlate; Total, Place, Prize, Better of package judges.
-/
import Derived.Test.YtffnlimgjnhmpaaJKA
import Derived.Test.YtffnlimgjnhmpaaJKF
import Derived.Test.YtffnlimgjnhmpaaJRefI
namespace Go.Proofs.Ytffnlimgjnhmpaa
open Go.RowKit

/-- what enters, or nothing -/
def entV (er : Int) (v : Value) : Value := if er = 0 then v else .agg #[.int .i64 0, .int .i64 0, .int .i64 0, .slice none 0 0]
theorem entV_ok (v : Value) : entV 0 v = v := rfl
theorem entV_no {er : Int} (h : er ≠ 0) (v : Value) : entV er v = .agg #[.int .i64 0, .int .i64 0, .int .i64 0, .slice none 0 0] := if_neg h

set_option maxHeartbeats 1600000 in
set_option maxRecDepth 100000 in
theorem enter_any (N : Nat) (v : Value) (S : JB) (w : World) (h : ShowAt N w v S) :
    Calls Try.prog 68 #[v] w fun e w' => e = .returned (.tuple #[entV (errS S) v, .int .i64 (errS S)]) ∧ Below w.heap.size w w' := by
  obtain ⟨a1, c1, rfl⟩ := h.form
  obtain ⟨ws, hws, HB, hsz, hsz1, hblk, hblk1⟩ := box2 w (.cells #[.int .i64 S.J, .int .i64 S.D, .int .i64 S.Z, .slice a1 S.np c1] 24) (.cells #[.int .i64 0, .int .i64 0, .int .i64 0, .slice none 0 0] 74)
  have q0 := cell_blk hblk 0 rfl
  have q1 := cell_blk hblk 1 rfl
  have q2 := cell_blk hblk 2 rfl
  have q3 := cell_blk hblk 3 rfl
  have HNZ : Hid (N ≤ w.heap.size) := h.1
  have HBK := Lib.hid (h.go HB.out)
  have HB0 : Hid (Below ws.heap.size ws ws) := Below.refl _ _
  have HNS : Hid (N ≤ ws.heap.size) := HBK.out.1
  have HZ1 := Lib.hid hblk1
  have hlen := h.len
  have HSQ : Hid (∀ W, Below ws.heap.size ws W → (W.cell? ⟨w.heap.size, 0, none⟩ = some (.int .i64 S.J) ∧ W.cell? ⟨w.heap.size, 1, none⟩ = some (.int .i64 S.D) ∧ W.cell? ⟨w.heap.size, 2, none⟩ = some (.int .i64 S.Z) ∧ W.cell? ⟨w.heap.size, 3, none⟩ = some (.slice a1 S.np c1))) := fun W hW => ⟨(hW.cell (p := ⟨w.heap.size, 0, none⟩) hsz).trans q0, (hW.cell (p := ⟨w.heap.size, 1, none⟩) hsz).trans q1, (hW.cell (p := ⟨w.heap.size, 2, none⟩) hsz).trans q2, (hW.cell (p := ⟨w.heap.size, 3, none⟩) hsz).trans q3⟩
  clear hblk hblk1 h
  cases hok : okS S with
  | true =>
    have HOK := Lib.hid hok
    have HE : Hid (errS S = 0) := by unfold Hid errS; rw [hok]; rfl
    clear hok
    rw [HE.out, entV_ok]
    go_enter Try.func68, Try.ntmps68
    go_wp2_with (go_at_call 90; refine (kvalidShow_any N _ S _ HBK.out).mono ?_; rw [HOK.out]; rintro e w1 ⟨rfl, hb1⟩; have HB1 : Hid (Below ws.heap.size ws w1) := hb1; clear hb1; obtain ⟨r0, r1, r2, r3⟩ := HSQ.out w1 HB1.out; have HZ := Lib.hid ((HB1.out.block _ hsz1).trans HZ1.out); have z0 := cell_blk HZ.out 0 rfl; have z1 := cell_blk HZ.out 1 rfl; have z2 := cell_blk HZ.out 2 rfl; have z3 := cell_blk HZ.out 3 rfl; have f0 := free_blk HZ.out 0; have f1 := free_blk HZ.out 1; have f2 := free_blk HZ.out 2; have f3 := free_blk HZ.out 3)
    obtain ⟨w2, hw2, hz2, ho2, hb2⟩ := put4o HZ.out (.int .i64 S.J) (.int .i64 S.D) (.int .i64 S.Z) (.slice a1 S.np c1)
    rw [hw2]
    have x0 := cell_blk hz2 0 rfl
    have x1 := cell_blk hz2 1 rfl
    have x2 := cell_blk hz2 2 rfl
    have x3 := cell_blk hz2 3 rfl
    exact bodyPost_ret (v := .tuple #[.agg #[.int .i64 S.J, .int .i64 S.D, .int .i64 S.Z, .slice a1 S.np c1], .int .i64 0]) (by simp [results, Try.results68, go_sem, x0, x1, x2, x3]) rfl ⟨rfl, HB.out.trans ((HB1.out.mono HB.out.size).trans (hb2.mono (by omega)))⟩
  | false =>
    have HOK := Lib.hid hok
    have HE : Hid (errS S = 80) := by unfold Hid errS; rw [hok]; rfl
    clear hok
    rw [HE.out, entV_no (by decide)]
    go_enter Try.func68, Try.ntmps68
    go_wp2_with (go_at_call 90; refine (kvalidShow_any N _ S _ HBK.out).mono ?_; rw [HOK.out]; rintro e w1 ⟨rfl, hb1⟩; have HB1 : Hid (Below ws.heap.size ws w1) := hb1; clear hb1; obtain ⟨r0, r1, r2, r3⟩ := HSQ.out w1 HB1.out; have HZ := Lib.hid ((HB1.out.block _ hsz1).trans HZ1.out); have z0 := cell_blk HZ.out 0 rfl; have z1 := cell_blk HZ.out 1 rfl; have z2 := cell_blk HZ.out 2 rfl; have z3 := cell_blk HZ.out 3 rfl; have f0 := free_blk HZ.out 0; have f1 := free_blk HZ.out 1; have f2 := free_blk HZ.out 2; have f3 := free_blk HZ.out 3)
    obtain ⟨w2, hw2, hz2, ho2, hb2⟩ := put4o HZ.out (.int .i64 0) (.int .i64 0) (.int .i64 0) (.slice none 0 0)
    rw [hw2]
    have x0 := cell_blk hz2 0 rfl
    have x1 := cell_blk hz2 1 rfl
    have x2 := cell_blk hz2 2 rfl
    have x3 := cell_blk hz2 3 rfl
    exact bodyPost_ret (v := .tuple #[.agg #[.int .i64 0, .int .i64 0, .int .i64 0, .slice none 0 0], .int .i64 80]) (by simp [results, Try.results68, go_sem, x0, x1, x2, x3]) rfl ⟨rfl, HB.out.trans ((HB1.out.mono HB.out.size).trans (hb2.mono (by omega)))⟩

theorem enter_ok (N : Nat) (v : Value) (S : JB) (w : World) (h : ShowAt N w v S) (hok : okS S = true) :
    Calls Try.prog 68 #[v] w fun e w' => e = .returned (.tuple #[v, .int .i64 0]) ∧ Below w.heap.size w w' :=
  (enter_any N v S w h).mono fun e w' ⟨he, hb⟩ => ⟨by rw [he, show errS S = 0 by unfold errS; rw [hok]; rfl]; rfl, hb⟩
theorem enter_no (N : Nat) (v : Value) (S : JB) (w : World) (h : ShowAt N w v S) (hok : okS S = false) :
    Calls Try.prog 68 #[v] w fun e w' => e = .returned (.tuple #[.agg #[.int .i64 0, .int .i64 0, .int .i64 0, .slice none 0 0], .int .i64 80]) ∧ Below w.heap.size w w' :=
  (enter_any N v S w h).mono fun e w' ⟨he, hb⟩ => ⟨by rw [he, show errS S = 80 by unfold errS; rw [hok]; rfl]; rfl, hb⟩

set_option maxHeartbeats 1600000 in
set_option maxRecDepth 100000 in
theorem kCheck_any (N : Nat) (v : Value) (S : JB) (w : World) (h : ShowAt N w v S) :
    Calls Try.prog 43 #[v] w fun e w' => e = .returned (.int .i64 (errS S)) ∧ Below w.heap.size w w' := by
  obtain ⟨a1, c1, rfl⟩ := h.form
  obtain ⟨ws, hws, HB, hsz, hblk⟩ := box1 w (.cells #[.int .i64 S.J, .int .i64 S.D, .int .i64 S.Z, .slice a1 S.np c1] 24)
  have q0 := cell_blk hblk 0 rfl
  have q1 := cell_blk hblk 1 rfl
  have q2 := cell_blk hblk 2 rfl
  have q3 := cell_blk hblk 3 rfl
  have HNZ : Hid (N ≤ w.heap.size) := h.1
  have HBK := Lib.hid (h.go HB.out)
  have HB0 : Hid (Below ws.heap.size ws ws) := Below.refl _ _
  have HNS : Hid (N ≤ ws.heap.size) := HBK.out.1
  have hlen := h.len
  clear hblk h
  cases hok : okS S with
  | true =>
    have HE : Hid (errS S = 0) := by unfold Hid errS; rw [hok]; rfl
    go_enter Try.func43, Try.ntmps43
    go_upto_region 2 with (go_at_call 68; refine (enter_ok N _ S _ HBK.out hok).mono ?_; rintro e w1 ⟨rfl, hb1⟩; have HB1 : Hid (Below ws.heap.size ws w1) := (bel HB0.out hb1); clear hb1; obtain ⟨wo, hwo, HBo, hszo, hblko⟩ := box1 w1 (.cells #[.int .i64 0, .int .i64 0, .int .i64 0, .slice none 0 0] 74); have HZo := Lib.hid hblko; have z0 := cell_blk hblko 0 rfl; have z1 := cell_blk hblko 1 rfl; have z2 := cell_blk hblko 2 rfl; have z3 := cell_blk hblko 3 rfl; have f0 := free_blk hblko 0; have f1 := free_blk hblko 1; have f2 := free_blk hblko 2; have f3 := free_blk hblko 3; clear hblko)
    obtain ⟨w2, hw2, hz2, ho2, hb2⟩ := put4o HZo.out (.int .i64 S.J) (.int .i64 S.D) (.int .i64 S.Z) (.slice a1 S.np c1)
    rw [hw2]
    have HB2 : Hid (Below ws.heap.size ws w2) := HB1.out.trans ((HBo.out.trans hb2).mono HB1.out.size)
    have HZ2 := Lib.hid hz2
    have hs12 : w1.heap.size < w2.heap.size := Nat.lt_of_lt_of_le hszo hb2.size
    clear hw2 ho2 hb2 z0 z1 z2 z3 f0 f1 f2 f3 hwo HZo HBo hszo
    obtain ⟨jb, hjb⟩ : ∃ jb, w1.heap.size = jb := ⟨_, rfl⟩
    rw [hjb] at hz2 HZ2 hs12 ⊢
    have HJB : Hid (ws.heap.size ≤ jb) := by rw [← hjb]; exact HB1.out.size
    have j0 := cell_blk hz2 0 rfl
    have j1 := cell_blk hz2 1 rfl
    have j2 := cell_blk hz2 2 rfl
    have j3 := cell_blk hz2 3 rfl
    clear hz2 hjb
    go_wp2_with fail
    go_ret
    exact ⟨ret_int HE.out.symm, fin HB.out HB2.out⟩
  | false =>
    have HE : Hid (errS S = 80) := by unfold Hid errS; rw [hok]; rfl
    go_enter Try.func43, Try.ntmps43
    go_upto_region 2 with (go_at_call 68; refine (enter_no N _ S _ HBK.out hok).mono ?_; rintro e w1 ⟨rfl, hb1⟩; have HB1 : Hid (Below ws.heap.size ws w1) := (bel HB0.out hb1); clear hb1; obtain ⟨wo, hwo, HBo, hszo, hblko⟩ := box1 w1 (.cells #[.int .i64 0, .int .i64 0, .int .i64 0, .slice none 0 0] 74); have HZo := Lib.hid hblko; have z0 := cell_blk hblko 0 rfl; have z1 := cell_blk hblko 1 rfl; have z2 := cell_blk hblko 2 rfl; have z3 := cell_blk hblko 3 rfl; have f0 := free_blk hblko 0; have f1 := free_blk hblko 1; have f2 := free_blk hblko 2; have f3 := free_blk hblko 3; clear hblko)
    obtain ⟨w2, hw2, hz2, ho2, hb2⟩ := put4o HZo.out (.int .i64 0) (.int .i64 0) (.int .i64 0) (.slice none 0 0)
    rw [hw2]
    have HB2 : Hid (Below ws.heap.size ws w2) := HB1.out.trans ((HBo.out.trans hb2).mono HB1.out.size)
    have HZ2 := Lib.hid hz2
    have hs12 : w1.heap.size < w2.heap.size := Nat.lt_of_lt_of_le hszo hb2.size
    clear hw2 ho2 hb2 z0 z1 z2 z3 f0 f1 f2 f3 hwo HZo HBo hszo
    obtain ⟨jb, hjb⟩ : ∃ jb, w1.heap.size = jb := ⟨_, rfl⟩
    rw [hjb] at hz2 HZ2 hs12 ⊢
    have HJB : Hid (ws.heap.size ≤ jb) := by rw [← hjb]; exact HB1.out.size
    have j0 := cell_blk hz2 0 rfl
    have j1 := cell_blk hz2 1 rfl
    have j2 := cell_blk hz2 2 rfl
    have j3 := cell_blk hz2 3 rfl
    clear hz2 hjb
    go_wp2_with fail
    go_ret
    exact ⟨ret_int HE.out.symm, fin HB.out HB2.out⟩

end Go.Proofs.Ytffnlimgjnhmpaa

namespace Go.Proofs.Ytffnlimgjnhmpaa
open Go.RowKit

set_option maxHeartbeats 3200000 in
set_option maxRecDepth 100000 in
theorem enterPlate_any (N : Nat) (v : Value) (S : JB) (a er : Int) (w : World) (h : ShowAt N w v S) (her : errA (okS S) (inN a S.np) = er) :
    Calls Try.prog 55 #[v, .int .i64 a] w fun e w' => e = .returned (.tuple #[entV er v, .int .i64 er]) ∧ Below w.heap.size w w' := by
  obtain ⟨a1, c1, rfl⟩ := h.form
  obtain ⟨ws, hws, HB, hsz, hsz1, hblk, hblk1⟩ := box2 w (.cells #[.int .i64 S.J, .int .i64 S.D, .int .i64 S.Z, .slice a1 S.np c1] 24) (.cells #[.int .i64 0, .int .i64 0, .int .i64 0, .slice none 0 0] 74)
  have q0 := cell_blk hblk 0 rfl
  have q1 := cell_blk hblk 1 rfl
  have q2 := cell_blk hblk 2 rfl
  have q3 := cell_blk hblk 3 rfl
  have HNZ : Hid (N ≤ w.heap.size) := h.1
  have HBK := Lib.hid (h.go HB.out)
  have HB0 : Hid (Below ws.heap.size ws ws) := Below.refl _ _
  have HNS : Hid (N ≤ ws.heap.size) := HBK.out.1
  have HZ1 := Lib.hid hblk1
  have hlen := h.len
  have HSQ : Hid (∀ W, Below ws.heap.size ws W → (W.cell? ⟨w.heap.size, 0, none⟩ = some (.int .i64 S.J) ∧ W.cell? ⟨w.heap.size, 1, none⟩ = some (.int .i64 S.D) ∧ W.cell? ⟨w.heap.size, 2, none⟩ = some (.int .i64 S.Z) ∧ W.cell? ⟨w.heap.size, 3, none⟩ = some (.slice a1 S.np c1))) := fun W hW => ⟨(hW.cell (p := ⟨w.heap.size, 0, none⟩) hsz).trans q0, (hW.cell (p := ⟨w.heap.size, 1, none⟩) hsz).trans q1, (hW.cell (p := ⟨w.heap.size, 2, none⟩) hsz).trans q2, (hW.cell (p := ⟨w.heap.size, 3, none⟩) hsz).trans q3⟩
  clear hblk hblk1 h
  cases hok : okS S with
  | false =>
    rw [hok] at her
    have he : er = 80 := her.symm
    subst he
    rw [entV_no (by decide)]
    have HER : Hid ((80 : Int) = 80) := rfl
    go_enter Try.func55, Try.ntmps55
    go_upto_region 2 with (go_at_call 68; refine (enter_no N _ S _ HBK.out hok).mono ?_; rintro e w1 ⟨rfl, hb1⟩; have HB1 : Hid (Below ws.heap.size ws w1) := (bel HB0.out hb1); clear hb1; obtain ⟨wo, hwo, HBo, hszo, hblko⟩ := box1 w1 (.cells #[.int .i64 0, .int .i64 0, .int .i64 0, .slice none 0 0] 74); have HZo := Lib.hid hblko; have z0 := cell_blk hblko 0 rfl; have z1 := cell_blk hblko 1 rfl; have z2 := cell_blk hblko 2 rfl; have z3 := cell_blk hblko 3 rfl; have f0 := free_blk hblko 0; have f1 := free_blk hblko 1; have f2 := free_blk hblko 2; have f3 := free_blk hblko 3; clear hblko)
    obtain ⟨w2, hw2, hz2, ho2, hb2⟩ := put4o HZo.out (.int .i64 0) (.int .i64 0) (.int .i64 0) (.slice none 0 0)
    rw [hw2]
    have HB2 : Hid (Below ws.heap.size ws w2) := HB1.out.trans ((HBo.out.trans hb2).mono HB1.out.size)
    have HZ2 := Lib.hid hz2
    have hs12 : w1.heap.size < w2.heap.size := Nat.lt_of_lt_of_le hszo hb2.size
    clear hw2 ho2 hb2 z0 z1 z2 z3 f0 f1 f2 f3 hwo HZo HBo hszo
    obtain ⟨jb, hjb⟩ : ∃ jb, w1.heap.size = jb := ⟨_, rfl⟩
    rw [hjb] at hz2 HZ2 hs12 ⊢
    have HJB : Hid (ws.heap.size ≤ jb) := by rw [← hjb]; exact HB1.out.size
    have j0 := cell_blk hz2 0 rfl
    have j1 := cell_blk hz2 1 rfl
    have j2 := cell_blk hz2 2 rfl
    have j3 := cell_blk hz2 3 rfl
    clear hz2 hjb
    have HZr := Lib.hid ((HB2.out.block _ hsz1).trans HZ1.out)
    have g0 := free_blk HZr.out 0
    have g1 := free_blk HZr.out 1
    have g2 := free_blk HZr.out 2
    have g3 := free_blk HZr.out 3
    have k0 := cell_blk HZr.out 0 rfl
    have k1 := cell_blk HZr.out 1 rfl
    have k2 := cell_blk HZr.out 2 rfl
    have k3 := cell_blk HZr.out 3 rfl
    have hjne : w.heap.size + 1 < jb := by have := HJB.out; omega
    go_wp2_with fail
    obtain ⟨w4, hw4, hz4, ho4, hb4⟩ := put4o HZr.out (.int .i64 0) (.int .i64 0) (.int .i64 0) (.slice none 0 0)
    rw [hw4]
    have s0 := cell_blk hz4 0 rfl
    have s1 := cell_blk hz4 1 rfl
    have s2 := cell_blk hz4 2 rfl
    have s3 := cell_blk hz4 3 rfl
    exact bodyPost_ret (v := .tuple #[.agg #[.int .i64 0, .int .i64 0, .int .i64 0, .slice none 0 0], .int .i64 80]) (by simp [results, Try.results55, go_sem, s0, s1, s2, s3]) rfl ⟨rfl, HB.out.trans ((HB2.out.mono HB.out.size).trans (hb4.mono (by omega)))⟩
  | true =>
    rw [hok] at her
    cases hin : inN a S.np with
    | true =>
      rw [hin] at her
      have he : er = 0 := her.symm
      subst he
      rw [entV_ok]
      have HIN := Lib.hid hin
      clear her hin
      go_enter Try.func55, Try.ntmps55
      go_upto_region 2 with (go_at_call 68; refine (enter_ok N _ S _ HBK.out hok).mono ?_; rintro e w1 ⟨rfl, hb1⟩; have HB1 : Hid (Below ws.heap.size ws w1) := (bel HB0.out hb1); clear hb1; obtain ⟨wo, hwo, HBo, hszo, hblko⟩ := box1 w1 (.cells #[.int .i64 0, .int .i64 0, .int .i64 0, .slice none 0 0] 74); have HZo := Lib.hid hblko; have z0 := cell_blk hblko 0 rfl; have z1 := cell_blk hblko 1 rfl; have z2 := cell_blk hblko 2 rfl; have z3 := cell_blk hblko 3 rfl; have f0 := free_blk hblko 0; have f1 := free_blk hblko 1; have f2 := free_blk hblko 2; have f3 := free_blk hblko 3; clear hblko)
      obtain ⟨w2, hw2, hz2, ho2, hb2⟩ := put4o HZo.out (.int .i64 S.J) (.int .i64 S.D) (.int .i64 S.Z) (.slice a1 S.np c1)
      rw [hw2]
      have HB2 : Hid (Below ws.heap.size ws w2) := HB1.out.trans ((HBo.out.trans hb2).mono HB1.out.size)
      have HZ2 := Lib.hid hz2
      have hs12 : w1.heap.size < w2.heap.size := Nat.lt_of_lt_of_le hszo hb2.size
      clear hw2 ho2 hb2 z0 z1 z2 z3 f0 f1 f2 f3 hwo HZo HBo hszo
      obtain ⟨jb, hjb⟩ : ∃ jb, w1.heap.size = jb := ⟨_, rfl⟩
      rw [hjb] at hz2 HZ2 hs12 ⊢
      have HJB : Hid (ws.heap.size ≤ jb) := by rw [← hjb]; exact HB1.out.size
      have j0 := cell_blk hz2 0 rfl
      have j1 := cell_blk hz2 1 rfl
      have j2 := cell_blk hz2 2 rfl
      have j3 := cell_blk hz2 3 rfl
      clear hz2 hjb
      have HZr := Lib.hid ((HB2.out.block _ hsz1).trans HZ1.out)
      have g0 := free_blk HZr.out 0
      have g1 := free_blk HZr.out 1
      have g2 := free_blk HZr.out 2
      have g3 := free_blk HZr.out 3
      have k0 := cell_blk HZr.out 0 rfl
      have k1 := cell_blk HZr.out 1 rfl
      have k2 := cell_blk HZr.out 2 rfl
      have k3 := cell_blk HZr.out 3 rfl
      have hjne : w.heap.size + 1 < jb := by have := HJB.out; omega
      obtain ⟨r0, r1, r2, r3⟩ := HSQ.out w2 HB2.out
      go_wp2_with (go_at_call 59; refine (kwithin_any _ _ _ _ HIN.out).mono ?_; rintro e w' ⟨rfl, hw'⟩; rw [hw']; clear hw')
      obtain ⟨w4, hw4, hz4, ho4, hb4⟩ := put4o HZr.out (.int .i64 S.J) (.int .i64 S.D) (.int .i64 S.Z) (.slice a1 S.np c1)
      rw [hw4]
      have s0 := cell_blk hz4 0 rfl
      have s1 := cell_blk hz4 1 rfl
      have s2 := cell_blk hz4 2 rfl
      have s3 := cell_blk hz4 3 rfl
      exact bodyPost_ret (v := .tuple #[.agg #[.int .i64 S.J, .int .i64 S.D, .int .i64 S.Z, .slice a1 S.np c1], .int .i64 0]) (by simp [results, Try.results55, go_sem, s0, s1, s2, s3]) rfl ⟨rfl, HB.out.trans ((HB2.out.mono HB.out.size).trans (hb4.mono (by omega)))⟩
    | false =>
      rw [hin] at her
      have he : er = 1 := her.symm
      subst he
      rw [entV_no (by decide)]
      have HIN := Lib.hid hin
      clear her hin
      go_enter Try.func55, Try.ntmps55
      go_upto_region 2 with (go_at_call 68; refine (enter_ok N _ S _ HBK.out hok).mono ?_; rintro e w1 ⟨rfl, hb1⟩; have HB1 : Hid (Below ws.heap.size ws w1) := (bel HB0.out hb1); clear hb1; obtain ⟨wo, hwo, HBo, hszo, hblko⟩ := box1 w1 (.cells #[.int .i64 0, .int .i64 0, .int .i64 0, .slice none 0 0] 74); have HZo := Lib.hid hblko; have z0 := cell_blk hblko 0 rfl; have z1 := cell_blk hblko 1 rfl; have z2 := cell_blk hblko 2 rfl; have z3 := cell_blk hblko 3 rfl; have f0 := free_blk hblko 0; have f1 := free_blk hblko 1; have f2 := free_blk hblko 2; have f3 := free_blk hblko 3; clear hblko)
      obtain ⟨w2, hw2, hz2, ho2, hb2⟩ := put4o HZo.out (.int .i64 S.J) (.int .i64 S.D) (.int .i64 S.Z) (.slice a1 S.np c1)
      rw [hw2]
      have HB2 : Hid (Below ws.heap.size ws w2) := HB1.out.trans ((HBo.out.trans hb2).mono HB1.out.size)
      have HZ2 := Lib.hid hz2
      have hs12 : w1.heap.size < w2.heap.size := Nat.lt_of_lt_of_le hszo hb2.size
      clear hw2 ho2 hb2 z0 z1 z2 z3 f0 f1 f2 f3 hwo HZo HBo hszo
      obtain ⟨jb, hjb⟩ : ∃ jb, w1.heap.size = jb := ⟨_, rfl⟩
      rw [hjb] at hz2 HZ2 hs12 ⊢
      have HJB : Hid (ws.heap.size ≤ jb) := by rw [← hjb]; exact HB1.out.size
      have j0 := cell_blk hz2 0 rfl
      have j1 := cell_blk hz2 1 rfl
      have j2 := cell_blk hz2 2 rfl
      have j3 := cell_blk hz2 3 rfl
      clear hz2 hjb
      have HZr := Lib.hid ((HB2.out.block _ hsz1).trans HZ1.out)
      have g0 := free_blk HZr.out 0
      have g1 := free_blk HZr.out 1
      have g2 := free_blk HZr.out 2
      have g3 := free_blk HZr.out 3
      have k0 := cell_blk HZr.out 0 rfl
      have k1 := cell_blk HZr.out 1 rfl
      have k2 := cell_blk HZr.out 2 rfl
      have k3 := cell_blk HZr.out 3 rfl
      have hjne : w.heap.size + 1 < jb := by have := HJB.out; omega
      obtain ⟨r0, r1, r2, r3⟩ := HSQ.out w2 HB2.out
      go_wp2_with (go_at_call 59; refine (kwithin_any _ _ _ _ HIN.out).mono ?_; rintro e w' ⟨rfl, hw'⟩; rw [hw']; clear hw')
      obtain ⟨w4, hw4, hz4, ho4, hb4⟩ := put4o HZr.out (.int .i64 0) (.int .i64 0) (.int .i64 0) (.slice none 0 0)
      rw [hw4]
      have s0 := cell_blk hz4 0 rfl
      have s1 := cell_blk hz4 1 rfl
      have s2 := cell_blk hz4 2 rfl
      have s3 := cell_blk hz4 3 rfl
      exact bodyPost_ret (v := .tuple #[.agg #[.int .i64 0, .int .i64 0, .int .i64 0, .slice none 0 0], .int .i64 1]) (by simp [results, Try.results55, go_sem, s0, s1, s2, s3]) rfl ⟨rfl, HB.out.trans ((HB2.out.mono HB.out.size).trans (hb4.mono (by omega)))⟩

theorem enterPlate_ok (N : Nat) (v : Value) (S : JB) (a : Int) (w : World) (h : ShowAt N w v S) (her : errA (okS S) (inN a S.np) = 0) :
    Calls Try.prog 55 #[v, .int .i64 a] w fun e w' => e = .returned (.tuple #[v, .int .i64 0]) ∧ Below w.heap.size w w' := enterPlate_any N v S a 0 w h her
theorem enterPlate_no (N : Nat) (v : Value) (S : JB) (a er : Int) (w : World) (h : ShowAt N w v S) (her : errA (okS S) (inN a S.np) = er) (h0 : er ≠ 0) :
    Calls Try.prog 55 #[v, .int .i64 a] w fun e w' => e = .returned (.tuple #[.agg #[.int .i64 0, .int .i64 0, .int .i64 0, .slice none 0 0], .int .i64 er]) ∧ Below w.heap.size w w' := by
  have := enterPlate_any N v S a er w h her
  rwa [entV_no h0] at this

set_option maxHeartbeats 6400000 in
set_option maxRecDepth 100000 in
theorem kTotal_any (N : Nat) (v : Value) (S : JB) (a er : Int) (w : World) (h : ShowAt N w v S) (her : errA (okS S) (inN a S.np) = er) :
    Calls Try.prog 15 #[v, .int .i64 a] w fun e w' => e = .returned (.tuple #[.agg #[.int .i64 (sp er (loT S a.toNat)), .int .i64 (sp er (hiT S a.toNat))], .int .i64 er]) ∧ Below w.heap.size w w' := by
  obtain ⟨a1, c1, rfl⟩ := h.form
  obtain ⟨ws, hws, HB, hsz, hsz1, hblk, hblk1⟩ := box2 w (.cells #[.int .i64 S.J, .int .i64 S.D, .int .i64 S.Z, .slice a1 S.np c1] 24) (.cells #[.int .i64 0, .int .i64 0] 30)
  have q0 := cell_blk hblk 0 rfl
  have q1 := cell_blk hblk 1 rfl
  have q2 := cell_blk hblk 2 rfl
  have q3 := cell_blk hblk 3 rfl
  have HNZ : Hid (N ≤ w.heap.size) := h.1
  have HBK := Lib.hid (h.go HB.out)
  have HB0 : Hid (Below ws.heap.size ws ws) := Below.refl _ _
  have HNS : Hid (N ≤ ws.heap.size) := HBK.out.1
  have HZ1 := Lib.hid hblk1
  have hlen := h.len
  have HSQ : Hid (∀ W, Below ws.heap.size ws W → (W.cell? ⟨w.heap.size, 0, none⟩ = some (.int .i64 S.J) ∧ W.cell? ⟨w.heap.size, 1, none⟩ = some (.int .i64 S.D) ∧ W.cell? ⟨w.heap.size, 2, none⟩ = some (.int .i64 S.Z) ∧ W.cell? ⟨w.heap.size, 3, none⟩ = some (.slice a1 S.np c1))) := fun W hW => ⟨(hW.cell (p := ⟨w.heap.size, 0, none⟩) hsz).trans q0, (hW.cell (p := ⟨w.heap.size, 1, none⟩) hsz).trans q1, (hW.cell (p := ⟨w.heap.size, 2, none⟩) hsz).trans q2, (hW.cell (p := ⟨w.heap.size, 3, none⟩) hsz).trans q3⟩
  clear hblk hblk1 h
  by_cases h0 : er = 0
  · subst h0
    obtain ⟨hok, hin⟩ := errA_ok her
    obtain ⟨k, rfl, hk⟩ := inN_nat hin
    have HRD := Lib.hid (okS_good hok).rj
    obtain ⟨lo, hlo⟩ : ∃ lo : Int, ((loT S k : Int) : Int) = lo := ⟨_, rfl⟩
    obtain ⟨hi, hhi⟩ : ∃ hi : Int, ((hiT S k : Int) : Int) = hi := ⟨_, rfl⟩
    have HLO := Lib.hid hlo
    have HHI := Lib.hid hhi
    have HSL : Hid (sp 0 (loT S (k : Int).toNat) = lo) := by rw [Int.toNat_natCast]; unfold Hid; rw [sp_ok]; exact hlo
    have HSH : Hid (sp 0 (hiT S (k : Int).toNat) = hi) := by rw [Int.toNat_natCast]; unfold Hid; rw [sp_ok]; exact hhi
    clear hok hin hlo hhi
    go_enter Try.func15, Try.ntmps15
    go_upto_region 2 with (go_at_call 55; refine (enterPlate_ok N _ S k _ HBK.out her).mono ?_; rintro e w1 ⟨rfl, hb1⟩; have HB1 : Hid (Below ws.heap.size ws w1) := (bel HB0.out hb1); clear hb1; obtain ⟨wo, hwo, HBo, hszo, hblko⟩ := box1 w1 (.cells #[.int .i64 0, .int .i64 0, .int .i64 0, .slice none 0 0] 74); have HZo := Lib.hid hblko; have z0 := cell_blk hblko 0 rfl; have z1 := cell_blk hblko 1 rfl; have z2 := cell_blk hblko 2 rfl; have z3 := cell_blk hblko 3 rfl; have f0 := free_blk hblko 0; have f1 := free_blk hblko 1; have f2 := free_blk hblko 2; have f3 := free_blk hblko 3; clear hblko)
    obtain ⟨w2, hw2, hz2, ho2, hb2⟩ := put4o HZo.out (.int .i64 S.J) (.int .i64 S.D) (.int .i64 S.Z) (.slice a1 S.np c1)
    rw [hw2]
    have HB2 : Hid (Below ws.heap.size ws w2) := HB1.out.trans ((HBo.out.trans hb2).mono HB1.out.size)
    have HZ2 := Lib.hid hz2
    have hs12 : w1.heap.size < w2.heap.size := Nat.lt_of_lt_of_le hszo hb2.size
    clear hw2 ho2 hb2 z0 z1 z2 z3 f0 f1 f2 f3 hwo HZo HBo hszo
    obtain ⟨jb, hjb⟩ : ∃ jb, w1.heap.size = jb := ⟨_, rfl⟩
    rw [hjb] at hz2 HZ2 hs12 ⊢
    have HJB : Hid (ws.heap.size ≤ jb) := by rw [← hjb]; exact HB1.out.size
    have j0 := cell_blk hz2 0 rfl
    have j1 := cell_blk hz2 1 rfl
    have j2 := cell_blk hz2 2 rfl
    have j3 := cell_blk hz2 3 rfl
    clear hz2 hjb
    have hsz2 : w.heap.size + 1 < w2.heap.size := Nat.lt_of_lt_of_le hsz1 HB2.out.size
    have HZ3 := Lib.hid ((HB2.out.block _ hsz1).trans HZ1.out)
    go_wp2_with (go_at_call 56; refine (ktotals_any N _ S k _ (HBK.out.go HB2.out) HRD.out hk).mono ?_; rw [HLO.out, HHI.out]; rintro e w3 ⟨rfl, hb3⟩; have HZ4 := Lib.hid ((hb3.block _ hsz2).trans HZ3.out); have x0 := cell_blk HZ4.out 0 rfl; have x1 := cell_blk HZ4.out 1 rfl; have y0 := free_blk HZ4.out 0; have y1 := free_blk HZ4.out 1; have HB3 : Hid (Below ws.heap.size ws w3) := bel HB2.out hb3; clear hb3)
    obtain ⟨w4, hw4, hz4, ho4, hb4⟩ := put2o HZ4.out (.int .i64 lo) (.int .i64 hi)
    rw [hw4]
    have s0 := cell_blk hz4 0 rfl
    have s1 := cell_blk hz4 1 rfl
    exact bodyPost_ret (v := .tuple #[.agg #[.int .i64 lo, .int .i64 hi], .int .i64 0]) (by simp [results, Try.results15, go_sem, s0, s1]) rfl ⟨by rw [HSL.out, HSH.out], HB.out.trans ((HB3.out.mono HB.out.size).trans (hb4.mono (by omega)))⟩
  · have HSL : Hid (sp er (loT S a.toNat) = 0) := sp_no h0 _
    have HSH : Hid (sp er (hiT S a.toNat) = 0) := sp_no h0 _
    have hne : (er != 0) = true := by simpa using h0
    have HCN := Lib.hid (fun W (hW : Below ws.heap.size ws W) => enterPlate_no N _ S a er W (HBK.out.go hW) her h0)
    clear h0
    go_enter Try.func15, Try.ntmps15
    go_upto_region 2 with (go_at_call 55; refine (HCN.out _ HB0.out).mono ?_; rintro e w1 ⟨rfl, hb1⟩; have HB1 : Hid (Below ws.heap.size ws w1) := (bel HB0.out hb1); clear hb1; obtain ⟨wo, hwo, HBo, hszo, hblko⟩ := box1 w1 (.cells #[.int .i64 0, .int .i64 0, .int .i64 0, .slice none 0 0] 74); have HZo := Lib.hid hblko; have z0 := cell_blk hblko 0 rfl; have z1 := cell_blk hblko 1 rfl; have z2 := cell_blk hblko 2 rfl; have z3 := cell_blk hblko 3 rfl; have f0 := free_blk hblko 0; have f1 := free_blk hblko 1; have f2 := free_blk hblko 2; have f3 := free_blk hblko 3; clear hblko)
    obtain ⟨w2, hw2, hz2, ho2, hb2⟩ := put4o HZo.out (.int .i64 0) (.int .i64 0) (.int .i64 0) (.slice none 0 0)
    rw [hw2]
    have HB2 : Hid (Below ws.heap.size ws w2) := HB1.out.trans ((HBo.out.trans hb2).mono HB1.out.size)
    have HZ2 := Lib.hid hz2
    have hs12 : w1.heap.size < w2.heap.size := Nat.lt_of_lt_of_le hszo hb2.size
    clear hw2 ho2 hb2 z0 z1 z2 z3 f0 f1 f2 f3 hwo HZo HBo hszo
    obtain ⟨jb, hjb⟩ : ∃ jb, w1.heap.size = jb := ⟨_, rfl⟩
    rw [hjb] at hz2 HZ2 hs12 ⊢
    have HJB : Hid (ws.heap.size ≤ jb) := by rw [← hjb]; exact HB1.out.size
    have j0 := cell_blk hz2 0 rfl
    have j1 := cell_blk hz2 1 rfl
    have j2 := cell_blk hz2 2 rfl
    have j3 := cell_blk hz2 3 rfl
    clear hz2 hjb
    have HZ3 := Lib.hid ((HB2.out.block _ hsz1).trans HZ1.out)
    have x0 := cell_blk HZ3.out 0 rfl
    have x1 := cell_blk HZ3.out 1 rfl
    have y0 := free_blk HZ3.out 0
    have y1 := free_blk HZ3.out 1
    go_wp2_with fail
    obtain ⟨w4, hw4, hz4, ho4, hb4⟩ := put2o HZ3.out (.int .i64 0) (.int .i64 0)
    rw [hw4]
    have s0 := cell_blk hz4 0 rfl
    have s1 := cell_blk hz4 1 rfl
    exact bodyPost_ret (v := .tuple #[.agg #[.int .i64 0, .int .i64 0], .int .i64 er]) (by simp [results, Try.results15, go_sem, s0, s1]) rfl ⟨by rw [HSL.out, HSH.out], HB.out.trans ((HB2.out.mono HB.out.size).trans (hb4.mono (by omega)))⟩
set_option maxHeartbeats 6400000 in
set_option maxRecDepth 100000 in
theorem kPlace_any (N : Nat) (v : Value) (S : JB) (a er : Int) (w : World) (h : ShowAt N w v S) (her : errA (okS S) (inN a S.np) = er) :
    Calls Try.prog 16 #[v, .int .i64 a] w fun e w' => e = .returned (.tuple #[.agg #[.int .i64 (sp er (plLo S a.toNat)), .int .i64 (sp er (plHi S a.toNat))], .int .i64 er]) ∧ Below w.heap.size w w' := by
  obtain ⟨a1, c1, rfl⟩ := h.form
  obtain ⟨ws, hws, HB, hsz, hsz1, hblk, hblk1⟩ := box2 w (.cells #[.int .i64 S.J, .int .i64 S.D, .int .i64 S.Z, .slice a1 S.np c1] 24) (.cells #[.int .i64 0, .int .i64 0] 30)
  have q0 := cell_blk hblk 0 rfl
  have q1 := cell_blk hblk 1 rfl
  have q2 := cell_blk hblk 2 rfl
  have q3 := cell_blk hblk 3 rfl
  have HNZ : Hid (N ≤ w.heap.size) := h.1
  have HBK := Lib.hid (h.go HB.out)
  have HB0 : Hid (Below ws.heap.size ws ws) := Below.refl _ _
  have HNS : Hid (N ≤ ws.heap.size) := HBK.out.1
  have HZ1 := Lib.hid hblk1
  have hlen := h.len
  have HSQ : Hid (∀ W, Below ws.heap.size ws W → (W.cell? ⟨w.heap.size, 0, none⟩ = some (.int .i64 S.J) ∧ W.cell? ⟨w.heap.size, 1, none⟩ = some (.int .i64 S.D) ∧ W.cell? ⟨w.heap.size, 2, none⟩ = some (.int .i64 S.Z) ∧ W.cell? ⟨w.heap.size, 3, none⟩ = some (.slice a1 S.np c1))) := fun W hW => ⟨(hW.cell (p := ⟨w.heap.size, 0, none⟩) hsz).trans q0, (hW.cell (p := ⟨w.heap.size, 1, none⟩) hsz).trans q1, (hW.cell (p := ⟨w.heap.size, 2, none⟩) hsz).trans q2, (hW.cell (p := ⟨w.heap.size, 3, none⟩) hsz).trans q3⟩
  clear hblk hblk1 h
  by_cases h0 : er = 0
  · subst h0
    obtain ⟨hok, hin⟩ := errA_ok her
    obtain ⟨k, rfl, hk⟩ := inN_nat hin
    have HRD := Lib.hid (okS_good hok).rj
    obtain ⟨lo, hlo⟩ : ∃ lo : Int, ((plLo S k : Nat) : Int) = lo := ⟨_, rfl⟩
    obtain ⟨hi, hhi⟩ : ∃ hi : Int, ((plHi S k : Nat) : Int) = hi := ⟨_, rfl⟩
    have HLO := Lib.hid hlo
    have HHI := Lib.hid hhi
    have HSL : Hid (sp 0 (plLo S (k : Int).toNat) = lo) := by rw [Int.toNat_natCast]; unfold Hid; rw [sp_ok]; exact hlo
    have HSH : Hid (sp 0 (plHi S (k : Int).toNat) = hi) := by rw [Int.toNat_natCast]; unfold Hid; rw [sp_ok]; exact hhi
    clear hok hin hlo hhi
    go_enter Try.func16, Try.ntmps16
    go_upto_region 2 with (go_at_call 55; refine (enterPlate_ok N _ S k _ HBK.out her).mono ?_; rintro e w1 ⟨rfl, hb1⟩; have HB1 : Hid (Below ws.heap.size ws w1) := (bel HB0.out hb1); clear hb1; obtain ⟨wo, hwo, HBo, hszo, hblko⟩ := box1 w1 (.cells #[.int .i64 0, .int .i64 0, .int .i64 0, .slice none 0 0] 74); have HZo := Lib.hid hblko; have z0 := cell_blk hblko 0 rfl; have z1 := cell_blk hblko 1 rfl; have z2 := cell_blk hblko 2 rfl; have z3 := cell_blk hblko 3 rfl; have f0 := free_blk hblko 0; have f1 := free_blk hblko 1; have f2 := free_blk hblko 2; have f3 := free_blk hblko 3; clear hblko)
    obtain ⟨w2, hw2, hz2, ho2, hb2⟩ := put4o HZo.out (.int .i64 S.J) (.int .i64 S.D) (.int .i64 S.Z) (.slice a1 S.np c1)
    rw [hw2]
    have HB2 : Hid (Below ws.heap.size ws w2) := HB1.out.trans ((HBo.out.trans hb2).mono HB1.out.size)
    have HZ2 := Lib.hid hz2
    have hs12 : w1.heap.size < w2.heap.size := Nat.lt_of_lt_of_le hszo hb2.size
    clear hw2 ho2 hb2 z0 z1 z2 z3 f0 f1 f2 f3 hwo HZo HBo hszo
    obtain ⟨jb, hjb⟩ : ∃ jb, w1.heap.size = jb := ⟨_, rfl⟩
    rw [hjb] at hz2 HZ2 hs12 ⊢
    have HJB : Hid (ws.heap.size ≤ jb) := by rw [← hjb]; exact HB1.out.size
    have j0 := cell_blk hz2 0 rfl
    have j1 := cell_blk hz2 1 rfl
    have j2 := cell_blk hz2 2 rfl
    have j3 := cell_blk hz2 3 rfl
    clear hz2 hjb
    have hsz2 : w.heap.size + 1 < w2.heap.size := Nat.lt_of_lt_of_le hsz1 HB2.out.size
    have HZ3 := Lib.hid ((HB2.out.block _ hsz1).trans HZ1.out)
    go_wp2_with (go_at_call 57; refine (kplaces_any N _ S k _ (HBK.out.go HB2.out) HRD.out hk).mono ?_; rw [HLO.out, HHI.out]; rintro e w3 ⟨rfl, hb3⟩; have HZ4 := Lib.hid ((hb3.block _ hsz2).trans HZ3.out); have x0 := cell_blk HZ4.out 0 rfl; have x1 := cell_blk HZ4.out 1 rfl; have y0 := free_blk HZ4.out 0; have y1 := free_blk HZ4.out 1; have HB3 : Hid (Below ws.heap.size ws w3) := bel HB2.out hb3; clear hb3)
    obtain ⟨w4, hw4, hz4, ho4, hb4⟩ := put2o HZ4.out (.int .i64 lo) (.int .i64 hi)
    rw [hw4]
    have s0 := cell_blk hz4 0 rfl
    have s1 := cell_blk hz4 1 rfl
    exact bodyPost_ret (v := .tuple #[.agg #[.int .i64 lo, .int .i64 hi], .int .i64 0]) (by simp [results, Try.results16, go_sem, s0, s1]) rfl ⟨by rw [HSL.out, HSH.out], HB.out.trans ((HB3.out.mono HB.out.size).trans (hb4.mono (by omega)))⟩
  · have HSL : Hid (sp er (plLo S a.toNat) = 0) := sp_no h0 _
    have HSH : Hid (sp er (plHi S a.toNat) = 0) := sp_no h0 _
    have hne : (er != 0) = true := by simpa using h0
    have HCN := Lib.hid (fun W (hW : Below ws.heap.size ws W) => enterPlate_no N _ S a er W (HBK.out.go hW) her h0)
    clear h0
    go_enter Try.func16, Try.ntmps16
    go_upto_region 2 with (go_at_call 55; refine (HCN.out _ HB0.out).mono ?_; rintro e w1 ⟨rfl, hb1⟩; have HB1 : Hid (Below ws.heap.size ws w1) := (bel HB0.out hb1); clear hb1; obtain ⟨wo, hwo, HBo, hszo, hblko⟩ := box1 w1 (.cells #[.int .i64 0, .int .i64 0, .int .i64 0, .slice none 0 0] 74); have HZo := Lib.hid hblko; have z0 := cell_blk hblko 0 rfl; have z1 := cell_blk hblko 1 rfl; have z2 := cell_blk hblko 2 rfl; have z3 := cell_blk hblko 3 rfl; have f0 := free_blk hblko 0; have f1 := free_blk hblko 1; have f2 := free_blk hblko 2; have f3 := free_blk hblko 3; clear hblko)
    obtain ⟨w2, hw2, hz2, ho2, hb2⟩ := put4o HZo.out (.int .i64 0) (.int .i64 0) (.int .i64 0) (.slice none 0 0)
    rw [hw2]
    have HB2 : Hid (Below ws.heap.size ws w2) := HB1.out.trans ((HBo.out.trans hb2).mono HB1.out.size)
    have HZ2 := Lib.hid hz2
    have hs12 : w1.heap.size < w2.heap.size := Nat.lt_of_lt_of_le hszo hb2.size
    clear hw2 ho2 hb2 z0 z1 z2 z3 f0 f1 f2 f3 hwo HZo HBo hszo
    obtain ⟨jb, hjb⟩ : ∃ jb, w1.heap.size = jb := ⟨_, rfl⟩
    rw [hjb] at hz2 HZ2 hs12 ⊢
    have HJB : Hid (ws.heap.size ≤ jb) := by rw [← hjb]; exact HB1.out.size
    have j0 := cell_blk hz2 0 rfl
    have j1 := cell_blk hz2 1 rfl
    have j2 := cell_blk hz2 2 rfl
    have j3 := cell_blk hz2 3 rfl
    clear hz2 hjb
    have HZ3 := Lib.hid ((HB2.out.block _ hsz1).trans HZ1.out)
    have x0 := cell_blk HZ3.out 0 rfl
    have x1 := cell_blk HZ3.out 1 rfl
    have y0 := free_blk HZ3.out 0
    have y1 := free_blk HZ3.out 1
    go_wp2_with fail
    obtain ⟨w4, hw4, hz4, ho4, hb4⟩ := put2o HZ3.out (.int .i64 0) (.int .i64 0)
    rw [hw4]
    have s0 := cell_blk hz4 0 rfl
    have s1 := cell_blk hz4 1 rfl
    exact bodyPost_ret (v := .tuple #[.agg #[.int .i64 0, .int .i64 0], .int .i64 er]) (by simp [results, Try.results16, go_sem, s0, s1]) rfl ⟨by rw [HSL.out, HSH.out], HB.out.trans ((HB2.out.mono HB.out.size).trans (hb4.mono (by omega)))⟩

set_option maxHeartbeats 6400000 in
set_option maxRecDepth 100000 in
theorem kPrize_any (N : Nat) (v : Value) (S : JB) (a er : Int) (w : World) (h : ShowAt N w v S) (her : errA (okS S) (inN a S.np) = er) :
    Calls Try.prog 17 #[v, .int .i64 a] w fun e w' => e = .returned (.tuple #[.int .i64 (sp er (prz S a.toNat)), .int .i64 er]) ∧ Below w.heap.size w w' := by
  obtain ⟨a1, c1, rfl⟩ := h.form
  obtain ⟨ws, hws, HB, hsz, hblk⟩ := box1 w (.cells #[.int .i64 S.J, .int .i64 S.D, .int .i64 S.Z, .slice a1 S.np c1] 24)
  have q0 := cell_blk hblk 0 rfl
  have q1 := cell_blk hblk 1 rfl
  have q2 := cell_blk hblk 2 rfl
  have q3 := cell_blk hblk 3 rfl
  have HNZ : Hid (N ≤ w.heap.size) := h.1
  have HBK := Lib.hid (h.go HB.out)
  have HB0 : Hid (Below ws.heap.size ws ws) := Below.refl _ _
  have HNS : Hid (N ≤ ws.heap.size) := HBK.out.1
  have hlen := h.len
  clear hblk h
  by_cases h0 : er = 0
  · subst h0
    obtain ⟨hok, hin⟩ := errA_ok her
    obtain ⟨k, rfl, hk⟩ := inN_nat hin
    have HRD := Lib.hid (okS_good hok).rj
    obtain ⟨pz, hpz⟩ : ∃ lo : Int, prz S k = lo := ⟨_, rfl⟩
    have HPZ := Lib.hid hpz
    have HSP : Hid (sp 0 (prz S (k : Int).toNat) = pz) := by rw [Int.toNat_natCast]; unfold Hid; rw [sp_ok]; exact hpz
    clear hok hin hpz
    go_enter Try.func17, Try.ntmps17
    go_upto_region 2 with (go_at_call 55; refine (enterPlate_ok N _ S k _ HBK.out her).mono ?_; rintro e w1 ⟨rfl, hb1⟩; have HB1 : Hid (Below ws.heap.size ws w1) := (bel HB0.out hb1); clear hb1; obtain ⟨wo, hwo, HBo, hszo, hblko⟩ := box1 w1 (.cells #[.int .i64 0, .int .i64 0, .int .i64 0, .slice none 0 0] 74); have HZo := Lib.hid hblko; have z0 := cell_blk hblko 0 rfl; have z1 := cell_blk hblko 1 rfl; have z2 := cell_blk hblko 2 rfl; have z3 := cell_blk hblko 3 rfl; have f0 := free_blk hblko 0; have f1 := free_blk hblko 1; have f2 := free_blk hblko 2; have f3 := free_blk hblko 3; clear hblko)
    obtain ⟨w2, hw2, hz2, ho2, hb2⟩ := put4o HZo.out (.int .i64 S.J) (.int .i64 S.D) (.int .i64 S.Z) (.slice a1 S.np c1)
    rw [hw2]
    have HB2 : Hid (Below ws.heap.size ws w2) := HB1.out.trans ((HBo.out.trans hb2).mono HB1.out.size)
    have HZ2 := Lib.hid hz2
    have hs12 : w1.heap.size < w2.heap.size := Nat.lt_of_lt_of_le hszo hb2.size
    clear hw2 ho2 hb2 z0 z1 z2 z3 f0 f1 f2 f3 hwo HZo HBo hszo
    obtain ⟨jb, hjb⟩ : ∃ jb, w1.heap.size = jb := ⟨_, rfl⟩
    rw [hjb] at hz2 HZ2 hs12 ⊢
    have HJB : Hid (ws.heap.size ≤ jb) := by rw [← hjb]; exact HB1.out.size
    have j0 := cell_blk hz2 0 rfl
    have j1 := cell_blk hz2 1 rfl
    have j2 := cell_blk hz2 2 rfl
    have j3 := cell_blk hz2 3 rfl
    clear hz2 hjb
    go_wp2_with (go_at_call 58; refine (kprize_any N _ S k _ (HBK.out.go HB2.out) HRD.out hk).mono ?_; rw [HPZ.out]; rintro e w3 ⟨rfl, hb3⟩; have HB3 : Hid (Below ws.heap.size ws w3) := bel HB2.out hb3; clear hb3)
    go_ret2
    exact ⟨by rw [HSP.out]; rfl, fin HB.out HB3.out⟩
  · have HSP : Hid (sp er (prz S a.toNat) = 0) := sp_no h0 _
    have hne : (er != 0) = true := by simpa using h0
    have HCN := Lib.hid (fun W (hW : Below ws.heap.size ws W) => enterPlate_no N _ S a er W (HBK.out.go hW) her h0)
    clear h0
    go_enter Try.func17, Try.ntmps17
    go_upto_region 2 with (go_at_call 55; refine (HCN.out _ HB0.out).mono ?_; rintro e w1 ⟨rfl, hb1⟩; have HB1 : Hid (Below ws.heap.size ws w1) := (bel HB0.out hb1); clear hb1; obtain ⟨wo, hwo, HBo, hszo, hblko⟩ := box1 w1 (.cells #[.int .i64 0, .int .i64 0, .int .i64 0, .slice none 0 0] 74); have HZo := Lib.hid hblko; have z0 := cell_blk hblko 0 rfl; have z1 := cell_blk hblko 1 rfl; have z2 := cell_blk hblko 2 rfl; have z3 := cell_blk hblko 3 rfl; have f0 := free_blk hblko 0; have f1 := free_blk hblko 1; have f2 := free_blk hblko 2; have f3 := free_blk hblko 3; clear hblko)
    obtain ⟨w2, hw2, hz2, ho2, hb2⟩ := put4o HZo.out (.int .i64 0) (.int .i64 0) (.int .i64 0) (.slice none 0 0)
    rw [hw2]
    have HB2 : Hid (Below ws.heap.size ws w2) := HB1.out.trans ((HBo.out.trans hb2).mono HB1.out.size)
    have HZ2 := Lib.hid hz2
    have hs12 : w1.heap.size < w2.heap.size := Nat.lt_of_lt_of_le hszo hb2.size
    clear hw2 ho2 hb2 z0 z1 z2 z3 f0 f1 f2 f3 hwo HZo HBo hszo
    obtain ⟨jb, hjb⟩ : ∃ jb, w1.heap.size = jb := ⟨_, rfl⟩
    rw [hjb] at hz2 HZ2 hs12 ⊢
    have HJB : Hid (ws.heap.size ≤ jb) := by rw [← hjb]; exact HB1.out.size
    have j0 := cell_blk hz2 0 rfl
    have j1 := cell_blk hz2 1 rfl
    have j2 := cell_blk hz2 2 rfl
    have j3 := cell_blk hz2 3 rfl
    clear hz2 hjb
    go_wp2_with fail
    go_ret2
    exact ⟨by rw [HSP.out]; rfl, fin HB.out HB2.out⟩

set_option maxHeartbeats 6400000 in
set_option maxRecDepth 100000 in
theorem kBetter_any (N : Nat) (v : Value) (S : JB) (a b er : Int) (w : World) (h : ShowAt N w v S) (her : errA (okS S) (two S a b) = er) :
    Calls Try.prog 22 #[v, .int .i64 a, .int .i64 b] w fun e w' => e = .returned (.tuple #[.int .i64 (sp er (kno S a.toNat b.toNat)), .int .i64 er]) ∧ Below w.heap.size w w' := by
  obtain ⟨a1, c1, rfl⟩ := h.form
  obtain ⟨ws, hws, HB, hsz, hblk⟩ := box1 w (.cells #[.int .i64 S.J, .int .i64 S.D, .int .i64 S.Z, .slice a1 S.np c1] 24)
  have q0 := cell_blk hblk 0 rfl
  have q1 := cell_blk hblk 1 rfl
  have q2 := cell_blk hblk 2 rfl
  have q3 := cell_blk hblk 3 rfl
  have HNZ : Hid (N ≤ w.heap.size) := h.1
  have HBK := Lib.hid (h.go HB.out)
  have HB0 : Hid (Below ws.heap.size ws ws) := Below.refl _ _
  have HNS : Hid (N ≤ ws.heap.size) := HBK.out.1
  have hlen := h.len
  clear hblk h
  have HSQ : Hid (∀ W, Below ws.heap.size ws W → (W.cell? ⟨w.heap.size, 0, none⟩ = some (.int .i64 S.J) ∧ W.cell? ⟨w.heap.size, 1, none⟩ = some (.int .i64 S.D) ∧ W.cell? ⟨w.heap.size, 2, none⟩ = some (.int .i64 S.Z) ∧ W.cell? ⟨w.heap.size, 3, none⟩ = some (.slice a1 S.np c1))) := fun W hW => ⟨(hW.cell (p := ⟨w.heap.size, 0, none⟩) hsz).trans q0, (hW.cell (p := ⟨w.heap.size, 1, none⟩) hsz).trans q1, (hW.cell (p := ⟨w.heap.size, 2, none⟩) hsz).trans q2, (hW.cell (p := ⟨w.heap.size, 3, none⟩) hsz).trans q3⟩
  obtain ⟨ea, hea⟩ : ∃ x, errA (okS S) (inN a S.np) = x := ⟨_, rfl⟩
  by_cases h0 : ea = 0
  · subst h0
    obtain ⟨hok, hia⟩ := errA_ok hea
    cases hib : inN b S.np with
    | false =>
      have he : er = 1 := by
        rw [← her]
        have hd : two S a b = false := by unfold two; rw [hia, hib]; rfl
        rw [hd, hok]; rfl
      have HIB := Lib.hid hib
      have HSP : Hid (sp er (kno S a.toNat b.toNat) = 0) := sp_no (by omega) _
      subst he
      cases hab : (a == b) with
      | true =>
        clear hib
        go_enter Try.func22, Try.ntmps22
        go_upto_region 2 with (go_at_call 55; refine (enterPlate_ok N _ S a _ HBK.out hea).mono ?_; rintro e w1 ⟨rfl, hb1⟩; have HB1 : Hid (Below ws.heap.size ws w1) := (bel HB0.out hb1); clear hb1; obtain ⟨wo, hwo, HBo, hszo, hblko⟩ := box1 w1 (.cells #[.int .i64 0, .int .i64 0, .int .i64 0, .slice none 0 0] 74); have HZo := Lib.hid hblko; have z0 := cell_blk hblko 0 rfl; have z1 := cell_blk hblko 1 rfl; have z2 := cell_blk hblko 2 rfl; have z3 := cell_blk hblko 3 rfl; have f0 := free_blk hblko 0; have f1 := free_blk hblko 1; have f2 := free_blk hblko 2; have f3 := free_blk hblko 3; clear hblko)
        obtain ⟨w2, hw2, hz2, ho2, hb2⟩ := put4o HZo.out (.int .i64 S.J) (.int .i64 S.D) (.int .i64 S.Z) (.slice a1 S.np c1)
        rw [hw2]
        have HB2 : Hid (Below ws.heap.size ws w2) := HB1.out.trans ((HBo.out.trans hb2).mono HB1.out.size)
        have HZ2 := Lib.hid hz2
        have hs12 : w1.heap.size < w2.heap.size := Nat.lt_of_lt_of_le hszo hb2.size
        clear hw2 ho2 hb2 z0 z1 z2 z3 f0 f1 f2 f3 hwo HZo HBo hszo
        obtain ⟨jb, hjb⟩ : ∃ jb, w1.heap.size = jb := ⟨_, rfl⟩
        rw [hjb] at hz2 HZ2 hs12 ⊢
        have HJB : Hid (ws.heap.size ≤ jb) := by rw [← hjb]; exact HB1.out.size
        have j0 := cell_blk hz2 0 rfl
        have j1 := cell_blk hz2 1 rfl
        have j2 := cell_blk hz2 2 rfl
        have j3 := cell_blk hz2 3 rfl
        clear hz2 hjb
        obtain ⟨r0, r1, r2, r3⟩ := HSQ.out w2 HB2.out
        go_wp2_with fail
        go_ret2
        exact ⟨by rw [HSP.out]; rfl, fin HB.out HB2.out⟩
      | false =>
        clear hib
        go_enter Try.func22, Try.ntmps22
        go_upto_region 2 with (go_at_call 55; refine (enterPlate_ok N _ S a _ HBK.out hea).mono ?_; rintro e w1 ⟨rfl, hb1⟩; have HB1 : Hid (Below ws.heap.size ws w1) := (bel HB0.out hb1); clear hb1; obtain ⟨wo, hwo, HBo, hszo, hblko⟩ := box1 w1 (.cells #[.int .i64 0, .int .i64 0, .int .i64 0, .slice none 0 0] 74); have HZo := Lib.hid hblko; have z0 := cell_blk hblko 0 rfl; have z1 := cell_blk hblko 1 rfl; have z2 := cell_blk hblko 2 rfl; have z3 := cell_blk hblko 3 rfl; have f0 := free_blk hblko 0; have f1 := free_blk hblko 1; have f2 := free_blk hblko 2; have f3 := free_blk hblko 3; clear hblko)
        obtain ⟨w2, hw2, hz2, ho2, hb2⟩ := put4o HZo.out (.int .i64 S.J) (.int .i64 S.D) (.int .i64 S.Z) (.slice a1 S.np c1)
        rw [hw2]
        have HB2 : Hid (Below ws.heap.size ws w2) := HB1.out.trans ((HBo.out.trans hb2).mono HB1.out.size)
        have HZ2 := Lib.hid hz2
        have hs12 : w1.heap.size < w2.heap.size := Nat.lt_of_lt_of_le hszo hb2.size
        clear hw2 ho2 hb2 z0 z1 z2 z3 f0 f1 f2 f3 hwo HZo HBo hszo
        obtain ⟨jb, hjb⟩ : ∃ jb, w1.heap.size = jb := ⟨_, rfl⟩
        rw [hjb] at hz2 HZ2 hs12 ⊢
        have HJB : Hid (ws.heap.size ≤ jb) := by rw [← hjb]; exact HB1.out.size
        have j0 := cell_blk hz2 0 rfl
        have j1 := cell_blk hz2 1 rfl
        have j2 := cell_blk hz2 2 rfl
        have j3 := cell_blk hz2 3 rfl
        clear hz2 hjb
        obtain ⟨r0, r1, r2, r3⟩ := HSQ.out w2 HB2.out
        go_wp2_with (go_at_call 59; refine (kwithin_any _ _ _ _ HIB.out).mono ?_; rintro e w' ⟨rfl, hw'⟩; rw [hw']; clear hw')
        go_ret2
        exact ⟨by rw [HSP.out]; rfl, fin HB.out HB2.out⟩
    | true =>
      have HIB := Lib.hid hib
      cases hab : (a == b) with
      | true =>
        have he : er = 1 := by
          rw [← her]
          have hd : two S a b = false := by unfold two bne; rw [hab, hia, hib]; rfl
          rw [hd, hok]; rfl
        have HSP : Hid (sp er (kno S a.toNat b.toNat) = 0) := sp_no (by omega) _
        subst he
        clear hib
        go_enter Try.func22, Try.ntmps22
        go_upto_region 2 with (go_at_call 55; refine (enterPlate_ok N _ S a _ HBK.out hea).mono ?_; rintro e w1 ⟨rfl, hb1⟩; have HB1 : Hid (Below ws.heap.size ws w1) := (bel HB0.out hb1); clear hb1; obtain ⟨wo, hwo, HBo, hszo, hblko⟩ := box1 w1 (.cells #[.int .i64 0, .int .i64 0, .int .i64 0, .slice none 0 0] 74); have HZo := Lib.hid hblko; have z0 := cell_blk hblko 0 rfl; have z1 := cell_blk hblko 1 rfl; have z2 := cell_blk hblko 2 rfl; have z3 := cell_blk hblko 3 rfl; have f0 := free_blk hblko 0; have f1 := free_blk hblko 1; have f2 := free_blk hblko 2; have f3 := free_blk hblko 3; clear hblko)
        obtain ⟨w2, hw2, hz2, ho2, hb2⟩ := put4o HZo.out (.int .i64 S.J) (.int .i64 S.D) (.int .i64 S.Z) (.slice a1 S.np c1)
        rw [hw2]
        have HB2 : Hid (Below ws.heap.size ws w2) := HB1.out.trans ((HBo.out.trans hb2).mono HB1.out.size)
        have HZ2 := Lib.hid hz2
        have hs12 : w1.heap.size < w2.heap.size := Nat.lt_of_lt_of_le hszo hb2.size
        clear hw2 ho2 hb2 z0 z1 z2 z3 f0 f1 f2 f3 hwo HZo HBo hszo
        obtain ⟨jb, hjb⟩ : ∃ jb, w1.heap.size = jb := ⟨_, rfl⟩
        rw [hjb] at hz2 HZ2 hs12 ⊢
        have HJB : Hid (ws.heap.size ≤ jb) := by rw [← hjb]; exact HB1.out.size
        have j0 := cell_blk hz2 0 rfl
        have j1 := cell_blk hz2 1 rfl
        have j2 := cell_blk hz2 2 rfl
        have j3 := cell_blk hz2 3 rfl
        clear hz2 hjb
        obtain ⟨r0, r1, r2, r3⟩ := HSQ.out w2 HB2.out
        go_wp2_with fail
        go_ret2
        exact ⟨by rw [HSP.out]; rfl, fin HB.out HB2.out⟩
      | false =>
        have he : er = 0 := by
          rw [← her]
          have hd : two S a b = true := by unfold two bne; rw [hab, hia, hib]; rfl
          rw [hd, hok]; rfl
        subst he
        have HRD := Lib.hid (okS_good hok).rj
        obtain ⟨i, rfl, hi⟩ := inN_nat hia
        obtain ⟨j, rfl, hj⟩ := inN_nat hib
        obtain ⟨kn, hkn⟩ : ∃ x, kno S i j = x := ⟨_, rfl⟩
        have HKN := Lib.hid hkn
        have HSP : Hid (sp 0 (kno S (i : Int).toNat (j : Int).toNat) = kn) := by rw [Int.toNat_natCast, Int.toNat_natCast]; unfold Hid; rw [sp_ok]; exact hkn
        have habn : ¬ i = j := by intro e; subst e; simp at hab
        clear hib hkn hia hok
        go_enter Try.func22, Try.ntmps22
        go_upto_region 2 with (go_at_call 55; refine (enterPlate_ok N _ S i _ HBK.out hea).mono ?_; rintro e w1 ⟨rfl, hb1⟩; have HB1 : Hid (Below ws.heap.size ws w1) := (bel HB0.out hb1); clear hb1; obtain ⟨wo, hwo, HBo, hszo, hblko⟩ := box1 w1 (.cells #[.int .i64 0, .int .i64 0, .int .i64 0, .slice none 0 0] 74); have HZo := Lib.hid hblko; have z0 := cell_blk hblko 0 rfl; have z1 := cell_blk hblko 1 rfl; have z2 := cell_blk hblko 2 rfl; have z3 := cell_blk hblko 3 rfl; have f0 := free_blk hblko 0; have f1 := free_blk hblko 1; have f2 := free_blk hblko 2; have f3 := free_blk hblko 3; clear hblko)
        obtain ⟨w2, hw2, hz2, ho2, hb2⟩ := put4o HZo.out (.int .i64 S.J) (.int .i64 S.D) (.int .i64 S.Z) (.slice a1 S.np c1)
        rw [hw2]
        have HB2 : Hid (Below ws.heap.size ws w2) := HB1.out.trans ((HBo.out.trans hb2).mono HB1.out.size)
        have HZ2 := Lib.hid hz2
        have hs12 : w1.heap.size < w2.heap.size := Nat.lt_of_lt_of_le hszo hb2.size
        clear hw2 ho2 hb2 z0 z1 z2 z3 f0 f1 f2 f3 hwo HZo HBo hszo
        obtain ⟨jb, hjb⟩ : ∃ jb, w1.heap.size = jb := ⟨_, rfl⟩
        rw [hjb] at hz2 HZ2 hs12 ⊢
        have HJB : Hid (ws.heap.size ≤ jb) := by rw [← hjb]; exact HB1.out.size
        have j0 := cell_blk hz2 0 rfl
        have j1 := cell_blk hz2 1 rfl
        have j2 := cell_blk hz2 2 rfl
        have j3 := cell_blk hz2 3 rfl
        clear hz2 hjb
        obtain ⟨r0, r1, r2, r3⟩ := HSQ.out w2 HB2.out
        go_wp2_with (first
          | (go_at_call 59; refine (kwithin_any _ _ _ _ HIB.out).mono ?_; rintro e w' ⟨rfl, hw'⟩; rw [hw']; clear hw')
          | (go_at_call 60; refine (kbetter_any N _ S i j _ (HBK.out.go HB2.out) HRD.out hi hj).mono ?_; rw [HKN.out]; rintro e w3 ⟨rfl, hb3⟩; have HB3 : Hid (Below ws.heap.size ws w3) := bel HB2.out hb3; clear hb3))
        go_ret2
        exact ⟨by rw [HSP.out]; rfl, fin HB.out HB3.out⟩
  · have he : er = ea := by
      rw [← her, ← hea]
      unfold two
      cases hok : okS S with
      | false => rfl
      | true =>
        cases hia : inN a S.np with
        | false => rfl
        | true => rw [hok, hia] at hea; exact absurd hea.symm (by simpa [errA] using h0)
    have HSP : Hid (sp er (kno S a.toNat b.toNat) = 0) := sp_no (by rw [he]; exact h0) _
    subst he
    have hne : (er != 0) = true := by simpa using h0
    have HCN := Lib.hid (fun W (hW : Below ws.heap.size ws W) => enterPlate_no N _ S a er W (HBK.out.go hW) hea h0)
    clear h0
    go_enter Try.func22, Try.ntmps22
    go_upto_region 2 with (go_at_call 55; refine (HCN.out _ HB0.out).mono ?_; rintro e w1 ⟨rfl, hb1⟩; have HB1 : Hid (Below ws.heap.size ws w1) := (bel HB0.out hb1); clear hb1; obtain ⟨wo, hwo, HBo, hszo, hblko⟩ := box1 w1 (.cells #[.int .i64 0, .int .i64 0, .int .i64 0, .slice none 0 0] 74); have HZo := Lib.hid hblko; have z0 := cell_blk hblko 0 rfl; have z1 := cell_blk hblko 1 rfl; have z2 := cell_blk hblko 2 rfl; have z3 := cell_blk hblko 3 rfl; have f0 := free_blk hblko 0; have f1 := free_blk hblko 1; have f2 := free_blk hblko 2; have f3 := free_blk hblko 3; clear hblko)
    obtain ⟨w2, hw2, hz2, ho2, hb2⟩ := put4o HZo.out (.int .i64 0) (.int .i64 0) (.int .i64 0) (.slice none 0 0)
    rw [hw2]
    have HB2 : Hid (Below ws.heap.size ws w2) := HB1.out.trans ((HBo.out.trans hb2).mono HB1.out.size)
    have HZ2 := Lib.hid hz2
    have hs12 : w1.heap.size < w2.heap.size := Nat.lt_of_lt_of_le hszo hb2.size
    clear hw2 ho2 hb2 z0 z1 z2 z3 f0 f1 f2 f3 hwo HZo HBo hszo
    obtain ⟨jb, hjb⟩ : ∃ jb, w1.heap.size = jb := ⟨_, rfl⟩
    rw [hjb] at hz2 HZ2 hs12 ⊢
    have HJB : Hid (ws.heap.size ≤ jb) := by rw [← hjb]; exact HB1.out.size
    have j0 := cell_blk hz2 0 rfl
    have j1 := cell_blk hz2 1 rfl
    have j2 := cell_blk hz2 2 rfl
    have j3 := cell_blk hz2 3 rfl
    clear hz2 hjb
    go_wp2_with fail
    go_ret2
    exact ⟨by rw [HSP.out]; rfl, fin HB.out HB2.out⟩

end Go.Proofs.Ytffnlimgjnhmpaa
