/-
  JKG: what enters; Check, Total, Place, Prize, Better of package judges.
-/
import Derived.Test.YtffnlimgjnhmpaaJKA
import Derived.Test.YtffnlimgjnhmpaaJKF
import Derived.Test.YtffnlimgjnhmpaaJRefI
namespace Go.Proofs.Ytffnlimgjnhmpaa
open Go.RowKit

/-- what enters, or nothing -/
def entV (er : Int) (v : Value) : Value := if er = 0 then v else .agg #[.int .i64 0, .int .i64 0, .int .i64 0, .slice none 0 0]
theorem entV_ok (v : Value) : entV 0 v = v := rfl
theorem entV_no {er : Int} (h : er ≠ 0) (v : Value) : entV er v = .agg #[.int .i64 0, .int .i64 0, .int .i64 0, .slice none 0 0] := if_neg h

set_option maxHeartbeats 1600000 in
set_option maxRecDepth 100000 in
theorem enter_any (N : Nat) (v : Value) (S : JB) (w : World) (h : ShowAt N w v S) :
    Calls Try.prog 68 #[v] w fun e w' => e = .returned (.tuple #[entV (errS S) v, .int .i64 (errS S)]) ∧ Below w.heap.size w w' := by
  obtain ⟨a1, c1, rfl⟩ := h.form
  obtain ⟨ws, hws, HB, hsz, hsz1, hblk, hblk1⟩ := box2 w (.cells #[.int .i64 S.J, .int .i64 S.D, .int .i64 S.Z, .slice a1 S.np c1] 24) (.cells #[.int .i64 0, .int .i64 0, .int .i64 0, .slice none 0 0] 74)
  have q0 := cell_blk hblk 0 rfl
  have q1 := cell_blk hblk 1 rfl
  have q2 := cell_blk hblk 2 rfl
  have q3 := cell_blk hblk 3 rfl
  have HNZ : Hid (N ≤ w.heap.size) := h.1
  have HBK := Lib.hid (h.go HB.out)
  have HB0 : Hid (Below ws.heap.size ws ws) := Below.refl _ _
  have HNS : Hid (N ≤ ws.heap.size) := HBK.out.1
  have HZ1 := Lib.hid hblk1
  have hlen := h.len
  have HSQ : Hid (∀ W, Below ws.heap.size ws W → (W.cell? ⟨w.heap.size, 0, none⟩ = some (.int .i64 S.J) ∧ W.cell? ⟨w.heap.size, 1, none⟩ = some (.int .i64 S.D) ∧ W.cell? ⟨w.heap.size, 2, none⟩ = some (.int .i64 S.Z) ∧ W.cell? ⟨w.heap.size, 3, none⟩ = some (.slice a1 S.np c1))) := fun W hW => ⟨(hW.cell (p := ⟨w.heap.size, 0, none⟩) hsz).trans q0, (hW.cell (p := ⟨w.heap.size, 1, none⟩) hsz).trans q1, (hW.cell (p := ⟨w.heap.size, 2, none⟩) hsz).trans q2, (hW.cell (p := ⟨w.heap.size, 3, none⟩) hsz).trans q3⟩
  clear hblk hblk1 h
  cases hok : okS S with
  | true =>
    have HOK := Lib.hid hok
    have HE : Hid (errS S = 0) := by unfold Hid errS; rw [hok]; rfl
    clear hok
    rw [HE.out, entV_ok]
    go_enter Try.func68, Try.ntmps68
    go_wp2_with (go_at_call 90; refine (kvalidShow_any N _ S _ HBK.out).mono ?_; rw [HOK.out]; rintro e w1 ⟨rfl, hb1⟩; have HB1 : Hid (Below ws.heap.size ws w1) := hb1; clear hb1; obtain ⟨r0, r1, r2, r3⟩ := HSQ.out w1 HB1.out; have HZ := Lib.hid ((HB1.out.block _ hsz1).trans HZ1.out); have z0 := cell_blk HZ.out 0 rfl; have z1 := cell_blk HZ.out 1 rfl; have z2 := cell_blk HZ.out 2 rfl; have z3 := cell_blk HZ.out 3 rfl; have f0 := free_blk HZ.out 0; have f1 := free_blk HZ.out 1; have f2 := free_blk HZ.out 2; have f3 := free_blk HZ.out 3)
    obtain ⟨w2, hw2, hz2, ho2, hb2⟩ := put4o HZ.out (.int .i64 S.J) (.int .i64 S.D) (.int .i64 S.Z) (.slice a1 S.np c1)
    rw [hw2]
    have x0 := cell_blk hz2 0 rfl
    have x1 := cell_blk hz2 1 rfl
    have x2 := cell_blk hz2 2 rfl
    have x3 := cell_blk hz2 3 rfl
    exact bodyPost_ret (v := .tuple #[.agg #[.int .i64 S.J, .int .i64 S.D, .int .i64 S.Z, .slice a1 S.np c1], .int .i64 0]) (by simp [results, Try.results68, go_sem, x0, x1, x2, x3]) rfl ⟨rfl, HB.out.trans ((HB1.out.mono HB.out.size).trans (hb2.mono (by omega)))⟩
  | false =>
    have HOK := Lib.hid hok
    have HE : Hid (errS S = 80) := by unfold Hid errS; rw [hok]; rfl
    clear hok
    rw [HE.out, entV_no (by decide)]
    go_enter Try.func68, Try.ntmps68
    go_wp2_with (go_at_call 90; refine (kvalidShow_any N _ S _ HBK.out).mono ?_; rw [HOK.out]; rintro e w1 ⟨rfl, hb1⟩; have HB1 : Hid (Below ws.heap.size ws w1) := hb1; clear hb1; obtain ⟨r0, r1, r2, r3⟩ := HSQ.out w1 HB1.out; have HZ := Lib.hid ((HB1.out.block _ hsz1).trans HZ1.out); have z0 := cell_blk HZ.out 0 rfl; have z1 := cell_blk HZ.out 1 rfl; have z2 := cell_blk HZ.out 2 rfl; have z3 := cell_blk HZ.out 3 rfl; have f0 := free_blk HZ.out 0; have f1 := free_blk HZ.out 1; have f2 := free_blk HZ.out 2; have f3 := free_blk HZ.out 3)
    obtain ⟨w2, hw2, hz2, ho2, hb2⟩ := put4o HZ.out (.int .i64 0) (.int .i64 0) (.int .i64 0) (.slice none 0 0)
    rw [hw2]
    have x0 := cell_blk hz2 0 rfl
    have x1 := cell_blk hz2 1 rfl
    have x2 := cell_blk hz2 2 rfl
    have x3 := cell_blk hz2 3 rfl
    exact bodyPost_ret (v := .tuple #[.agg #[.int .i64 0, .int .i64 0, .int .i64 0, .slice none 0 0], .int .i64 80]) (by simp [results, Try.results68, go_sem, x0, x1, x2, x3]) rfl ⟨rfl, HB.out.trans ((HB1.out.mono HB.out.size).trans (hb2.mono (by omega)))⟩

theorem enter_ok (N : Nat) (v : Value) (S : JB) (w : World) (h : ShowAt N w v S) (hok : okS S = true) :
    Calls Try.prog 68 #[v] w fun e w' => e = .returned (.tuple #[v, .int .i64 0]) ∧ Below w.heap.size w w' :=
  (enter_any N v S w h).mono fun e w' ⟨he, hb⟩ => ⟨by rw [he, show errS S = 0 by unfold errS; rw [hok]; rfl]; rfl, hb⟩
theorem enter_no (N : Nat) (v : Value) (S : JB) (w : World) (h : ShowAt N w v S) (hok : okS S = false) :
    Calls Try.prog 68 #[v] w fun e w' => e = .returned (.tuple #[.agg #[.int .i64 0, .int .i64 0, .int .i64 0, .slice none 0 0], .int .i64 80]) ∧ Below w.heap.size w w' :=
  (enter_any N v S w h).mono fun e w' ⟨he, hb⟩ => ⟨by rw [he, show errS S = 80 by unfold errS; rw [hok]; rfl]; rfl, hb⟩

set_option maxHeartbeats 1600000 in
set_option maxRecDepth 100000 in
theorem kCheck_any (N : Nat) (v : Value) (S : JB) (w : World) (h : ShowAt N w v S) :
    Calls Try.prog 43 #[v] w fun e w' => e = .returned (.int .i64 (errS S)) ∧ Below w.heap.size w w' := by
  obtain ⟨a1, c1, rfl⟩ := h.form
  obtain ⟨ws, hws, HB, hsz, hblk⟩ := box1 w (.cells #[.int .i64 S.J, .int .i64 S.D, .int .i64 S.Z, .slice a1 S.np c1] 24)
  have q0 := cell_blk hblk 0 rfl
  have q1 := cell_blk hblk 1 rfl
  have q2 := cell_blk hblk 2 rfl
  have q3 := cell_blk hblk 3 rfl
  have HNZ : Hid (N ≤ w.heap.size) := h.1
  have HBK := Lib.hid (h.go HB.out)
  have HB0 : Hid (Below ws.heap.size ws ws) := Below.refl _ _
  have HNS : Hid (N ≤ ws.heap.size) := HBK.out.1
  have hlen := h.len
  clear hblk h
  cases hok : okS S with
  | true =>
    have HE : Hid (errS S = 0) := by unfold Hid errS; rw [hok]; rfl
    go_enter Try.func43, Try.ntmps43
    go_upto_region 2 with (go_at_call 68; refine (enter_ok N _ S _ HBK.out hok).mono ?_; rintro e w1 ⟨rfl, hb1⟩; have HB1 : Hid (Below ws.heap.size ws w1) := (bel HB0.out hb1); clear hb1; obtain ⟨wo, hwo, HBo, hszo, hblko⟩ := box1 w1 (.cells #[.int .i64 0, .int .i64 0, .int .i64 0, .slice none 0 0] 74); have HZo := Lib.hid hblko; have z0 := cell_blk hblko 0 rfl; have z1 := cell_blk hblko 1 rfl; have z2 := cell_blk hblko 2 rfl; have z3 := cell_blk hblko 3 rfl; have f0 := free_blk hblko 0; have f1 := free_blk hblko 1; have f2 := free_blk hblko 2; have f3 := free_blk hblko 3; clear hblko)
    obtain ⟨w2, hw2, hz2, ho2, hb2⟩ := put4o HZo.out (.int .i64 S.J) (.int .i64 S.D) (.int .i64 S.Z) (.slice a1 S.np c1)
    rw [hw2]
    have HB2 : Hid (Below ws.heap.size ws w2) := HB1.out.trans ((HBo.out.trans hb2).mono HB1.out.size)
    have HZ2 := Lib.hid hz2
    have hs12 : w1.heap.size < w2.heap.size := Nat.lt_of_lt_of_le hszo hb2.size
    clear hw2 ho2 hb2 z0 z1 z2 z3 f0 f1 f2 f3 hwo HZo HBo hszo
    obtain ⟨jb, hjb⟩ : ∃ jb, w1.heap.size = jb := ⟨_, rfl⟩
    rw [hjb] at hz2 HZ2 hs12 ⊢
    have HJB : Hid (ws.heap.size ≤ jb) := by rw [← hjb]; exact HB1.out.size
    have j0 := cell_blk hz2 0 rfl
    have j1 := cell_blk hz2 1 rfl
    have j2 := cell_blk hz2 2 rfl
    have j3 := cell_blk hz2 3 rfl
    clear hz2 hjb
    go_wp2_with fail
    go_ret
    exact ⟨ret_int HE.out.symm, fin HB.out HB2.out⟩
  | false =>
    have HE : Hid (errS S = 80) := by unfold Hid errS; rw [hok]; rfl
    go_enter Try.func43, Try.ntmps43
    go_upto_region 2 with (go_at_call 68; refine (enter_no N _ S _ HBK.out hok).mono ?_; rintro e w1 ⟨rfl, hb1⟩; have HB1 : Hid (Below ws.heap.size ws w1) := (bel HB0.out hb1); clear hb1; obtain ⟨wo, hwo, HBo, hszo, hblko⟩ := box1 w1 (.cells #[.int .i64 0, .int .i64 0, .int .i64 0, .slice none 0 0] 74); have HZo := Lib.hid hblko; have z0 := cell_blk hblko 0 rfl; have z1 := cell_blk hblko 1 rfl; have z2 := cell_blk hblko 2 rfl; have z3 := cell_blk hblko 3 rfl; have f0 := free_blk hblko 0; have f1 := free_blk hblko 1; have f2 := free_blk hblko 2; have f3 := free_blk hblko 3; clear hblko)
    obtain ⟨w2, hw2, hz2, ho2, hb2⟩ := put4o HZo.out (.int .i64 0) (.int .i64 0) (.int .i64 0) (.slice none 0 0)
    rw [hw2]
    have HB2 : Hid (Below ws.heap.size ws w2) := HB1.out.trans ((HBo.out.trans hb2).mono HB1.out.size)
    have HZ2 := Lib.hid hz2
    have hs12 : w1.heap.size < w2.heap.size := Nat.lt_of_lt_of_le hszo hb2.size
    clear hw2 ho2 hb2 z0 z1 z2 z3 f0 f1 f2 f3 hwo HZo HBo hszo
    obtain ⟨jb, hjb⟩ : ∃ jb, w1.heap.size = jb := ⟨_, rfl⟩
    rw [hjb] at hz2 HZ2 hs12 ⊢
    have HJB : Hid (ws.heap.size ≤ jb) := by rw [← hjb]; exact HB1.out.size
    have j0 := cell_blk hz2 0 rfl
    have j1 := cell_blk hz2 1 rfl
    have j2 := cell_blk hz2 2 rfl
    have j3 := cell_blk hz2 3 rfl
    clear hz2 hjb
    go_wp2_with fail
    go_ret
    exact ⟨ret_int HE.out.symm, fin HB.out HB2.out⟩

end Go.Proofs.Ytffnlimgjnhmpaa
