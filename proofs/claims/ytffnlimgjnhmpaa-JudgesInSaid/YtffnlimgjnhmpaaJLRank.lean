/-
  JLRank: JudgesRank returns true.
-/
import Derived.Test.YtffnlimgjnhmpaaJLTotal
import Derived.Test.YtffnlimgjnhmpaaJRefP
import Derived.Test.YtffnlimgjnhmpaaJKEn
namespace Go.Proofs.Ytffnlimgjnhmpaa
open Go.RowKit

theorem rnk_len (S : JB) (k : Nat) : (rnk S k).length ≤ k * S.np := by
  induction k with
  | zero => exact Nat.zero_le _
  | succ k ih =>
    show (rnk S k ++ sel (fun i => decide (plc S i = k + 1)) S.np).length ≤ _
    rw [List.length_append, Nat.succ_mul]
    have := sel_len (fun i => decide (plc S i = k + 1)) S.np
    omega
theorem errC_okS {S : JB} {is cl : Bool} (h : errC (okS S) is cl = 0) : okS S = true := by
  cases hx : okS S with
  | true => rfl
  | false => rw [hx] at h; simp [errC] at h
theorem spL_len {er : Int} {l : List Int} {n : Nat} (h : er = 0 → l.length ≤ n) : (spL er l).length ≤ n := by
  unfold spL
  split
  · exact h (by assumption)
  · exact Nat.zero_le _


set_option maxHeartbeats 6400000 in
set_option maxRecDepth 100000 in
theorem crank_any (N : Nat) (v : Value) (S : JB) (p j : Int) (w : World) (h : ShowAt N w v S) :
    Calls Try.prog 11 #[v, .agg #[.int .i64 p, .int .i64 j]] w fun e w' => e = .returned (.bool true) ∧ Below w.heap.size w w' := by
  obtain ⟨a1, c1, rfl⟩ := h.form
  obtain ⟨ws, hws, HB, hsz, hsz1, hblk, hblk1⟩ := box2 w (.cells #[.int .i64 S.J, .int .i64 S.D, .int .i64 S.Z, .slice a1 S.np c1] 24) (.cells #[.int .i64 p, .int .i64 j] 46)
  have q0 := cell_blk hblk 0 rfl
  have q1 := cell_blk hblk 1 rfl
  have q2 := cell_blk hblk 2 rfl
  have q3 := cell_blk hblk 3 rfl
  have p0 := cell_blk hblk1 0 rfl
  have p1 := cell_blk hblk1 1 rfl
  have HBK := Lib.hid (h.go HB.out)
  clear hblk hblk1 h
  cases hfar : farS S with
  | true =>
    have HFA := Lib.hid hfar
    clear hfar
    go_enter Try.func11, Try.ntmps11
    go_wp2_with (first
      | (go_at_call 42; refine (Far_any N _ S _ HBK.out).mono ?_; rw [HFA.out]; rintro e w1 ⟨rfl, hb1⟩; have HB1 : Hid (Below ws.heap.size ws w1) := hb1; clear hb1)
      | (go_at_call 13; refine (works_any _).mono ?_; rintro e w2 ⟨rfl, hb2⟩; have HB2 : Hid (Below ws.heap.size ws w2) := bel HB1.out hb2; clear hb2))
    go_ret
    exact ⟨rfl, fin HB.out HB2.out⟩
  | false =>
    have HFA := Lib.hid hfar
    have HNE := Lib.hid (farS_le hfar)
    have HNP := Lib.hid (farS_le hfar).1
    obtain ⟨ec, hec⟩ : ∃ x, errC (okS S) true (allIn S) = x := ⟨_, rfl⟩
    have HEC := Lib.hid hec
    obtain ⟨em, hem⟩ : ∃ x, errC (okS S) (isMk S p j) (allIn S) = x := ⟨_, rfl⟩
    have HEM := Lib.hid hem
    obtain ⟨tl, htl⟩ : ∃ x : Int, sp em (room S p.toNat j.toNat 21).1 = x := ⟨_, rfl⟩
    obtain ⟨th, hth⟩ : ∃ x : Int, sp em (room S p.toNat j.toNat 21).2 = x := ⟨_, rfl⟩
    have HV := Lib.hid (And.intro htl hth)
    obtain ⟨g1, hg1⟩ : ∃ x, spL ec (rnk S S.np) = x := ⟨_, rfl⟩
    obtain ⟨g2, hg2⟩ : ∃ x, spL ec (dec S) = x := ⟨_, rfl⟩
    have HG := Lib.hid (And.intro hg1 hg2)
    have HG1L : Hid (g1.length ≤ 1000) := by
      rw [← hg1]
      exact spL_len fun h0 => by
        have hG := okS_good (errC_okS (hec.trans h0))
        have h1 := rnk_len S S.np
        have h2 := hG.np
        have h3 : S.np * S.np ≤ 6 * 6 := Nat.mul_le_mul h2 h2
        omega
    have HG2L : Hid (g2.length ≤ 1000) := by
      rw [← hg2]
      exact spL_len fun h0 => by
        have hG := okS_good (errC_okS (hec.trans h0))
        have h1 := sel_len (fun k => !decide (getL (withoutJ S k) = getL S)) S.J.toNat
        have h2 := hG.J5
        show (sel _ _).length ≤ 1000
        omega
    have heq : ∀ w, (Op.equalIn 10000 30 (.agg #[.int .i64 tl, .int .i64 th]) (.agg #[.int .i64 tl, .int .i64 th])).run Try.prog w = .ok true w := fun w => by rw [eqSpan]; simp
    clear hfar hec hem htl hth hg1 hg2
    go_enter Try.func11, Try.ntmps11
    go_upto_region 4 with (first
      | (go_at_call 42; refine (Far_any N _ S _ HBK.out).mono ?_; rw [HFA.out]; rintro e w1 ⟨rfl, hb1⟩; have HB1 : Hid (Below ws.heap.size ws w1) := hb1; have r0 := (hb1.cell (p := ⟨w.heap.size, 0, none⟩) hsz).trans q0; have r1 := (hb1.cell (p := ⟨w.heap.size, 1, none⟩) hsz).trans q1; have r2 := (hb1.cell (p := ⟨w.heap.size, 2, none⟩) hsz).trans q2; have r3 := (hb1.cell (p := ⟨w.heap.size, 3, none⟩) hsz).trans q3; clear hb1)
      | (go_at_call 34; refine (copy_near N _ S _ (HBK.out.go HB1.out) HNE.out.1 HNE.out.2).mono ?_; rintro e w2 ⟨a2, c2, rfl, ho2, hb2⟩; have HO2 := Lib.hid ho2; have HB2 : Hid (Below ws.heap.size ws w2) := bel HB1.out hb2; clear hb2 ho2; obtain ⟨wo, hwo, HBo, hszo, hblko⟩ := box1 w2 (.cells #[.int .i64 0, .int .i64 0, .int .i64 0, .slice none 0 0] 24); have HZo := Lib.hid hblko; have z0 := cell_blk hblko 0 rfl; have z1 := cell_blk hblko 1 rfl; have z2 := cell_blk hblko 2 rfl; have z3 := cell_blk hblko 3 rfl; have f0 := free_blk hblko 0; have f1 := free_blk hblko 1; have f2 := free_blk hblko 2; have f3 := free_blk hblko 3; clear hblko))
    clear hws
    obtain ⟨w3, hw3, hz3, ho3, hb3⟩ := put4o HZo.out (.int .i64 S.J) (.int .i64 S.D) (.int .i64 S.Z) (.slice a2 S.np c2)
    rw [hw3]
    have hb23 : Below w2.heap.size w2 w3 := HBo.out.trans hb3
    have HB3 : Hid (Below ws.heap.size ws w3) := bel HB2.out hb23
    have HO3 := Lib.hid (HO2.out.go hb23)
    obtain ⟨O, hO⟩ : ∃ O, w2.heap.size = O := ⟨_, rfl⟩
    rw [hO] at hz3 HO3 ⊢
    have HZ3 := Lib.hid hz3
    have hol := heap_lt hz3
    have hwl : w.heap.size < w3.heap.size := Nat.lt_of_lt_of_le hsz HB3.out.size
    have hwl1 : w.heap.size + 1 < w3.heap.size := Nat.lt_of_lt_of_le hsz1 HB3.out.size
    have HS3 := Lib.hid (HBK.out.go HB3.out)
    have HQ : Hid (∀ W, Below w3.heap.size w3 W → (((W.cell? ⟨w.heap.size, 0, none⟩ = some (.int .i64 S.J) ∧ W.cell? ⟨w.heap.size, 1, none⟩ = some (.int .i64 S.D) ∧ W.cell? ⟨w.heap.size, 2, none⟩ = some (.int .i64 S.Z) ∧ W.cell? ⟨w.heap.size, 3, none⟩ = some (.slice a1 S.np c1))) ∧ (W.cell? ⟨O, 0, none⟩ = some (.int .i64 S.J) ∧ W.cell? ⟨O, 1, none⟩ = some (.int .i64 S.D) ∧ W.cell? ⟨O, 2, none⟩ = some (.int .i64 S.Z) ∧ W.cell? ⟨O, 3, none⟩ = some (.slice a2 S.np c2)) ∧ W.cell? ⟨w.heap.size + 1, 0, none⟩ = some (.int .i64 p) ∧ W.cell? ⟨w.heap.size + 1, 1, none⟩ = some (.int .i64 j))) := fun W hW => by
      have hz := (hW.block O hol).trans HZ3.out
      have h1 : ∀ i, W.cell? ⟨w.heap.size, i, none⟩ = ws.cell? ⟨w.heap.size, i, none⟩ := fun i => (hW.cell (p := ⟨w.heap.size, i, none⟩) hwl).trans (HB3.out.cell (p := ⟨w.heap.size, i, none⟩) hsz)
      have h2 : ∀ i, W.cell? ⟨w.heap.size + 1, i, none⟩ = ws.cell? ⟨w.heap.size + 1, i, none⟩ := fun i => (hW.cell (p := ⟨w.heap.size + 1, i, none⟩) hwl1).trans (HB3.out.cell (p := ⟨w.heap.size + 1, i, none⟩) hsz1)
      exact ⟨⟨(h1 0).trans q0, (h1 1).trans q1, (h1 2).trans q2, (h1 3).trans q3⟩, ⟨cell_blk hz 0 rfl, cell_blk hz 1 rfl, cell_blk hz 2 rfl, cell_blk hz 3 rfl⟩, (h2 0).trans p0, (h2 1).trans p1⟩
    clear hwo hszo z0 z1 z2 z3 f0 f1 f2 f3 hw3 hz3 ho3 hb3 HZo HBo hb23 hO HO2 HB2 HB1
    have HC0 : Hid (Below w3.heap.size w3 w3) := Below.refl _ _
    (try clear r0 r1 r2 r3 o0 o1 o2 o3 m0 m1)
    obtain ⟨⟨r0, r1, r2, r3⟩, ⟨o0, o1, o2, o3⟩, m0, m1⟩ := HQ.out w3 HC0.out
    go_upto_region 5 with (go_at_call 39; refine (kRank_any O _ S ec _ (HO3.out.go HC0.out) HEC.out).mono ?_; rw [HG.out.1]; rintro e w4 ⟨u1, rfl, hu1, hb4⟩; have HC4 : Hid (Below w3.heap.size w3 w4) := bel HC0.out hb4; have HU1 := Lib.hid hu1; clear hb4 hu1)
    (try clear r0 r1 r2 r3 o0 o1 o2 o3 m0 m1)
    obtain ⟨⟨r0, r1, r2, r3⟩, ⟨o0, o1, o2, o3⟩, m0, m1⟩ := HQ.out w4 HC4.out
    go_upto_region 6 with (go_at_call 51; refine (rRank_any N _ S ec _ (HS3.out.go HC4.out) HEC.out).mono ?_; rw [HG.out.1]; rintro e w5 ⟨u2, rfl, hu2, hb5⟩; have HC5 : Hid (Below w3.heap.size w3 w5) := bel HC4.out hb5; have HL1 := Lib.hid (HU1.out.mono hb5 hb5.size); have HL2 := Lib.hid (OwnI.li hu2 HG1L.out); clear hb5 hu2)
    (try clear r0 r1 r2 r3 o0 o1 o2 o3 m0 m1)
    obtain ⟨⟨r0, r1, r2, r3⟩, ⟨o0, o1, o2, o3⟩, m0, m1⟩ := HQ.out w5 HC5.out
    go_upto_region 7 with (go_at_call 38; refine (kRoom_any O _ S p j em _ (HO3.out.go HC5.out) HEM.out).mono ?_; rw [HV.out.1, HV.out.2]; rintro e w6 ⟨rfl, hb6⟩; have HC6 : Hid (Below w3.heap.size w3 w6) := bel HC5.out hb6; have HL1b := Lib.hid (HL1.out.mono hb6 hb6.size); have HL2b := Lib.hid (HL2.out.mono hb6 hb6.size); clear hb6; (obtain ⟨wo, hwo, HBo, hszo, hblko⟩ := box1 w6 (.cells #[.int .i64 0, .int .i64 0] 30); have HZo := Lib.hid hblko; have z0 := cell_blk hblko 0 rfl; have z1 := cell_blk hblko 1 rfl; have f0 := free_blk hblko 0; have f1 := free_blk hblko 1; clear hblko))
    obtain ⟨w7, hw7, hz7, ho7, hb7⟩ := put2o HZo.out (.int .i64 tl) (.int .i64 th)
    rw [hw7]
    have hb67 : Below w6.heap.size w6 w7 := HBo.out.trans hb7
    have HC7 : Hid (Below w3.heap.size w3 w7) := bel HC6.out hb67
    have HL1c := Lib.hid (HL1b.out.mono hb67 hb67.size)
    have HL2c := Lib.hid (HL2b.out.mono hb67 hb67.size)
    obtain ⟨P, hP⟩ : ∃ P, w6.heap.size = P := ⟨_, rfl⟩
    rw [hP] at hz7 ⊢
    have HP7 := Lib.hid hz7
    clear hwo hszo z0 z1 f0 f1 hw7 hz7 ho7 hb7 HZo HBo hb67 hP HL1 HL2 HL1b HL2b HU1
    (try clear r0 r1 r2 r3 o0 o1 o2 o3 m0 m1)
    obtain ⟨⟨r0, r1, r2, r3⟩, ⟨o0, o1, o2, o3⟩, m0, m1⟩ := HQ.out w7 HC7.out
    go_upto_region 8 with (go_at_call 52; refine (rRoom_any N _ S p j em _ (HS3.out.go HC7.out) HEM.out).mono ?_; rw [HV.out.1, HV.out.2]; rintro e w8 ⟨rfl, hb8⟩; have HC8 : Hid (Below w3.heap.size w3 w8) := bel HC7.out hb8; have HP8 := Lib.hid ((hb8.block _ (heap_lt HP7.out)).trans HP7.out); have HL1d := Lib.hid (HL1c.out.mono hb8 hb8.size); have HL2d := Lib.hid (HL2c.out.mono hb8 hb8.size); clear hb8; (obtain ⟨wo, hwo, HBo, hszo, hblko⟩ := box1 w8 (.cells #[.int .i64 0, .int .i64 0] 30); have HZo := Lib.hid hblko; have z0 := cell_blk hblko 0 rfl; have z1 := cell_blk hblko 1 rfl; have f0 := free_blk hblko 0; have f1 := free_blk hblko 1; clear hblko))
    obtain ⟨w9, hw9, hz9, ho9, hb9⟩ := put2o HZo.out (.int .i64 tl) (.int .i64 th)
    rw [hw9]
    have hb89 : Below w8.heap.size w8 w9 := HBo.out.trans hb9
    have HC9 : Hid (Below w3.heap.size w3 w9) := bel HC8.out hb89
    have HP9 := Lib.hid ((hb89.block _ (heap_lt HP8.out)).trans HP8.out)
    have HL1 := Lib.hid (HL1d.out.mono hb89 hb89.size)
    have HL2 := Lib.hid (HL2d.out.mono hb89 hb89.size)
    obtain ⟨R, hR⟩ : ∃ R, w8.heap.size = R := ⟨_, rfl⟩
    rw [hR] at hz9 ⊢
    have HR9 := Lib.hid hz9
    clear hwo hszo z0 z1 f0 f1 hw9 hz9 ho9 hb9 HZo HBo hb89 hR HL1d HL2d HL1c HL2c HP7 HP8
    (try clear r0 r1 r2 r3 o0 o1 o2 o3 m0 m1)
    obtain ⟨⟨r0, r1, r2, r3⟩, ⟨o0, o1, o2, o3⟩, m0, m1⟩ := HQ.out w9 HC9.out
    go_upto_region 9 with (go_at_call 32; refine (kDecide_any O _ S ec _ (HO3.out.go HC9.out) HEC.out).mono ?_; rw [HG.out.2]; rintro e wA ⟨u3, rfl, hu3, hbA⟩; have HCA : Hid (Below w3.heap.size w3 wA) := bel HC9.out hbA; have HPA := Lib.hid ((hbA.block _ (heap_lt HP9.out)).trans HP9.out); have HRA := Lib.hid ((hbA.block _ (heap_lt HR9.out)).trans HR9.out); have HL1b := Lib.hid (HL1.out.mono hbA hbA.size); have HL2b := Lib.hid (HL2.out.mono hbA hbA.size); have HU3 := Lib.hid hu3; clear hbA hu3)
    (try clear r0 r1 r2 r3 o0 o1 o2 o3 m0 m1)
    obtain ⟨⟨r0, r1, r2, r3⟩, ⟨o0, o1, o2, o3⟩, m0, m1⟩ := HQ.out wA HCA.out
    clear HL1 HL2
    go_upto_region 10 with (go_at_call 53; refine (rDecide_any N _ S ec _ (HS3.out.go HCA.out) HEC.out).mono ?_; rw [HG.out.2]; rintro e wB ⟨u4, rfl, hu4, hbB⟩; have HCB : Hid (Below w3.heap.size w3 wB) := bel HCA.out hbB; have HPB := Lib.hid ((hbB.block _ (heap_lt HPA.out)).trans HPA.out); have HRB := Lib.hid ((hbB.block _ (heap_lt HRA.out)).trans HRA.out); have HL1 := Lib.hid (HL1b.out.mono hbB hbB.size); have HL2 := Lib.hid (HL2b.out.mono hbB hbB.size); have HL3 := Lib.hid (HU3.out.mono hbB hbB.size); have HL4 := Lib.hid (OwnI.li hu4 HG2L.out); clear hbB hu4 HL1b HL2b HU3)
    clear HP9 HR9 HPA HRA r0 r1 r2 r3 o0 o1 o2 o3 m0 m1
    go_wp2_with (first
      | (go_at_call 40; have hx := HL1; clear HL1; refine (same_q wB.heap.size _ _ g1 _ hx.out HL2.out).mono ?_; rintro e wE ⟨rfl, q1, hq1⟩; have hbE : Below wB.heap.size wB wE := (by rw [hq1]; exact below_drewN (Below.refl _ _) _); have HCE : Hid (Below w3.heap.size w3 wE) := bel HCB.out hbE; have HL3e := Lib.hid (HL3.out.mono hbE hbE.size); have HL4e := Lib.hid (HL4.out.mono hbE hbE.size); have HPE := Lib.hid ((hbE.block _ (heap_lt HPB.out)).trans HPB.out); have HRE := Lib.hid ((hbE.block _ (heap_lt HRB.out)).trans HRB.out); clear hq1 hbE HL3 HL4 HL2 HPB HRB; have x0 := cell_blk HPE.out 0 rfl; have x1 := cell_blk HPE.out 1 rfl; have y0 := cell_blk HRE.out 0 rfl; have y1 := cell_blk HRE.out 1 rfl)
      | (go_at_call 40; have hx := HL3e; clear HL3e; refine (same_q wE.heap.size _ _ g2 _ hx.out HL4e.out).mono ?_; rintro e wF ⟨rfl, q2, hq2⟩; have hbF : Below wE.heap.size wE wF := (by rw [hq2]; exact below_drewN (Below.refl _ _) _); have HCF : Hid (Below w3.heap.size w3 wF) := bel HCE.out hbF; clear hq2 hbF x0 x1 y0 y1; obtain ⟨⟨r0, r1, r2, r3⟩, ⟨o0, o1, o2, o3⟩, m0, m1⟩ := HQ.out wF HCF.out)
      | (go_at_call 47; refine (same_any O N _ _ S _ (HO3.out.go HCF.out) (HS3.out.go HCF.out) HNE.out.1).mono ?_; rintro e wG ⟨rfl, hbG⟩; have HCG : Hid (Below w3.heap.size w3 wG) := bel HCF.out hbG; clear hbG)
      | (go_at_call 13; refine (works_any _).mono ?_; rintro e wH ⟨rfl, hbH⟩; have HCH : Hid (Below w3.heap.size w3 wH) := bel HCG.out hbH; clear hbH))
    go_ret
    exact ⟨rfl, fin HB.out (bel HB3.out (HCH.out))⟩

end Go.Proofs.Ytffnlimgjnhmpaa
