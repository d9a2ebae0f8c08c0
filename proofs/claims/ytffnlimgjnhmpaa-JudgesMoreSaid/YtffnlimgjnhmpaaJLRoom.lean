/-
  JLRoom: JudgesRoom returns true.
-/
import Derived.Test.YtffnlimgjnhmpaaJLRank
import Derived.Test.YtffnlimgjnhmpaaJReady
namespace Go.Proofs.Ytffnlimgjnhmpaa
open Go.RowKit

theorem rnk_fact {S : JB} (h : allIn S = true) : ∃ f : Nat → Nat, (∀ i, i < S.np → (rnk S S.np).getD i 0 = (f i : Int) ∧ f i < S.np) ∧ ∀ i k, k < i → i < S.np → f k ≠ f i ∧ bet (totI S) S.sz (f i) (f k) = false ∧ (bet (totI S) S.sz (f k) (f i) = false → f k < f i) := by
  have hl := rnk_full h
  refine ⟨fun i => ((rnk S S.np).getD i 0).toNat, fun i hi => ?_, fun i k hk hi => ?_⟩
  · obtain ⟨p, h1, h2⟩ := rnk_at (S := S) (i := i) (by omega)
    show (rnk S S.np).getD i 0 = (((rnk S S.np).getD i 0).toNat : Int) ∧ ((rnk S S.np).getD i 0).toNat < S.np
    rw [h1, Int.toNat_natCast]; exact ⟨rfl, h2⟩
  · obtain ⟨p, h1, h2⟩ := rnk_at (S := S) (i := i) (by omega)
    obtain ⟨r, h3, h4⟩ := rnk_at (S := S) (i := k) (by omega)
    have := rnk_ord h hk (by omega) h1 h3 h2 h4
    show ((rnk S S.np).getD k 0).toNat ≠ ((rnk S S.np).getD i 0).toNat ∧ bet (totI S) S.sz ((rnk S S.np).getD i 0).toNat ((rnk S S.np).getD k 0).toNat = false ∧ (bet (totI S) S.sz ((rnk S S.np).getD k 0).toNat ((rnk S S.np).getD i 0).toNat = false → ((rnk S S.np).getD k 0).toNat < ((rnk S S.np).getD i 0).toNat)
    rw [h1, h3, Int.toNat_natCast, Int.toNat_natCast]
    exact this


set_option maxHeartbeats 6400000 in
set_option maxRecDepth 100000 in
theorem croom_any (N : Nat) (v : Value) (S : JB) (p j pt : Int) (w : World) (h : ShowAt N w v S) :
    Calls Try.prog 8 #[v, .agg #[.int .i64 p, .int .i64 j], .int .i64 pt] w fun e w' => e = .returned (.bool true) ∧ Below w.heap.size w w' := by
  obtain ⟨a1, c1, rfl⟩ := h.form
  obtain ⟨ws, hws, HB, hsz, hsz1, hblk, hblk1⟩ := box2 w (.cells #[.int .i64 S.J, .int .i64 S.D, .int .i64 S.Z, .slice a1 S.np c1] 24) (.cells #[.int .i64 p, .int .i64 j] 46)
  have q0 := cell_blk hblk 0 rfl
  have q1 := cell_blk hblk 1 rfl
  have q2 := cell_blk hblk 2 rfl
  have q3 := cell_blk hblk 3 rfl
  have p0 := cell_blk hblk1 0 rfl
  have p1 := cell_blk hblk1 1 rfl
  have HBK := Lib.hid (h.go HB.out)
  have HNS : Hid (N ≤ ws.heap.size) := HBK.out.1
  have HSQ : Hid (∀ W, Below ws.heap.size ws W → ((W.cell? ⟨w.heap.size, 0, none⟩ = some (.int .i64 S.J) ∧ W.cell? ⟨w.heap.size, 1, none⟩ = some (.int .i64 S.D) ∧ W.cell? ⟨w.heap.size, 2, none⟩ = some (.int .i64 S.Z) ∧ W.cell? ⟨w.heap.size, 3, none⟩ = some (.slice a1 S.np c1)) ∧ W.cell? ⟨w.heap.size + 1, 0, none⟩ = some (.int .i64 p) ∧ W.cell? ⟨w.heap.size + 1, 1, none⟩ = some (.int .i64 j))) := fun W hW => ⟨⟨(hW.cell (p := ⟨w.heap.size, 0, none⟩) hsz).trans q0, (hW.cell (p := ⟨w.heap.size, 1, none⟩) hsz).trans q1, (hW.cell (p := ⟨w.heap.size, 2, none⟩) hsz).trans q2, (hW.cell (p := ⟨w.heap.size, 3, none⟩) hsz).trans q3⟩, (hW.cell (p := ⟨w.heap.size + 1, 0, none⟩) hsz1).trans p0, (hW.cell (p := ⟨w.heap.size + 1, 1, none⟩) hsz1).trans p1⟩
  clear hblk hblk1 h
  cases hre : (!farS S && okS S) with
  | false =>
    have HRE := Lib.hid hre
    clear hre
    go_enter Try.func8, Try.ntmps8
    go_wp2_with (first
      | (go_at_call 12; refine (ready_any N _ S _ HBK.out).mono ?_; rw [HRE.out]; rintro e w1 ⟨rfl, hb1⟩; have HB1 : Hid (Below ws.heap.size ws w1) := hb1; clear hb1 q0 q1 q2 q3 p0 p1; obtain ⟨⟨r0, r1, r2, r3⟩, m0, m1⟩ := HSQ.out w1 HB1.out)
      | (go_at_call 13; refine (works_any _).mono ?_; rintro e wz ⟨rfl, hbz⟩; have HBz : Hid (Below ws.heap.size ws wz) := bel HB1.out hbz; clear hbz))
    go_ret
    exact ⟨rfl, fin HB.out HBz.out⟩
  | true =>
  have HRE := Lib.hid hre
  obtain ⟨hfar, hok⟩ : farS S = false ∧ okS S = true := by simpa using hre
  have HG := Lib.hid (okS_good hok)
  have HJB : Hid (0 ≤ S.J ∧ S.J ≤ 1000) := ⟨by have := HG.out.J1; omega, by have := HG.out.J5; omega⟩
  cases hin : allIn S with
  | false =>
    have HIN := Lib.hid hin
    clear hre hin hfar hok
    go_enter Try.func8, Try.ntmps8
    go_wp2_with (first
      | (go_at_call 12; refine (ready_any N _ S _ HBK.out).mono ?_; rw [HRE.out]; rintro e w1 ⟨rfl, hb1⟩; have HB1 : Hid (Below ws.heap.size ws w1) := hb1; clear hb1 q0 q1 q2 q3 p0 p1; obtain ⟨⟨r0, r1, r2, r3⟩, m0, m1⟩ := HSQ.out w1 HB1.out)
      | (go_at_call 37; refine (allIn_any N _ S _ (HBK.out.go HB1.out)).mono ?_; rw [HIN.out]; rintro e w2 ⟨rfl, hb2⟩; have HB2 : Hid (Below ws.heap.size ws w2) := bel HB1.out hb2; clear hb2 r0 r1 r2 r3 m0 m1; obtain ⟨⟨r0, r1, r2, r3⟩, m0, m1⟩ := HSQ.out w2 HB2.out)
      | (go_at_call 13; refine (works_any _).mono ?_; rintro e wz ⟨rfl, hbz⟩; have HBz : Hid (Below ws.heap.size ws wz) := bel HB2.out hbz; clear hbz))
    go_ret
    exact ⟨rfl, fin HB.out HBz.out⟩
  | true =>
  have HIN := Lib.hid hin
  cases him : isMk S p j with
  | false =>
    have HIM := Lib.hid him
    clear hre hin hfar hok him
    go_enter Try.func8, Try.ntmps8
    go_wp2_with (first
      | (go_at_call 12; refine (ready_any N _ S _ HBK.out).mono ?_; rw [HRE.out]; rintro e w1 ⟨rfl, hb1⟩; have HB1 : Hid (Below ws.heap.size ws w1) := hb1; clear hb1 q0 q1 q2 q3 p0 p1; obtain ⟨⟨r0, r1, r2, r3⟩, m0, m1⟩ := HSQ.out w1 HB1.out)
      | (go_at_call 37; refine (allIn_any N _ S _ (HBK.out.go HB1.out)).mono ?_; rw [HIN.out]; rintro e w2 ⟨rfl, hb2⟩; have HB2 : Hid (Below ws.heap.size ws w2) := bel HB1.out hb2; clear hb2 r0 r1 r2 r3 m0 m1; obtain ⟨⟨r0, r1, r2, r3⟩, m0, m1⟩ := HSQ.out w2 HB2.out)
      | (go_at_call 24; refine (isMark_any N _ S p j _ (HBK.out.go HB2.out) HJB.out).mono ?_; rw [HIM.out]; rintro e w3 ⟨rfl, hb3⟩; have HB3 : Hid (Below ws.heap.size ws w3) := bel HB2.out hb3; clear hb3 r0 r1 r2 r3 m0 m1; obtain ⟨⟨r0, r1, r2, r3⟩, m0, m1⟩ := HSQ.out w3 HB3.out)
      | (go_at_call 13; refine (works_any _).mono ?_; rintro e wz ⟨rfl, hbz⟩; have HBz : Hid (Below ws.heap.size ws wz) := bel HB3.out hbz; clear hbz))
    go_ret
    exact ⟨rfl, fin HB.out HBz.out⟩
  | true =>
  have HIM := Lib.hid him
  cases hpt : (decide (0 ≤ pt) && decide (pt ≤ 20)) with
  | false =>
    have HPB := Lib.hid hpt
    clear hre hin hfar hok him hpt
    go_enter Try.func8, Try.ntmps8
    go_wp2_with (first
      | (go_at_call 12; refine (ready_any N _ S _ HBK.out).mono ?_; rw [HRE.out]; rintro e w1 ⟨rfl, hb1⟩; have HB1 : Hid (Below ws.heap.size ws w1) := hb1; clear hb1 q0 q1 q2 q3 p0 p1; obtain ⟨⟨r0, r1, r2, r3⟩, m0, m1⟩ := HSQ.out w1 HB1.out)
      | (go_at_call 37; refine (allIn_any N _ S _ (HBK.out.go HB1.out)).mono ?_; rw [HIN.out]; rintro e w2 ⟨rfl, hb2⟩; have HB2 : Hid (Below ws.heap.size ws w2) := bel HB1.out hb2; clear hb2 r0 r1 r2 r3 m0 m1; obtain ⟨⟨r0, r1, r2, r3⟩, m0, m1⟩ := HSQ.out w2 HB2.out)
      | (go_at_call 24; refine (isMark_any N _ S p j _ (HBK.out.go HB2.out) HJB.out).mono ?_; rw [HIM.out]; rintro e w3 ⟨rfl, hb3⟩; have HB3 : Hid (Below ws.heap.size ws w3) := bel HB2.out hb3; clear hb3 r0 r1 r2 r3 m0 m1; obtain ⟨⟨r0, r1, r2, r3⟩, m0, m1⟩ := HSQ.out w3 HB3.out)
      | (go_at_call 25; refine (isPoints_eq _ _ _ HPB.out).mono ?_; rintro e w' ⟨rfl, hw'⟩; rw [hw']; clear hw')
      | (go_at_call 13; refine (works_any _).mono ?_; rintro e wz ⟨rfl, hbz⟩; have HBz : Hid (Below ws.heap.size ws wz) := bel HB3.out hbz; clear hbz))
    go_ret
    exact ⟨rfl, fin HB.out HBz.out⟩
  | true =>
    have HPB := Lib.hid hpt
    have HEC : Hid (errC (okS S) true (allIn S) = 0) := by unfold Hid; rw [hok, hin]; rfl
    have HEM : Hid (errC (okS S) (isMk S p j) (allIn S) = 0) := by unfold Hid; rw [hok, hin, him]; rfl
    have HES : Hid (errS S = 0) := by unfold Hid errS; rw [hok]; rfl
    have hnp6 := HG.out.np
    have HRD : Hid (RdS S) := HG.out.rd
    have HRF := Lib.hid (rnk_fact hin)
    have HRL := Lib.hid (rnk_full hin)
    have HPL := Lib.hid (in_prL hin)
    have HSB : Hid ((prL S 1 S.np).length + (prL S 2 S.np).length = S.np) := by
      unfold Hid prL
      have e1 : sel (fun i => decide (prz S i = 1)) S.np = sel (gotP S) S.np := sel_congr fun i hi => by rw [in_prz hin hi]; cases gotP S i <;> rfl
      have e2 : sel (fun i => decide (prz S i = 2)) S.np = sel (fun i => !gotP S i) S.np := sel_congr fun i hi => by rw [in_prz hin hi]; cases gotP S i <;> rfl
      rw [e1, e2]
      exact sel_both _ _
    obtain ⟨q, k, hpq, hjk, hq, hk⟩ := isMk_nat HG.out him
    obtain ⟨x, hxp, hx20⟩ : ∃ x : Nat, pt = (x : Int) ∧ x ≤ 20 := by
      rw [Bool.and_eq_true, decide_eq_true_eq, decide_eq_true_eq] at hpt
      exact ⟨pt.toNat, by omega, by omega⟩
    subst hpq hjk hxp
    obtain ⟨hsm1, hsm2, hlo1, hhi1, hrm⟩ := room_is (S := S) hk 21
    have HRH := Lib.hid (room_holds (S := S) hk hx20)
    have hptk : 0 ≤ (S.pts q).getD k 0 ∧ (S.pts q).getD k 0 ≤ 20 := by
      have hm : (S.pts q).getD k 0 ∈ S.pts q := by rw [List.getD_eq_getElem?_getD, List.getElem?_eq_getElem hk]; exact List.getElem_mem hk
      have h1 := HG.out.pt q hq _ hm
      have h2 := allIn_iff.1 hin q hq _ hm
      omega
    have hbd := room_bd (S := S) (q := q) (k := k) hptk (Nat.le_refl 21)
    have HGM : Hid (GoodS (withP S q k (x : Int))) := withP_good HG.out q k (by omega)
    have HLM : Hid (∀ i, i < (withP S q k (x : Int)).np → ((withP S q k (x : Int)).pts i).length ≤ 1000) := fun i hi => by have := HGM.out.len i hi; have := HGM.out.J5; omega
    have HL40 : Hid (∀ i, i < S.np → (S.pts i).length ≤ 40) := fun i hi => by have := HG.out.len i hi; have := HG.out.J5; omega
    obtain ⟨lo, hlo⟩ : ∃ lo, (room S q k 21).1 = lo := ⟨_, rfl⟩
    obtain ⟨hi, hhi⟩ : ∃ hi, (room S q k 21).2 = hi := ⟨_, rfl⟩
    rw [hlo, hhi] at hbd HRH
    rw [hlo] at hlo1
    rw [hhi] at hhi1
    have HV : Hid (sp 0 (room S (q : Int).toNat (k : Int).toNat 21).1 = lo ∧ sp 0 (room S (q : Int).toNat (k : Int).toNat 21).2 = hi) := by
      unfold Hid; rw [Int.toNat_natCast, Int.toNat_natCast, sp_ok, sp_ok]; exact ⟨hlo, hhi⟩
    obtain ⟨bb, hbb⟩ : ∃ bb, decide (getL (withP S q k x) = getL S) = bb := ⟨_, rfl⟩
    have HBB := Lib.hid hbb
    rw [hbb] at HRH
    obtain ⟨A, C, hcap, _, hrows, hcells⟩ := HBK.out.plates.open
    obtain ⟨b, off, ha1, hbN, hrr⟩ := hcells (by omega)
    have d1 := (hrr q hq).2
    have hli := (hrows q hq).2
    obtain ⟨gr, or, hA, hgr, hrc⟩ := hli.cell (by omega)
    rw [hA] at d1
    obtain ⟨y, hy⟩ : ∃ y, (S.pts q).getD k 0 = y := ⟨_, rfl⟩
    have ck := hrc k hk
    rw [hy] at ck hptk hlo1 hhi1
    obtain ⟨n, hn⟩ : ∃ n, (S.pts q).length = n := ⟨_, rfl⟩
    have HLN := Lib.hid hn
    rw [hn] at d1 hk
    have hqi : (q : Int) < (S.np : Int) := by omega
    have hki : (k : Int) < (n : Int) := by omega
    have hbw : b < ws.heap.size := by have := HNS.out; omega
    have hgw : gr < ws.heap.size := by have := HNS.out; omega
    have HDC : Hid (∀ W, Below ws.heap.size ws W → W.cell? ⟨b, off + q * 2 + 1, none⟩ = some (.slice (some ⟨gr, or, none⟩) n (C q)) ∧ W.cell? ⟨gr, or + k, none⟩ = some (.int .i64 y)) := fun W hW => ⟨(hW.cell (p := ⟨b, off + q * 2 + 1, none⟩) hbw).trans d1, (hW.cell (p := ⟨gr, or + k, none⟩) hgw).trans ck⟩
    have HH1 : Hid ((decide (lo ≤ y) && decide (y ≤ hi)) = true) := by unfold Hid; rw [decide_eq_true hlo1, decide_eq_true hhi1]; rfl
    have hl0 : ¬ lo < 0 := by omega
    have hh20 : ¬ 20 < hi := by omega
    have hdl : decide (lo < 0) = false := decide_eq_false hl0
    have hdh : decide (20 < hi) = false := decide_eq_false hh20
    subst ha1
    clear hre hfar hok hin him hpt hsm1 hsm2 hlo1 hhi1 hrm hbd hlo hhi hbb hrows hcells hrr d1 hli hA hrc hy ck hn hptk
    go_enter Try.func8, Try.ntmps8
    go_upto_region 3 with (first
      | (go_at_call 12; refine (ready_any N _ S _ HBK.out).mono ?_; rw [HRE.out]; rintro e w1 ⟨rfl, hb1⟩; have HB1 : Hid (Below ws.heap.size ws w1) := hb1; clear hb1 q0 q1 q2 q3 p0 p1; obtain ⟨⟨r0, r1, r2, r3⟩, m0, m1⟩ := HSQ.out w1 HB1.out)
      | (go_at_call 37; refine (allIn_any N _ S _ (HBK.out.go HB1.out)).mono ?_; rw [HIN.out]; rintro e w2 ⟨rfl, hb2⟩; have HB2 : Hid (Below ws.heap.size ws w2) := bel HB1.out hb2; clear hb2 r0 r1 r2 r3 m0 m1; obtain ⟨⟨r0, r1, r2, r3⟩, m0, m1⟩ := HSQ.out w2 HB2.out)
      | (go_at_call 24; refine (isMark_any N _ S (q : Int) (k : Int) _ (HBK.out.go HB2.out) HJB.out).mono ?_; rw [HIM.out]; rintro e w3 ⟨rfl, hb3⟩; have HB3 : Hid (Below ws.heap.size ws w3) := bel HB2.out hb3; clear hb3 r0 r1 r2 r3 m0 m1; obtain ⟨⟨r0, r1, r2, r3⟩, m0, m1⟩ := HSQ.out w3 HB3.out)
      | (go_at_call 25; refine (isPoints_eq _ _ _ HPB.out).mono ?_; rintro e w' ⟨rfl, hw'⟩; rw [hw']; clear hw'))
    clear hws
    go_upto_region 4 with (go_at_call 38; refine (kRoom_any N _ S (q : Int) (k : Int) 0 _ (HBK.out.go HB3.out) HEM.out).mono ?_; rw [HV.out.1, HV.out.2]; rintro e w4 ⟨rfl, hb4⟩; have HB4 : Hid (Below ws.heap.size ws w4) := bel HB3.out hb4; clear hb4; (obtain ⟨wo, hwo, HBo, hszo, hblko⟩ := box1 w4 (.cells #[.int .i64 0, .int .i64 0] 30); have HZo := Lib.hid hblko; have z0 := cell_blk hblko 0 rfl; have z1 := cell_blk hblko 1 rfl; have f0 := free_blk hblko 0; have f1 := free_blk hblko 1; clear hblko))
    obtain ⟨w5, hw5, hz5, ho5, hb5⟩ := put2o HZo.out (.int .i64 lo) (.int .i64 hi)
    rw [hw5]
    have hb45 : Below w4.heap.size w4 w5 := HBo.out.trans hb5
    have HB5 : Hid (Below ws.heap.size ws w5) := bel HB4.out hb45
    obtain ⟨P, hP⟩ : ∃ P, w4.heap.size = P := ⟨_, rfl⟩
    rw [hP] at hz5 ⊢
    have HZ5 := Lib.hid hz5
    have hPs : Hid (P < w5.heap.size) := heap_lt hz5
    clear hwo hszo z0 z1 f0 f1 hw5 hz5 ho5 hb5 HZo HBo hb45 hP
    (try clear r0 r1 r2 r3 m0 m1)
    obtain ⟨⟨r0, r1, r2, r3⟩, m0, m1⟩ := HSQ.out w5 HB5.out
    go_upto_region 5 with (go_at_call 39; refine (kRank_any N _ S 0 _ (HBK.out.go HB5.out) HEC.out).mono ?_; rintro e w6 ⟨u1, rfl, hu1, hb6⟩; have HL1 : Hid (LI w6.heap.size w6 u1 (rnk S S.np)) := hu1; have HC6 : Hid (Below w5.heap.size w5 w6) := hb6; clear hb6 hu1)
    have HB6 : Hid (Below ws.heap.size ws w6) := bel HB5.out HC6.out
    have HZ6 := Lib.hid ((HC6.out.block P hPs.out).trans HZ5.out)
    have hP6 := heap_lt HZ6.out
    obtain ⟨L, hL⟩ : ∃ L, rnk S S.np = L := ⟨_, rfl⟩
    rw [hL] at HL1 HRL HRF
    obtain ⟨aL, cL, rfl⟩ : ∃ a c, u1 = .slice a S.np c := by
      obtain ⟨a, c, e, _⟩ := HL1.out
      rw [HRL.out] at e
      exact ⟨a, c, e⟩
    have HLC : Hid (∀ W, Below w6.heap.size w6 W → LI w6.heap.size W (.slice aL S.np cL) L) := fun W hW => HL1.out.go (Nat.le_refl _) hW
    have HSR : Hid (∀ W, Below w6.heap.size w6 W → ((((W.cell? ⟨w.heap.size, 0, none⟩ = some (.int .i64 S.J) ∧ W.cell? ⟨w.heap.size, 1, none⟩ = some (.int .i64 S.D) ∧ W.cell? ⟨w.heap.size, 2, none⟩ = some (.int .i64 S.Z) ∧ W.cell? ⟨w.heap.size, 3, none⟩ = some (.slice (some ⟨b, off, none⟩) S.np c1)) ∧ W.cell? ⟨w.heap.size + 1, 0, none⟩ = some (.int .i64 (q : Int)) ∧ W.cell? ⟨w.heap.size + 1, 1, none⟩ = some (.int .i64 (k : Int)))) ∧ (W.cell? ⟨b, off + q * 2 + 1, none⟩ = some (.slice (some ⟨gr, or, none⟩) n (C q)) ∧ W.cell? ⟨gr, or + k, none⟩ = some (.int .i64 y)) ∧ W.cell? ⟨P, 0, none⟩ = some (.int .i64 lo) ∧ W.cell? ⟨P, 1, none⟩ = some (.int .i64 hi))) := fun W hW => by
      have h1 := HSQ.out W (bel HB6.out hW)
      have h2 := HDC.out W (bel HB6.out hW)
      have h3 := (hW.block P hP6).trans HZ6.out
      exact ⟨h1, h2, cell_blk h3 0 rfl, cell_blk h3 1 rfl⟩
    have HD0 : Hid (Below w6.heap.size w6 w6) := Below.refl _ _
    clear hL r0 r1 r2 r3 m0 m1 HB1 HB2 HB3 HB4 HB5 HC6 HZ5 hPs HL1
    have hS0 := HSR.out w6 HD0.out
    refine wp_region_held_drew (S := fun W => ((((W.cell? ⟨w.heap.size, 0, none⟩ = some (.int .i64 S.J) ∧ W.cell? ⟨w.heap.size, 1, none⟩ = some (.int .i64 S.D) ∧ W.cell? ⟨w.heap.size, 2, none⟩ = some (.int .i64 S.Z) ∧ W.cell? ⟨w.heap.size, 3, none⟩ = some (.slice (some ⟨b, off, none⟩) S.np c1)) ∧ W.cell? ⟨w.heap.size + 1, 0, none⟩ = some (.int .i64 (q : Int)) ∧ W.cell? ⟨w.heap.size + 1, 1, none⟩ = some (.int .i64 (k : Int)))) ∧ (W.cell? ⟨b, off + q * 2 + 1, none⟩ = some (.slice (some ⟨gr, or, none⟩) n (C q)) ∧ W.cell? ⟨gr, or + k, none⟩ = some (.int .i64 y)) ∧ W.cell? ⟨P, 0, none⟩ = some (.int .i64 lo) ∧ W.cell? ⟨P, 1, none⟩ = some (.int .i64 hi))) (by kernel_rfl) hS0 (fun hHeld => ?_)
    (refine wpAnyH_take (i := 0) (v := ?_) rfl (by kernel_rfl) (by kernel_rfl) (by kernel_rfl) (fun _ _ _ h => h) (Or.inl ⟨by rfl, ?_⟩) (by assumption) ?_; rotate_left; (focus (intro w hSw; (try dsimp only at hSw); go_simp; (try with_reducible rfl))); (try simp only [List.getElem_toArray, List.getElem_cons_zero, List.getElem_cons_succ, Act.put, List.setIfInBounds_toArray, List.set_cons_zero, List.set_cons_succ])); (refine wpAnyH_take (i := 1) (v := ?_) rfl (by kernel_rfl) (by kernel_rfl) (by kernel_rfl) (fun _ _ _ h => h) (Or.inl ⟨by rfl, ?_⟩) (by assumption) ?_; rotate_left; (focus (intro w hSw; (try dsimp only at hSw); go_simp; (try with_reducible rfl))); (try simp only [List.getElem_toArray, List.getElem_cons_zero, List.getElem_cons_succ, Act.put, List.setIfInBounds_toArray, List.set_cons_zero, List.set_cons_succ])); (refine wpAnyH_take (i := 2) (v := ?_) rfl (by kernel_rfl) (by kernel_rfl) (by kernel_rfl) (fun _ _ _ h => h) (Or.inl ⟨by rfl, ?_⟩) (by assumption) ?_; rotate_left; (focus (intro w hSw; (try dsimp only at hSw); go_simp; (try with_reducible rfl))); (try simp only [List.getElem_toArray, List.getElem_cons_zero, List.getElem_cons_succ, Act.put, List.setIfInBounds_toArray, List.set_cons_zero, List.set_cons_succ])); (refine wpAnyH_take (i := 3) (v := ?_) rfl (by kernel_rfl) (by kernel_rfl) (by kernel_rfl) (fun _ _ _ h => h) (Or.inl ⟨by rfl, ?_⟩) (by assumption) ?_; rotate_left; (focus (intro w hSw; (try dsimp only at hSw); go_simp; (try with_reducible rfl))); (try simp only [List.getElem_toArray, List.getElem_cons_zero, List.getElem_cons_succ, Act.put, List.setIfInBounds_toArray, List.set_cons_zero, List.set_cons_succ])); (refine wpAnyH_take (i := 4) (v := ?_) rfl (by kernel_rfl) (by kernel_rfl) (by kernel_rfl) (fun _ _ _ h => h) (Or.inl ⟨by rfl, ?_⟩) (by assumption) ?_; rotate_left; (focus (intro w hSw; (try dsimp only at hSw); go_simp; (try with_reducible rfl))); (try simp only [List.getElem_toArray, List.getElem_cons_zero, List.getElem_cons_succ, Act.put, List.setIfInBounds_toArray, List.set_cons_zero, List.set_cons_succ])); (refine wpAnyH_take (i := 5) (v := ?_) rfl (by kernel_rfl) (by kernel_rfl) (by kernel_rfl) (fun _ _ _ h => h) (Or.inl ⟨by rfl, ?_⟩) (by assumption) ?_; rotate_left; (focus (intro w hSw; (try dsimp only at hSw); go_simp; (try with_reducible rfl))); (try simp only [List.getElem_toArray, List.getElem_cons_zero, List.getElem_cons_succ, Act.put, List.setIfInBounds_toArray, List.set_cons_zero, List.set_cons_succ])); (refine wpAnyH_take (i := 6) (v := ?_) rfl (by kernel_rfl) (by kernel_rfl) (by kernel_rfl) (fun _ _ _ h => h) (Or.inl ⟨by rfl, ?_⟩) (by assumption) ?_; rotate_left; (focus (intro w hSw; (try dsimp only at hSw); go_simp; (try with_reducible rfl))); (try simp only [List.getElem_toArray, List.getElem_cons_zero, List.getElem_cons_succ, Act.put, List.setIfInBounds_toArray, List.set_cons_zero, List.set_cons_succ])); (refine wpAnyH_take (i := 7) (v := ?_) rfl (by kernel_rfl) (by kernel_rfl) (by kernel_rfl) (fun _ _ _ h => h) (Or.inl ⟨by rfl, ?_⟩) (by assumption) ?_; rotate_left; (focus (intro w hSw; (try dsimp only at hSw); go_simp; (try with_reducible rfl))); (try simp only [List.getElem_toArray, List.getElem_cons_zero, List.getElem_cons_succ, Act.put, List.setIfInBounds_toArray, List.set_cons_zero, List.set_cons_succ])); (refine wpAnyH_take (i := 8) (v := ?_) rfl (by kernel_rfl) (by kernel_rfl) (by kernel_rfl) (fun _ _ _ h => h) (Or.inl ⟨by rfl, ?_⟩) (by assumption) ?_; rotate_left; (focus (intro w hSw; (try dsimp only at hSw); go_simp; (try with_reducible rfl))); (try simp only [List.getElem_toArray, List.getElem_cons_zero, List.getElem_cons_succ, Act.put, List.setIfInBounds_toArray, List.set_cons_zero, List.set_cons_succ])); (refine wpAnyH_take (i := 9) (v := ?_) rfl (by kernel_rfl) (by kernel_rfl) (by kernel_rfl) (fun _ _ _ h => h) (Or.inl ⟨by rfl, ?_⟩) (by assumption) ?_; rotate_left; (focus (intro w hSw; (try dsimp only at hSw); go_simp; (try with_reducible rfl))); (try simp only [List.getElem_toArray, List.getElem_cons_zero, List.getElem_cons_succ, Act.put, List.setIfInBounds_toArray, List.set_cons_zero, List.set_cons_succ])); (refine wpAnyH_take (i := 10) (v := ?_) rfl (by kernel_rfl) (by kernel_rfl) (by kernel_rfl) (fun _ _ _ h => h) (Or.inl ⟨by rfl, ?_⟩) (by assumption) ?_; rotate_left; (focus (intro w hSw; (try dsimp only at hSw); go_simp; (try with_reducible rfl))); (try simp only [List.getElem_toArray, List.getElem_cons_zero, List.getElem_cons_succ, Act.put, List.setIfInBounds_toArray, List.set_cons_zero, List.set_cons_succ])); (refine wpAnyH_take (i := 11) (v := ?_) rfl (by kernel_rfl) (by kernel_rfl) (by kernel_rfl) (fun _ _ _ h => h) (Or.inl ⟨by rfl, ?_⟩) (by assumption) ?_; rotate_left; (focus (intro w hSw; (try dsimp only at hSw); go_simp; (try with_reducible rfl))); (try simp only [List.getElem_toArray, List.getElem_cons_zero, List.getElem_cons_succ, Act.put, List.setIfInBounds_toArray, List.set_cons_zero, List.set_cons_succ])); (refine wpAnyH_take (i := 12) (v := ?_) rfl (by kernel_rfl) (by kernel_rfl) (by kernel_rfl) (fun _ _ _ h => h) (Or.inl ⟨by rfl, ?_⟩) (by assumption) ?_; rotate_left; (focus (intro w hSw; (try dsimp only at hSw); go_simp; (try with_reducible rfl))); (try simp only [List.getElem_toArray, List.getElem_cons_zero, List.getElem_cons_succ, Act.put, List.setIfInBounds_toArray, List.set_cons_zero, List.set_cons_succ])); (refine wpAnyH_take (i := 13) (v := ?_) rfl (by kernel_rfl) (by kernel_rfl) (by kernel_rfl) (fun _ _ _ h => h) (Or.inl ⟨by rfl, ?_⟩) (by assumption) ?_; rotate_left; (focus (intro w hSw; (try dsimp only at hSw); go_simp; (try with_reducible rfl))); (try simp only [List.getElem_toArray, List.getElem_cons_zero, List.getElem_cons_succ, Act.put, List.setIfInBounds_toArray, List.set_cons_zero, List.set_cons_succ])); (refine wpAnyH_take (i := 14) (v := ?_) rfl (by kernel_rfl) (by kernel_rfl) (by kernel_rfl) (fun _ _ _ h => h) (Or.inl ⟨by rfl, ?_⟩) (by assumption) ?_; rotate_left; (focus (intro w hSw; (try dsimp only at hSw); go_simp; (try with_reducible rfl))); (try simp only [List.getElem_toArray, List.getElem_cons_zero, List.getElem_cons_succ, Act.put, List.setIfInBounds_toArray, List.set_cons_zero, List.set_cons_succ])); (refine wpAnyH_take (i := 15) (v := ?_) rfl (by kernel_rfl) (by kernel_rfl) (by kernel_rfl) (fun _ _ _ h => h) (Or.inl ⟨by rfl, ?_⟩) (by assumption) ?_; rotate_left; (focus (intro w hSw; (try dsimp only at hSw); go_simp; (try with_reducible rfl))); (try simp only [List.getElem_toArray, List.getElem_cons_zero, List.getElem_cons_succ, Act.put, List.setIfInBounds_toArray, List.set_cons_zero, List.set_cons_succ])); (refine wpAnyH_take (i := 16) (v := ?_) rfl (by kernel_rfl) (by kernel_rfl) (by kernel_rfl) (fun _ _ _ h => h) (Or.inl ⟨by rfl, ?_⟩) (by assumption) ?_; rotate_left; (focus (intro w hSw; (try dsimp only at hSw); go_simp; (try with_reducible rfl))); (try simp only [List.getElem_toArray, List.getElem_cons_zero, List.getElem_cons_succ, Act.put, List.setIfInBounds_toArray, List.set_cons_zero, List.set_cons_succ])); (refine wpAnyH_take (i := 17) (v := ?_) rfl (by kernel_rfl) (by kernel_rfl) (by kernel_rfl) (fun _ _ _ h => h) (Or.inl ⟨by rfl, ?_⟩) (by assumption) ?_; rotate_left; (focus (intro w hSw; (try dsimp only at hSw); go_simp; (try with_reducible rfl))); (try simp only [List.getElem_toArray, List.getElem_cons_zero, List.getElem_cons_succ, Act.put, List.setIfInBounds_toArray, List.set_cons_zero, List.set_cons_succ])); (refine wpAnyH_take (i := 18) (v := ?_) rfl (by kernel_rfl) (by kernel_rfl) (by kernel_rfl) (fun _ _ _ h => h) (Or.inl ⟨by rfl, ?_⟩) (by assumption) ?_; rotate_left; (focus (intro w hSw; (try dsimp only at hSw); go_simp; (try with_reducible rfl))); (try simp only [List.getElem_toArray, List.getElem_cons_zero, List.getElem_cons_succ, Act.put, List.setIfInBounds_toArray, List.set_cons_zero, List.set_cons_succ]))
    refine wpAnyH_ready (rs := [19]) (by kernel_rfl) (by simp) ?_; refine AllReadyH.cons rfl (fun K hK => ?_) AllReadyH.nil; go_simp
    go_at_call 19
    refine (holds_any _ _ _ _).mono ?_
    rw [HH1.out]
    rintro e w7 ⟨rfl, hb7⟩
    have HD7 : Hid (Below w6.heap.size w6 w7) := (Below.refl _ _).drew.trans hb7
    have hS7 := HSR.out w7 HD7.out
    clear hb7 hS0
    refine hK.out _ _ hS7 (fun hHeld => ?_); clear hK K; (try simp only [List.getElem_toArray, List.getElem_cons_zero, List.getElem_cons_succ, Act.put, List.setIfInBounds_toArray, List.set_cons_zero, List.set_cons_succ])
    (refine wpAnyH_take (i := 20) (v := ?_) rfl (by kernel_rfl) (by kernel_rfl) (by kernel_rfl) (fun _ _ _ h => h) (Or.inl ⟨by rfl, ?_⟩) (by assumption) ?_; rotate_left; (focus (intro w hSw; (try dsimp only at hSw); go_simp; (try with_reducible rfl))); (try simp only [List.getElem_toArray, List.getElem_cons_zero, List.getElem_cons_succ, Act.put, List.setIfInBounds_toArray, List.set_cons_zero, List.set_cons_succ])); (refine wpAnyH_take (i := 21) (v := ?_) rfl (by kernel_rfl) (by kernel_rfl) (by kernel_rfl) (fun _ _ _ h => h) (Or.inl ⟨by rfl, ?_⟩) (by assumption) ?_; rotate_left; (focus (intro w hSw; (try dsimp only at hSw); go_simp; (try with_reducible rfl))); (try simp only [List.getElem_toArray, List.getElem_cons_zero, List.getElem_cons_succ, Act.put, List.setIfInBounds_toArray, List.set_cons_zero, List.set_cons_succ])); (refine wpAnyH_take (i := 22) (v := ?_) rfl (by kernel_rfl) (by kernel_rfl) (by kernel_rfl) (fun _ _ _ h => h) (Or.inl ⟨by rfl, ?_⟩) (by assumption) ?_; rotate_left; (focus (intro w hSw; (try dsimp only at hSw); go_simp; (try with_reducible rfl))); (try simp only [List.getElem_toArray, List.getElem_cons_zero, List.getElem_cons_succ, Act.put, List.setIfInBounds_toArray, List.set_cons_zero, List.set_cons_succ])); (refine wpAnyH_take (i := 23) (v := ?_) rfl (by kernel_rfl) (by kernel_rfl) (by kernel_rfl) (fun _ _ _ h => h) (Or.inl ⟨by rfl, ?_⟩) (by assumption) ?_; rotate_left; (focus (intro w hSw; (try dsimp only at hSw); go_simp; (try with_reducible rfl))); (try simp only [List.getElem_toArray, List.getElem_cons_zero, List.getElem_cons_succ, Act.put, List.setIfInBounds_toArray, List.set_cons_zero, List.set_cons_succ])); (refine wpAnyH_take (i := 24) (v := ?_) rfl (by kernel_rfl) (by kernel_rfl) (by kernel_rfl) (fun _ _ _ h => h) (Or.inl ⟨by rfl, ?_⟩) (by assumption) ?_; rotate_left; (focus (intro w hSw; (try dsimp only at hSw); go_simp; (try with_reducible rfl))); (try simp only [List.getElem_toArray, List.getElem_cons_zero, List.getElem_cons_succ, Act.put, List.setIfInBounds_toArray, List.set_cons_zero, List.set_cons_succ])); (refine wpAnyH_take (i := 25) (v := ?_) rfl (by kernel_rfl) (by kernel_rfl) (by kernel_rfl) (fun _ _ _ h => h) (Or.inl ⟨by rfl, ?_⟩) (by assumption) ?_; rotate_left; (focus (intro w hSw; (try dsimp only at hSw); go_simp; (try with_reducible rfl))); (try simp only [List.getElem_toArray, List.getElem_cons_zero, List.getElem_cons_succ, Act.put, List.setIfInBounds_toArray, List.set_cons_zero, List.set_cons_succ])); (refine wpAnyH_take (i := 26) (v := ?_) rfl (by kernel_rfl) (by kernel_rfl) (by kernel_rfl) (fun _ _ _ h => h) (Or.inl ⟨by rfl, ?_⟩) (by assumption) ?_; rotate_left; (focus (intro w hSw; (try dsimp only at hSw); go_simp; (try with_reducible rfl))); (try simp only [List.getElem_toArray, List.getElem_cons_zero, List.getElem_cons_succ, Act.put, List.setIfInBounds_toArray, List.set_cons_zero, List.set_cons_succ])); (refine wpAnyH_take (i := 27) (v := ?_) rfl (by kernel_rfl) (by kernel_rfl) (by kernel_rfl) (fun _ _ _ h => h) (Or.inl ⟨by rfl, ?_⟩) (by assumption) ?_; rotate_left; (focus (intro w hSw; (try dsimp only at hSw); go_simp; (try with_reducible rfl))); (try simp only [List.getElem_toArray, List.getElem_cons_zero, List.getElem_cons_succ, Act.put, List.setIfInBounds_toArray, List.set_cons_zero, List.set_cons_succ])); (refine wpAnyH_take (i := 28) (v := ?_) rfl (by kernel_rfl) (by kernel_rfl) (by kernel_rfl) (fun _ _ _ h => h) (Or.inl ⟨by rfl, ?_⟩) (by assumption) ?_; rotate_left; (focus (intro w hSw; (try dsimp only at hSw); go_simp; (try with_reducible rfl))); (try simp only [List.getElem_toArray, List.getElem_cons_zero, List.getElem_cons_succ, Act.put, List.setIfInBounds_toArray, List.set_cons_zero, List.set_cons_succ])); (refine wpAnyH_take (i := 29) (v := ?_) rfl (by kernel_rfl) (by kernel_rfl) (by kernel_rfl) (fun _ _ _ h => h) (Or.inl ⟨by rfl, ?_⟩) (by assumption) ?_; rotate_left; (focus (intro w hSw; (try dsimp only at hSw); go_simp; (try with_reducible rfl))); (try simp only [List.getElem_toArray, List.getElem_cons_zero, List.getElem_cons_succ, Act.put, List.setIfInBounds_toArray, List.set_cons_zero, List.set_cons_succ])); (refine wpAnyH_take (i := 30) (v := ?_) rfl (by kernel_rfl) (by kernel_rfl) (by kernel_rfl) (fun _ _ _ h => h) (Or.inl ⟨by rfl, ?_⟩) (by assumption) ?_; rotate_left; (focus (intro w hSw; (try dsimp only at hSw); go_simp; (try with_reducible rfl))); (try simp only [List.getElem_toArray, List.getElem_cons_zero, List.getElem_cons_succ, Act.put, List.setIfInBounds_toArray, List.set_cons_zero, List.set_cons_succ])); (refine wpAnyH_take (i := 31) (v := ?_) rfl (by kernel_rfl) (by kernel_rfl) (by kernel_rfl) (fun _ _ _ h => h) (Or.inl ⟨by rfl, ?_⟩) (by assumption) ?_; rotate_left; (focus (intro w hSw; (try dsimp only at hSw); go_simp; (try with_reducible rfl))); (try simp only [List.getElem_toArray, List.getElem_cons_zero, List.getElem_cons_succ, Act.put, List.setIfInBounds_toArray, List.set_cons_zero, List.set_cons_succ])); (refine wpAnyH_take (i := 32) (v := ?_) rfl (by kernel_rfl) (by kernel_rfl) (by kernel_rfl) (fun _ _ _ h => h) (Or.inl ⟨by rfl, ?_⟩) (by assumption) ?_; rotate_left; (focus (intro w hSw; (try dsimp only at hSw); go_simp; (try with_reducible rfl))); (try simp only [List.getElem_toArray, List.getElem_cons_zero, List.getElem_cons_succ, Act.put, List.setIfInBounds_toArray, List.set_cons_zero, List.set_cons_succ])); (refine wpAnyH_take (i := 33) (v := ?_) rfl (by kernel_rfl) (by kernel_rfl) (by kernel_rfl) (fun _ _ _ h => h) (Or.inl ⟨by rfl, ?_⟩) (by assumption) ?_; rotate_left; (focus (intro w hSw; (try dsimp only at hSw); go_simp; (try with_reducible rfl))); (try simp only [List.getElem_toArray, List.getElem_cons_zero, List.getElem_cons_succ, Act.put, List.setIfInBounds_toArray, List.set_cons_zero, List.set_cons_succ])); (refine wpAnyH_take (i := 34) (v := ?_) rfl (by kernel_rfl) (by kernel_rfl) (by kernel_rfl) (fun _ _ _ h => h) (Or.inl ⟨by rfl, ?_⟩) (by assumption) ?_; rotate_left; (focus (intro w hSw; (try dsimp only at hSw); go_simp; (try with_reducible rfl))); (try simp only [List.getElem_toArray, List.getElem_cons_zero, List.getElem_cons_succ, Act.put, List.setIfInBounds_toArray, List.set_cons_zero, List.set_cons_succ])); (refine wpAnyH_take (i := 35) (v := ?_) rfl (by kernel_rfl) (by kernel_rfl) (by kernel_rfl) (fun _ _ _ h => h) (Or.inl ⟨by rfl, ?_⟩) (by assumption) ?_; rotate_left; (focus (intro w hSw; (try dsimp only at hSw); go_simp; (try with_reducible rfl))); (try simp only [List.getElem_toArray, List.getElem_cons_zero, List.getElem_cons_succ, Act.put, List.setIfInBounds_toArray, List.set_cons_zero, List.set_cons_succ])); (refine wpAnyH_take (i := 36) (v := ?_) rfl (by kernel_rfl) (by kernel_rfl) (by kernel_rfl) (fun _ _ _ h => h) (Or.inl ⟨by rfl, ?_⟩) (by assumption) ?_; rotate_left; (focus (intro w hSw; (try dsimp only at hSw); go_simp; (try with_reducible rfl))); (try simp only [List.getElem_toArray, List.getElem_cons_zero, List.getElem_cons_succ, Act.put, List.setIfInBounds_toArray, List.set_cons_zero, List.set_cons_succ])); (refine wpAnyH_take (i := 37) (v := ?_) rfl (by kernel_rfl) (by kernel_rfl) (by kernel_rfl) (fun _ _ _ h => h) (Or.inl ⟨by rfl, ?_⟩) (by assumption) ?_; rotate_left; (focus (intro w hSw; (try dsimp only at hSw); go_simp; (try with_reducible rfl))); (try simp only [List.getElem_toArray, List.getElem_cons_zero, List.getElem_cons_succ, Act.put, List.setIfInBounds_toArray, List.set_cons_zero, List.set_cons_succ])); (refine wpAnyH_take (i := 38) (v := ?_) rfl (by kernel_rfl) (by kernel_rfl) (by kernel_rfl) (fun _ _ _ h => h) (Or.inl ⟨by rfl, ?_⟩) (by assumption) ?_; rotate_left; (focus (intro w hSw; (try dsimp only at hSw); go_simp; (try with_reducible rfl))); (try simp only [List.getElem_toArray, List.getElem_cons_zero, List.getElem_cons_succ, Act.put, List.setIfInBounds_toArray, List.set_cons_zero, List.set_cons_succ])); (refine wpAnyH_take (i := 39) (v := ?_) rfl (by kernel_rfl) (by kernel_rfl) (by kernel_rfl) (fun _ _ _ h => h) (Or.inl ⟨by rfl, ?_⟩) (by assumption) ?_; rotate_left; (focus (intro w hSw; (try dsimp only at hSw); go_simp; (try with_reducible rfl))); (try simp only [List.getElem_toArray, List.getElem_cons_zero, List.getElem_cons_succ, Act.put, List.setIfInBounds_toArray, List.set_cons_zero, List.set_cons_succ]))
    refine wpAnyH_done (by kernel_rfl) ?_ _; clear hHeld
    clear hS7
    go_upto_region 7 with fail
    have hS7 := HSR.out w7 HD7.out
    refine wp_region_held_drew (S := fun W => ((((W.cell? ⟨w.heap.size, 0, none⟩ = some (.int .i64 S.J) ∧ W.cell? ⟨w.heap.size, 1, none⟩ = some (.int .i64 S.D) ∧ W.cell? ⟨w.heap.size, 2, none⟩ = some (.int .i64 S.Z) ∧ W.cell? ⟨w.heap.size, 3, none⟩ = some (.slice (some ⟨b, off, none⟩) S.np c1)) ∧ W.cell? ⟨w.heap.size + 1, 0, none⟩ = some (.int .i64 (q : Int)) ∧ W.cell? ⟨w.heap.size + 1, 1, none⟩ = some (.int .i64 (k : Int)))) ∧ (W.cell? ⟨b, off + q * 2 + 1, none⟩ = some (.slice (some ⟨gr, or, none⟩) n (C q)) ∧ W.cell? ⟨gr, or + k, none⟩ = some (.int .i64 y)) ∧ W.cell? ⟨P, 0, none⟩ = some (.int .i64 lo) ∧ W.cell? ⟨P, 1, none⟩ = some (.int .i64 hi))) (by kernel_rfl) hS7 (fun hHeld => ?_)
    (refine wpAnyH_take (i := 0) (v := ?_) rfl (by kernel_rfl) (by kernel_rfl) (by kernel_rfl) (fun _ _ _ h => h) (Or.inl ⟨by rfl, ?_⟩) (by assumption) ?_; rotate_left; (focus (intro w hSw; (try dsimp only at hSw); go_simp; (try with_reducible rfl))); (try simp only [List.getElem_toArray, List.getElem_cons_zero, List.getElem_cons_succ, Act.put, List.setIfInBounds_toArray, List.set_cons_zero, List.set_cons_succ])); (refine wpAnyH_take (i := 1) (v := ?_) rfl (by kernel_rfl) (by kernel_rfl) (by kernel_rfl) (fun _ _ _ h => h) (Or.inl ⟨by rfl, ?_⟩) (by assumption) ?_; rotate_left; (focus (intro w hSw; (try dsimp only at hSw); go_simp; (try with_reducible rfl))); (try simp only [List.getElem_toArray, List.getElem_cons_zero, List.getElem_cons_succ, Act.put, List.setIfInBounds_toArray, List.set_cons_zero, List.set_cons_succ]))
    (refine wpAnyH_take (i := 3) (v := ?_) rfl (by kernel_rfl) (by kernel_rfl) (by kernel_rfl) (fun _ _ _ h => h) (Or.inl ⟨by rfl, ?_⟩) (by assumption) ?_; rotate_left; (focus (intro w hSw; (try dsimp only at hSw); go_simp; (try with_reducible rfl))); (try simp only [List.getElem_toArray, List.getElem_cons_zero, List.getElem_cons_succ, Act.put, List.setIfInBounds_toArray, List.set_cons_zero, List.set_cons_succ])); (refine wpAnyH_take (i := 4) (v := ?_) rfl (by kernel_rfl) (by kernel_rfl) (by kernel_rfl) (fun _ _ _ h => h) (Or.inl ⟨by rfl, ?_⟩) (by assumption) ?_; rotate_left; (focus (intro w hSw; (try dsimp only at hSw); go_simp; (try with_reducible rfl))); (try simp only [List.getElem_toArray, List.getElem_cons_zero, List.getElem_cons_succ, Act.put, List.setIfInBounds_toArray, List.set_cons_zero, List.set_cons_succ])); (refine wpAnyH_take (i := 5) (v := ?_) rfl (by kernel_rfl) (by kernel_rfl) (by kernel_rfl) (fun _ _ _ h => h) (Or.inl ⟨by rfl, ?_⟩) (by assumption) ?_; rotate_left; (focus (intro w hSw; (try dsimp only at hSw); go_simp; (try with_reducible rfl))); (try simp only [List.getElem_toArray, List.getElem_cons_zero, List.getElem_cons_succ, Act.put, List.setIfInBounds_toArray, List.set_cons_zero, List.set_cons_succ]))
    (refine wpAnyH_take (i := 8) (v := ?_) rfl (by kernel_rfl) (by kernel_rfl) (by kernel_rfl) (fun _ _ _ h => h) (Or.inl ⟨by rfl, ?_⟩) (by assumption) ?_; rotate_left; (focus (intro w hSw; (try dsimp only at hSw); go_simp; (try with_reducible rfl))); (try simp only [List.getElem_toArray, List.getElem_cons_zero, List.getElem_cons_succ, Act.put, List.setIfInBounds_toArray, List.set_cons_zero, List.set_cons_succ]))
    refine wpAnyH_ready (rs := [2]) (by kernel_rfl) (by simp) ?_; refine AllReadyH.cons rfl (fun K hK => ?_) AllReadyH.nil; go_simp
    go_at_call 19
    refine (holds_any _ _ _ _).mono ?_
    rw [HRH.out]
    rintro e w8 ⟨rfl, hb8⟩
    have HD8 : Hid (Below w6.heap.size w6 w8) := bel HD7.out ((Below.refl _ _).drew.trans hb8)
    have hS8 := HSR.out w8 HD8.out
    clear hb8 hS7
    refine hK.out _ _ hS8 (fun hHeld => ?_); clear hK K; (try simp only [List.getElem_toArray, List.getElem_cons_zero, List.getElem_cons_succ, Act.put, List.setIfInBounds_toArray, List.set_cons_zero, List.set_cons_succ])
    refine wpAnyH_ready (rs := [6]) (by kernel_rfl) (by simp) ?_; refine AllReadyH.cons rfl (fun K hK => ?_) AllReadyH.nil; go_simp
    go_at_call 26
    refine (rWith_any N _ S q k x _ (HBK.out.go (bel HB6.out HD8.out)) (by omega) HL40.out hq (by have := HLN.out; omega)).mono ?_
    rintro e w9 ⟨v9, rfl, ho9, hb9⟩
    have HD9 : Hid (Below w6.heap.size w6 w9) := bel HD8.out hb9
    have HS9 := Lib.hid (ho9.show (Nat.le_trans hnp6 (by omega)) HLM.out)
    have hS9 := HSR.out w9 HD9.out
    clear hb9 ho9 hS8
    refine hK.out _ _ hS9 (fun hHeld => ?_); clear hK K; (try simp only [List.getElem_toArray, List.getElem_cons_zero, List.getElem_cons_succ, Act.put, List.setIfInBounds_toArray, List.set_cons_zero, List.set_cons_succ])
    refine wpAnyH_ready (rs := [7]) (by kernel_rfl) (by simp) ?_; refine AllReadyH.cons rfl (fun K hK => ?_) AllReadyH.nil; go_simp
    go_at_call 41
    refine (get_any _ _ (withP S q k (x : Int)) _ HS9.out HGM.out.rd).mono ?_
    rintro e wA ⟨uA, rfl, hoA, hbA⟩
    have HDA : Hid (Below w6.heap.size w6 wA) := bel HD9.out hbA
    have HOA := Lib.hid hoA
    have hSA := HSR.out wA HDA.out
    clear hbA hoA hS9
    refine hK.out _ _ hSA (fun hHeld => ?_); clear hK K; (try simp only [List.getElem_toArray, List.getElem_cons_zero, List.getElem_cons_succ, Act.put, List.setIfInBounds_toArray, List.set_cons_zero, List.set_cons_succ])
    refine wpAnyH_ready (rs := [9]) (by kernel_rfl) (by simp) ?_; refine AllReadyH.cons rfl (fun K hK => ?_) AllReadyH.nil; go_simp
    go_at_call 41
    refine (get_any N _ S _ (HBK.out.go (bel HB6.out HDA.out)) HRD.out).mono ?_
    rintro e wC ⟨uC, rfl, hoC, hbC⟩
    have HDC2 : Hid (Below w6.heap.size w6 wC) := bel HDA.out hbC
    have HOC := Lib.hid (And.intro (HOA.out.go hbC) hoC)
    have hSC := HSR.out wC HDC2.out
    clear hbC hoC hSA
    refine hK.out _ _ hSC (fun hHeld => ?_); clear hK K; (try simp only [List.getElem_toArray, List.getElem_cons_zero, List.getElem_cons_succ, Act.put, List.setIfInBounds_toArray, List.set_cons_zero, List.set_cons_succ])
    refine wpAnyH_ready (rs := [10]) (by kernel_rfl) (by simp) ?_; refine AllReadyH.cons rfl (fun K hK => ?_) AllReadyH.nil; go_simp
    go_at_call 40
    refine (same_own _ _ _ _ _ _ _ HOC.out.1 HOC.out.2 (Nat.le_trans (getL_len _) (Nat.le_trans hnp6 (by omega))) (Nat.le_trans (getL_len _) (Nat.le_trans hnp6 (by omega)))).mono ?_
    rw [HBB.out]
    rintro e wE ⟨rfl, hbE⟩
    have HDE : Hid (Below w6.heap.size w6 wE) := bel HDC2.out hbE
    have hSE := HSR.out wE HDE.out
    clear hbE hSC
    refine hK.out _ _ hSE (fun hHeld => ?_); clear hK K; (try simp only [List.getElem_toArray, List.getElem_cons_zero, List.getElem_cons_succ, Act.put, List.setIfInBounds_toArray, List.set_cons_zero, List.set_cons_succ])
    (refine wpAnyH_take (i := 11) (v := ?_) rfl (by kernel_rfl) (by kernel_rfl) (by kernel_rfl) (fun _ _ _ h => h) (Or.inl ⟨by rfl, ?_⟩) (by assumption) ?_; rotate_left; (focus (intro w hSw; (try dsimp only at hSw); go_simp; (try with_reducible rfl))); (try simp only [List.getElem_toArray, List.getElem_cons_zero, List.getElem_cons_succ, Act.put, List.setIfInBounds_toArray, List.set_cons_zero, List.set_cons_succ]))
    refine wpAnyH_done (by kernel_rfl) ?_ _; clear hHeld
    clear hSE HDC HD7 HD8 HD9 HDA HDC2 HOA HOC HS9
    go_upto_region 9 with fail
    go_wp2_with fail
    go_loopw [11] (fun i wr => ∃ m : Nat, m ≤ S.np ∧ i = .int .i64 m ∧ Hid (Below w6.heap.size w6 wr)) (fun i _ => S.np - (intOf i).toNat)
    case atStart => exact ⟨0, Nat.zero_le _, rfl, HDE⟩
    case round =>
      obtain ⟨m, hm, rfl, HDr⟩ := hrel
      by_cases hmn : m < S.np
      · have hmi : (m : Int) < (S.np : Int) := by omega
        obtain ⟨f, hf1, hf2⟩ := HRF.out
        obtain ⟨b2, off2, rfl, hb2, hr2⟩ := (HLC.out w6 HD0.out).cell (by rw [HRL.out]; omega)
        obtain ⟨fm, hfm⟩ : ∃ fm, f m = fm := ⟨_, rfl⟩
        have hLm := (hf1 m hmn).1
        have hfmn := (hf1 m hmn).2
        rw [hfm] at hLm hfmn
        have HCM : Hid (∀ W, Below w6.heap.size w6 W → W.cell? ⟨b2, off2 + m, none⟩ = some (.int .i64 (fm : Int))) := fun W hW => by
          rw [← hLm]
          exact (hW.cell (p := ⟨b2, off2 + m, none⟩) hb2).trans (hr2 m (by rw [HRL.out]; exact hmn))
        have HCA : Hid (∀ i, i < S.np → ∀ W, Below w6.heap.size w6 W → W.cell? ⟨b2, off2 + i, none⟩ = some (.int .i64 (f i : Int))) := fun i hi W hW => by
          rw [← (hf1 i hi).1]
          exact (hW.cell (p := ⟨b2, off2 + i, none⟩) hb2).trans (hr2 i (by rw [HRL.out]; exact hi))
        have HF2 : Hid (∀ k, k < m → f k ≠ fm ∧ bet (totI S) S.sz fm (f k) = false ∧ (bet (totI S) S.sz (f k) fm = false → f k < fm) ∧ f k < S.np) := fun k hk => by
          have h1 := hf2 m k hk hmn
          rw [hfm] at h1
          exact ⟨h1.1, h1.2.1, h1.2.2, (hf1 k (by omega)).2⟩
        have HIP : Hid (inN (fm : Int) S.np = true) := by unfold Hid inN; simp; exact hfmn
        clear hfm hLm hf1 hf2 hr2
        go_upto_region 12 with fail
        have hSr : (((((wr.cell? ⟨w.heap.size, 0, none⟩ = some (.int .i64 S.J) ∧ wr.cell? ⟨w.heap.size, 1, none⟩ = some (.int .i64 S.D) ∧ wr.cell? ⟨w.heap.size, 2, none⟩ = some (.int .i64 S.Z) ∧ wr.cell? ⟨w.heap.size, 3, none⟩ = some (.slice (some ⟨b, off, none⟩) S.np c1)) ∧ wr.cell? ⟨w.heap.size + 1, 0, none⟩ = some (.int .i64 (q : Int)) ∧ wr.cell? ⟨w.heap.size + 1, 1, none⟩ = some (.int .i64 (k : Int)))) ∧ (wr.cell? ⟨b, off + q * 2 + 1, none⟩ = some (.slice (some ⟨gr, or, none⟩) n (C q)) ∧ wr.cell? ⟨gr, or + k, none⟩ = some (.int .i64 y)) ∧ wr.cell? ⟨P, 0, none⟩ = some (.int .i64 lo) ∧ wr.cell? ⟨P, 1, none⟩ = some (.int .i64 hi))) ∧ wr.cell? ⟨b2, off2 + m, none⟩ = some (.int .i64 (fm : Int)) := ⟨HSR.out wr HDr.out, HCM.out wr HDr.out⟩
        refine wp_region_held_drew (S := fun W => (((((W.cell? ⟨w.heap.size, 0, none⟩ = some (.int .i64 S.J) ∧ W.cell? ⟨w.heap.size, 1, none⟩ = some (.int .i64 S.D) ∧ W.cell? ⟨w.heap.size, 2, none⟩ = some (.int .i64 S.Z) ∧ W.cell? ⟨w.heap.size, 3, none⟩ = some (.slice (some ⟨b, off, none⟩) S.np c1)) ∧ W.cell? ⟨w.heap.size + 1, 0, none⟩ = some (.int .i64 (q : Int)) ∧ W.cell? ⟨w.heap.size + 1, 1, none⟩ = some (.int .i64 (k : Int)))) ∧ (W.cell? ⟨b, off + q * 2 + 1, none⟩ = some (.slice (some ⟨gr, or, none⟩) n (C q)) ∧ W.cell? ⟨gr, or + k, none⟩ = some (.int .i64 y)) ∧ W.cell? ⟨P, 0, none⟩ = some (.int .i64 lo) ∧ W.cell? ⟨P, 1, none⟩ = some (.int .i64 hi))) ∧ W.cell? ⟨b2, off2 + m, none⟩ = some (.int .i64 (fm : Int))) (by kernel_rfl) hSr (fun hHeld => ?_)
        (refine wpAnyH_take (i := 0) (v := ?_) rfl (by kernel_rfl) (by kernel_rfl) (by kernel_rfl) (fun _ _ _ h => h) (Or.inl ⟨by rfl, ?_⟩) (by assumption) ?_; rotate_left; (focus (intro w hSw; (try dsimp only at hSw); go_simp; (try with_reducible rfl))); (try simp only [List.getElem_toArray, List.getElem_cons_zero, List.getElem_cons_succ, Act.put, List.setIfInBounds_toArray, List.set_cons_zero, List.set_cons_succ])); (refine wpAnyH_take (i := 1) (v := ?_) rfl (by kernel_rfl) (by kernel_rfl) (by kernel_rfl) (fun _ _ _ h => h) (Or.inl ⟨by rfl, ?_⟩) (by assumption) ?_; rotate_left; (focus (intro w hSw; (try dsimp only at hSw); go_simp; (try with_reducible rfl))); (try simp only [List.getElem_toArray, List.getElem_cons_zero, List.getElem_cons_succ, Act.put, List.setIfInBounds_toArray, List.set_cons_zero, List.set_cons_succ])); (refine wpAnyH_take (i := 2) (v := ?_) rfl (by kernel_rfl) (by kernel_rfl) (by kernel_rfl) (fun _ _ _ h => h) (Or.inl ⟨by rfl, ?_⟩) (by assumption) ?_; rotate_left; (focus (intro w hSw; (try dsimp only at hSw); go_simp; (try with_reducible rfl))); (try simp only [List.getElem_toArray, List.getElem_cons_zero, List.getElem_cons_succ, Act.put, List.setIfInBounds_toArray, List.set_cons_zero, List.set_cons_succ])); (refine wpAnyH_take (i := 3) (v := ?_) rfl (by kernel_rfl) (by kernel_rfl) (by kernel_rfl) (fun _ _ _ h => h) (Or.inl ⟨by rfl, ?_⟩) (by assumption) ?_; rotate_left; (focus (intro w hSw; (try dsimp only at hSw); go_simp; (try with_reducible rfl))); (try simp only [List.getElem_toArray, List.getElem_cons_zero, List.getElem_cons_succ, Act.put, List.setIfInBounds_toArray, List.set_cons_zero, List.set_cons_succ])); (refine wpAnyH_take (i := 4) (v := ?_) rfl (by kernel_rfl) (by kernel_rfl) (by kernel_rfl) (fun _ _ _ h => h) (Or.inl ⟨by rfl, ?_⟩) (by assumption) ?_; rotate_left; (focus (intro w hSw; (try dsimp only at hSw); go_simp; (try with_reducible rfl))); (try simp only [List.getElem_toArray, List.getElem_cons_zero, List.getElem_cons_succ, Act.put, List.setIfInBounds_toArray, List.set_cons_zero, List.set_cons_succ]))
        refine wpAnyH_ready (rs := [5]) (by kernel_rfl) (by simp) ?_; refine AllReadyH.cons rfl (fun K hK => ?_) AllReadyH.nil; go_simp
        go_at_call 36
        refine (isPlate_any N _ S (fm : Int) _ (HBK.out.go (bel HB6.out ((HDr.out.drew))))).mono ?_
        rw [HIP.out]
        rintro e wF ⟨rfl, hbF⟩
        have HDF : Hid (Below w6.heap.size w6 wF) := bel HDr.out ((Below.refl _ _).drew.trans hbF)
        have hSF : (((((wF.cell? ⟨w.heap.size, 0, none⟩ = some (.int .i64 S.J) ∧ wF.cell? ⟨w.heap.size, 1, none⟩ = some (.int .i64 S.D) ∧ wF.cell? ⟨w.heap.size, 2, none⟩ = some (.int .i64 S.Z) ∧ wF.cell? ⟨w.heap.size, 3, none⟩ = some (.slice (some ⟨b, off, none⟩) S.np c1)) ∧ wF.cell? ⟨w.heap.size + 1, 0, none⟩ = some (.int .i64 (q : Int)) ∧ wF.cell? ⟨w.heap.size + 1, 1, none⟩ = some (.int .i64 (k : Int)))) ∧ (wF.cell? ⟨b, off + q * 2 + 1, none⟩ = some (.slice (some ⟨gr, or, none⟩) n (C q)) ∧ wF.cell? ⟨gr, or + k, none⟩ = some (.int .i64 y)) ∧ wF.cell? ⟨P, 0, none⟩ = some (.int .i64 lo) ∧ wF.cell? ⟨P, 1, none⟩ = some (.int .i64 hi))) ∧ wF.cell? ⟨b2, off2 + m, none⟩ = some (.int .i64 (fm : Int)) := ⟨HSR.out wF HDF.out, HCM.out wF HDF.out⟩
        clear hbF hSr
        refine hK.out _ _ hSF (fun hHeld => ?_); clear hK K; (try simp only [List.getElem_toArray, List.getElem_cons_zero, List.getElem_cons_succ, Act.put, List.setIfInBounds_toArray, List.set_cons_zero, List.set_cons_succ])
        (refine wpAnyH_take (i := 6) (v := ?_) rfl (by kernel_rfl) (by kernel_rfl) (by kernel_rfl) (fun _ _ _ h => h) (Or.inl ⟨by rfl, ?_⟩) (by assumption) ?_; rotate_left; (focus (intro w hSw; (try dsimp only at hSw); go_simp; (try with_reducible rfl))); (try simp only [List.getElem_toArray, List.getElem_cons_zero, List.getElem_cons_succ, Act.put, List.setIfInBounds_toArray, List.set_cons_zero, List.set_cons_succ]))
        refine wpAnyH_done (by kernel_rfl) ?_ _; clear hHeld
        clear hSF
        go_upto_region 14 with fail
        go_wp2_with fail
        obtain ⟨wo, hwo⟩ : ∃ wo, wo = wr := ⟨_, rfl⟩
        subst hwo
        go_loopw [12] (fun i wr => ∃ g : Nat, g ≤ m ∧ i = .int .i64 g ∧ Hid (Below w6.heap.size w6 wr)) (fun i _ => m - (intOf i).toNat)
        case atStart => exact ⟨0, Nat.zero_le _, rfl, HDF⟩
        case round =>
          obtain ⟨g, hg, rfl, HDg⟩ := hrel
          by_cases hgm : g < m
          · have hgi : (g : Int) < (m : Int) := by omega
            have hgn : (g : Int) < (S.np : Int) := by omega
            obtain ⟨h1, h2, h3, h4⟩ := HF2.out g hgm
            obtain ⟨fg, hfg⟩ : ∃ fg, f g = fg := ⟨_, rfl⟩
            rw [hfg] at h1 h2 h3 h4
            have HCG : Hid (∀ W, Below w6.heap.size w6 W → W.cell? ⟨b2, off2 + g, none⟩ = some (.int .i64 (fg : Int))) := fun W hW => by rw [← hfg]; exact HCA.out g (by omega) W hW
            have HBA := Lib.hid h2
            have HBC := Lib.hid h3
            have hne : ¬ (fg : Int) = (fm : Int) := by omega
            have hde : decide ((fg : Int) = (fm : Int)) = false := decide_eq_false hne
            have hde2 : decide (fg = fm) = false := decide_eq_false h1
            have hbe : ((fg : Int) == (fm : Int)) = false := by simp; omega
            have hbe2 : (fg == fm) = false := by simp; omega
            have hne2 : ¬ fg = fm := h1
            clear hfg h2 h3
            have HSG : Hid (∀ W, Below w6.heap.size w6 W → ((((((W.cell? ⟨w.heap.size, 0, none⟩ = some (.int .i64 S.J) ∧ W.cell? ⟨w.heap.size, 1, none⟩ = some (.int .i64 S.D) ∧ W.cell? ⟨w.heap.size, 2, none⟩ = some (.int .i64 S.Z) ∧ W.cell? ⟨w.heap.size, 3, none⟩ = some (.slice (some ⟨b, off, none⟩) S.np c1)) ∧ W.cell? ⟨w.heap.size + 1, 0, none⟩ = some (.int .i64 (q : Int)) ∧ W.cell? ⟨w.heap.size + 1, 1, none⟩ = some (.int .i64 (k : Int)))) ∧ (W.cell? ⟨b, off + q * 2 + 1, none⟩ = some (.slice (some ⟨gr, or, none⟩) n (C q)) ∧ W.cell? ⟨gr, or + k, none⟩ = some (.int .i64 y)) ∧ W.cell? ⟨P, 0, none⟩ = some (.int .i64 lo) ∧ W.cell? ⟨P, 1, none⟩ = some (.int .i64 hi))) ∧ W.cell? ⟨b2, off2 + m, none⟩ = some (.int .i64 (fm : Int))) ∧ W.cell? ⟨b2, off2 + g, none⟩ = some (.int .i64 (fg : Int))) := fun W hW => ⟨⟨HSR.out W hW, HCM.out W hW⟩, HCG.out W hW⟩
            go_upto_region 17 with fail
            have hSr := HSG.out wr HDg.out
            refine wp_region_held_drew (S := fun W => ((((((W.cell? ⟨w.heap.size, 0, none⟩ = some (.int .i64 S.J) ∧ W.cell? ⟨w.heap.size, 1, none⟩ = some (.int .i64 S.D) ∧ W.cell? ⟨w.heap.size, 2, none⟩ = some (.int .i64 S.Z) ∧ W.cell? ⟨w.heap.size, 3, none⟩ = some (.slice (some ⟨b, off, none⟩) S.np c1)) ∧ W.cell? ⟨w.heap.size + 1, 0, none⟩ = some (.int .i64 (q : Int)) ∧ W.cell? ⟨w.heap.size + 1, 1, none⟩ = some (.int .i64 (k : Int)))) ∧ (W.cell? ⟨b, off + q * 2 + 1, none⟩ = some (.slice (some ⟨gr, or, none⟩) n (C q)) ∧ W.cell? ⟨gr, or + k, none⟩ = some (.int .i64 y)) ∧ W.cell? ⟨P, 0, none⟩ = some (.int .i64 lo) ∧ W.cell? ⟨P, 1, none⟩ = some (.int .i64 hi))) ∧ W.cell? ⟨b2, off2 + m, none⟩ = some (.int .i64 (fm : Int))) ∧ W.cell? ⟨b2, off2 + g, none⟩ = some (.int .i64 (fg : Int))) (by kernel_rfl) hSr (fun hHeld => ?_)
            (refine wpAnyH_take (i := 0) (v := ?_) rfl (by kernel_rfl) (by kernel_rfl) (by kernel_rfl) (fun _ _ _ h => h) (Or.inl ⟨by rfl, ?_⟩) (by assumption) ?_; rotate_left; (focus (intro w hSw; (try dsimp only at hSw); go_simp; (try with_reducible rfl))); (try simp only [List.getElem_toArray, List.getElem_cons_zero, List.getElem_cons_succ, Act.put, List.setIfInBounds_toArray, List.set_cons_zero, List.set_cons_succ])); (refine wpAnyH_take (i := 1) (v := ?_) rfl (by kernel_rfl) (by kernel_rfl) (by kernel_rfl) (fun _ _ _ h => h) (Or.inl ⟨by rfl, ?_⟩) (by assumption) ?_; rotate_left; (focus (intro w hSw; (try dsimp only at hSw); go_simp; (try with_reducible rfl))); (try simp only [List.getElem_toArray, List.getElem_cons_zero, List.getElem_cons_succ, Act.put, List.setIfInBounds_toArray, List.set_cons_zero, List.set_cons_succ])); (refine wpAnyH_take (i := 2) (v := ?_) rfl (by kernel_rfl) (by kernel_rfl) (by kernel_rfl) (fun _ _ _ h => h) (Or.inl ⟨by rfl, ?_⟩) (by assumption) ?_; rotate_left; (focus (intro w hSw; (try dsimp only at hSw); go_simp; (try with_reducible rfl))); (try simp only [List.getElem_toArray, List.getElem_cons_zero, List.getElem_cons_succ, Act.put, List.setIfInBounds_toArray, List.set_cons_zero, List.set_cons_succ])); (refine wpAnyH_take (i := 3) (v := ?_) rfl (by kernel_rfl) (by kernel_rfl) (by kernel_rfl) (fun _ _ _ h => h) (Or.inl ⟨by rfl, ?_⟩) (by assumption) ?_; rotate_left; (focus (intro w hSw; (try dsimp only at hSw); go_simp; (try with_reducible rfl))); (try simp only [List.getElem_toArray, List.getElem_cons_zero, List.getElem_cons_succ, Act.put, List.setIfInBounds_toArray, List.set_cons_zero, List.set_cons_succ])); (refine wpAnyH_take (i := 4) (v := ?_) rfl (by kernel_rfl) (by kernel_rfl) (by kernel_rfl) (fun _ _ _ h => h) (Or.inl ⟨by rfl, ?_⟩) (by assumption) ?_; rotate_left; (focus (intro w hSw; (try dsimp only at hSw); go_simp; (try with_reducible rfl))); (try simp only [List.getElem_toArray, List.getElem_cons_zero, List.getElem_cons_succ, Act.put, List.setIfInBounds_toArray, List.set_cons_zero, List.set_cons_succ])); (refine wpAnyH_take (i := 5) (v := ?_) rfl (by kernel_rfl) (by kernel_rfl) (by kernel_rfl) (fun _ _ _ h => h) (Or.inl ⟨by rfl, ?_⟩) (by assumption) ?_; rotate_left; (focus (intro w hSw; (try dsimp only at hSw); go_simp; (try with_reducible rfl))); (try simp only [List.getElem_toArray, List.getElem_cons_zero, List.getElem_cons_succ, Act.put, List.setIfInBounds_toArray, List.set_cons_zero, List.set_cons_succ])); (refine wpAnyH_take (i := 6) (v := ?_) rfl (by kernel_rfl) (by kernel_rfl) (by kernel_rfl) (fun _ _ _ h => h) (Or.inl ⟨by rfl, ?_⟩) (by assumption) ?_; rotate_left; (focus (intro w hSw; (try dsimp only at hSw); go_simp; (try with_reducible rfl))); (try simp only [List.getElem_toArray, List.getElem_cons_zero, List.getElem_cons_succ, Act.put, List.setIfInBounds_toArray, List.set_cons_zero, List.set_cons_succ])); (refine wpAnyH_take (i := 7) (v := ?_) rfl (by kernel_rfl) (by kernel_rfl) (by kernel_rfl) (fun _ _ _ h => h) (Or.inl ⟨by rfl, ?_⟩) (by assumption) ?_; rotate_left; (focus (intro w hSw; (try dsimp only at hSw); go_simp; (try with_reducible rfl))); (try simp only [List.getElem_toArray, List.getElem_cons_zero, List.getElem_cons_succ, Act.put, List.setIfInBounds_toArray, List.set_cons_zero, List.set_cons_succ])); (refine wpAnyH_take (i := 8) (v := ?_) rfl (by kernel_rfl) (by kernel_rfl) (by kernel_rfl) (fun _ _ _ h => h) (Or.inl ⟨by rfl, ?_⟩) (by assumption) ?_; rotate_left; (focus (intro w hSw; (try dsimp only at hSw); go_simp; (try with_reducible rfl))); (try simp only [List.getElem_toArray, List.getElem_cons_zero, List.getElem_cons_succ, Act.put, List.setIfInBounds_toArray, List.set_cons_zero, List.set_cons_succ])); (refine wpAnyH_take (i := 9) (v := ?_) rfl (by kernel_rfl) (by kernel_rfl) (by kernel_rfl) (fun _ _ _ h => h) (Or.inl ⟨by rfl, ?_⟩) (by assumption) ?_; rotate_left; (focus (intro w hSw; (try dsimp only at hSw); go_simp; (try with_reducible rfl))); (try simp only [List.getElem_toArray, List.getElem_cons_zero, List.getElem_cons_succ, Act.put, List.setIfInBounds_toArray, List.set_cons_zero, List.set_cons_succ])); (refine wpAnyH_take (i := 10) (v := ?_) rfl (by kernel_rfl) (by kernel_rfl) (by kernel_rfl) (fun _ _ _ h => h) (Or.inl ⟨by rfl, ?_⟩) (by assumption) ?_; rotate_left; (focus (intro w hSw; (try dsimp only at hSw); go_simp; (try with_reducible rfl))); (try simp only [List.getElem_toArray, List.getElem_cons_zero, List.getElem_cons_succ, Act.put, List.setIfInBounds_toArray, List.set_cons_zero, List.set_cons_succ])); (refine wpAnyH_take (i := 11) (v := ?_) rfl (by kernel_rfl) (by kernel_rfl) (by kernel_rfl) (fun _ _ _ h => h) (Or.inl ⟨by rfl, ?_⟩) (by assumption) ?_; rotate_left; (focus (intro w hSw; (try dsimp only at hSw); go_simp; (try with_reducible rfl))); (try simp only [List.getElem_toArray, List.getElem_cons_zero, List.getElem_cons_succ, Act.put, List.setIfInBounds_toArray, List.set_cons_zero, List.set_cons_succ])); (refine wpAnyH_take (i := 12) (v := ?_) rfl (by kernel_rfl) (by kernel_rfl) (by kernel_rfl) (fun _ _ _ h => h) (Or.inl ⟨by rfl, ?_⟩) (by assumption) ?_; rotate_left; (focus (intro w hSw; (try dsimp only at hSw); go_simp; (try with_reducible rfl))); (try simp only [List.getElem_toArray, List.getElem_cons_zero, List.getElem_cons_succ, Act.put, List.setIfInBounds_toArray, List.set_cons_zero, List.set_cons_succ])); (refine wpAnyH_take (i := 13) (v := ?_) rfl (by kernel_rfl) (by kernel_rfl) (by kernel_rfl) (fun _ _ _ h => h) (Or.inl ⟨by rfl, ?_⟩) (by assumption) ?_; rotate_left; (focus (intro w hSw; (try dsimp only at hSw); go_simp; (try with_reducible rfl))); (try simp only [List.getElem_toArray, List.getElem_cons_zero, List.getElem_cons_succ, Act.put, List.setIfInBounds_toArray, List.set_cons_zero, List.set_cons_succ])); (refine wpAnyH_take (i := 14) (v := ?_) rfl (by kernel_rfl) (by kernel_rfl) (by kernel_rfl) (fun _ _ _ h => h) (Or.inl ⟨by rfl, ?_⟩) (by assumption) ?_; rotate_left; (focus (intro w hSw; (try dsimp only at hSw); go_simp; (try with_reducible rfl))); (try simp only [List.getElem_toArray, List.getElem_cons_zero, List.getElem_cons_succ, Act.put, List.setIfInBounds_toArray, List.set_cons_zero, List.set_cons_succ])); (refine wpAnyH_take (i := 15) (v := ?_) rfl (by kernel_rfl) (by kernel_rfl) (by kernel_rfl) (fun _ _ _ h => h) (Or.inl ⟨by rfl, ?_⟩) (by assumption) ?_; rotate_left; (focus (intro w hSw; (try dsimp only at hSw); go_simp; (try with_reducible rfl))); (try simp only [List.getElem_toArray, List.getElem_cons_zero, List.getElem_cons_succ, Act.put, List.setIfInBounds_toArray, List.set_cons_zero, List.set_cons_succ])); (refine wpAnyH_take (i := 16) (v := ?_) rfl (by kernel_rfl) (by kernel_rfl) (by kernel_rfl) (fun _ _ _ h => h) (Or.inl ⟨by rfl, ?_⟩) (by assumption) ?_; rotate_left; (focus (intro w hSw; (try dsimp only at hSw); go_simp; (try with_reducible rfl))); (try simp only [List.getElem_toArray, List.getElem_cons_zero, List.getElem_cons_succ, Act.put, List.setIfInBounds_toArray, List.set_cons_zero, List.set_cons_succ])); (refine wpAnyH_take (i := 17) (v := ?_) rfl (by kernel_rfl) (by kernel_rfl) (by kernel_rfl) (fun _ _ _ h => h) (Or.inl ⟨by rfl, ?_⟩) (by assumption) ?_; rotate_left; (focus (intro w hSw; (try dsimp only at hSw); go_simp; (try with_reducible rfl))); (try simp only [List.getElem_toArray, List.getElem_cons_zero, List.getElem_cons_succ, Act.put, List.setIfInBounds_toArray, List.set_cons_zero, List.set_cons_succ])); (refine wpAnyH_take (i := 18) (v := ?_) rfl (by kernel_rfl) (by kernel_rfl) (by kernel_rfl) (fun _ _ _ h => h) (Or.inl ⟨by rfl, ?_⟩) (by assumption) ?_; rotate_left; (focus (intro w hSw; (try dsimp only at hSw); go_simp; (try with_reducible rfl))); (try simp only [List.getElem_toArray, List.getElem_cons_zero, List.getElem_cons_succ, Act.put, List.setIfInBounds_toArray, List.set_cons_zero, List.set_cons_succ]))
            refine wpAnyH_ready (rs := [19]) (by kernel_rfl) (by simp) ?_; refine AllReadyH.cons rfl (fun K hK => ?_) AllReadyH.nil; go_simp
            go_at_call 23
            refine (isBetter_any N _ S fm fg _ (HBK.out.go (bel HB6.out (HDg.out.drew))) HRD.out hfmn h4).mono ?_
            rw [HBA.out]
            rintro e wI ⟨rfl, hbI⟩
            have HDI : Hid (Below w6.heap.size w6 wI) := bel HDg.out ((Below.refl _ _).drew.trans hbI)
            have hSI := HSG.out wI HDI.out
            clear hbI hSr
            refine hK.out _ _ hSI (fun hHeld => ?_); clear hK K; (try simp only [List.getElem_toArray, List.getElem_cons_zero, List.getElem_cons_succ, Act.put, List.setIfInBounds_toArray, List.set_cons_zero, List.set_cons_succ])
            (refine wpAnyH_take (i := 20) (v := ?_) rfl (by kernel_rfl) (by kernel_rfl) (by kernel_rfl) (fun _ _ _ h => h) (Or.inl ⟨by rfl, ?_⟩) (by assumption) ?_; rotate_left; (focus (intro w hSw; (try dsimp only at hSw); go_simp; (try with_reducible rfl))); (try simp only [List.getElem_toArray, List.getElem_cons_zero, List.getElem_cons_succ, Act.put, List.setIfInBounds_toArray, List.set_cons_zero, List.set_cons_succ])); (refine wpAnyH_take (i := 21) (v := ?_) rfl (by kernel_rfl) (by kernel_rfl) (by kernel_rfl) (fun _ _ _ h => h) (Or.inl ⟨by rfl, ?_⟩) (by assumption) ?_; rotate_left; (focus (intro w hSw; (try dsimp only at hSw); go_simp; (try with_reducible rfl))); (try simp only [List.getElem_toArray, List.getElem_cons_zero, List.getElem_cons_succ, Act.put, List.setIfInBounds_toArray, List.set_cons_zero, List.set_cons_succ])); (refine wpAnyH_take (i := 22) (v := ?_) rfl (by kernel_rfl) (by kernel_rfl) (by kernel_rfl) (fun _ _ _ h => h) (Or.inl ⟨by rfl, ?_⟩) (by assumption) ?_; rotate_left; (focus (intro w hSw; (try dsimp only at hSw); go_simp; (try with_reducible rfl))); (try simp only [List.getElem_toArray, List.getElem_cons_zero, List.getElem_cons_succ, Act.put, List.setIfInBounds_toArray, List.set_cons_zero, List.set_cons_succ])); (refine wpAnyH_take (i := 23) (v := ?_) rfl (by kernel_rfl) (by kernel_rfl) (by kernel_rfl) (fun _ _ _ h => h) (Or.inl ⟨by rfl, ?_⟩) (by assumption) ?_; rotate_left; (focus (intro w hSw; (try dsimp only at hSw); go_simp; (try with_reducible rfl))); (try simp only [List.getElem_toArray, List.getElem_cons_zero, List.getElem_cons_succ, Act.put, List.setIfInBounds_toArray, List.set_cons_zero, List.set_cons_succ])); (refine wpAnyH_take (i := 24) (v := ?_) rfl (by kernel_rfl) (by kernel_rfl) (by kernel_rfl) (fun _ _ _ h => h) (Or.inl ⟨by rfl, ?_⟩) (by assumption) ?_; rotate_left; (focus (intro w hSw; (try dsimp only at hSw); go_simp; (try with_reducible rfl))); (try simp only [List.getElem_toArray, List.getElem_cons_zero, List.getElem_cons_succ, Act.put, List.setIfInBounds_toArray, List.set_cons_zero, List.set_cons_succ])); (refine wpAnyH_take (i := 25) (v := ?_) rfl (by kernel_rfl) (by kernel_rfl) (by kernel_rfl) (fun _ _ _ h => h) (Or.inl ⟨by rfl, ?_⟩) (by assumption) ?_; rotate_left; (focus (intro w hSw; (try dsimp only at hSw); go_simp; (try with_reducible rfl))); (try simp only [List.getElem_toArray, List.getElem_cons_zero, List.getElem_cons_succ, Act.put, List.setIfInBounds_toArray, List.set_cons_zero, List.set_cons_succ])); (refine wpAnyH_take (i := 26) (v := ?_) rfl (by kernel_rfl) (by kernel_rfl) (by kernel_rfl) (fun _ _ _ h => h) (Or.inl ⟨by rfl, ?_⟩) (by assumption) ?_; rotate_left; (focus (intro w hSw; (try dsimp only at hSw); go_simp; (try with_reducible rfl))); (try simp only [List.getElem_toArray, List.getElem_cons_zero, List.getElem_cons_succ, Act.put, List.setIfInBounds_toArray, List.set_cons_zero, List.set_cons_succ])); (refine wpAnyH_take (i := 27) (v := ?_) rfl (by kernel_rfl) (by kernel_rfl) (by kernel_rfl) (fun _ _ _ h => h) (Or.inl ⟨by rfl, ?_⟩) (by assumption) ?_; rotate_left; (focus (intro w hSw; (try dsimp only at hSw); go_simp; (try with_reducible rfl))); (try simp only [List.getElem_toArray, List.getElem_cons_zero, List.getElem_cons_succ, Act.put, List.setIfInBounds_toArray, List.set_cons_zero, List.set_cons_succ])); (refine wpAnyH_take (i := 28) (v := ?_) rfl (by kernel_rfl) (by kernel_rfl) (by kernel_rfl) (fun _ _ _ h => h) (Or.inl ⟨by rfl, ?_⟩) (by assumption) ?_; rotate_left; (focus (intro w hSw; (try dsimp only at hSw); go_simp; (try with_reducible rfl))); (try simp only [List.getElem_toArray, List.getElem_cons_zero, List.getElem_cons_succ, Act.put, List.setIfInBounds_toArray, List.set_cons_zero, List.set_cons_succ])); (refine wpAnyH_take (i := 29) (v := ?_) rfl (by kernel_rfl) (by kernel_rfl) (by kernel_rfl) (fun _ _ _ h => h) (Or.inl ⟨by rfl, ?_⟩) (by assumption) ?_; rotate_left; (focus (intro w hSw; (try dsimp only at hSw); go_simp; (try with_reducible rfl))); (try simp only [List.getElem_toArray, List.getElem_cons_zero, List.getElem_cons_succ, Act.put, List.setIfInBounds_toArray, List.set_cons_zero, List.set_cons_succ])); (refine wpAnyH_take (i := 30) (v := ?_) rfl (by kernel_rfl) (by kernel_rfl) (by kernel_rfl) (fun _ _ _ h => h) (Or.inl ⟨by rfl, ?_⟩) (by assumption) ?_; rotate_left; (focus (intro w hSw; (try dsimp only at hSw); go_simp; (try with_reducible rfl))); (try simp only [List.getElem_toArray, List.getElem_cons_zero, List.getElem_cons_succ, Act.put, List.setIfInBounds_toArray, List.set_cons_zero, List.set_cons_succ]))
            refine wpAnyH_ready (rs := [31]) (by kernel_rfl) (by simp) ?_; refine AllReadyH.cons rfl (fun K hK => ?_) AllReadyH.nil; go_simp
            go_at_call 23
            refine (isBetter_any N _ S fg fm _ (HBK.out.go (bel HB6.out HDI.out)) HRD.out h4 hfmn).mono ?_
            obtain ⟨bx, hbx⟩ : ∃ bx, bet (totI S) S.sz fg fm = bx := ⟨_, rfl⟩
            rw [hbx] at HBC ⊢
            clear hbx
            rintro e wK ⟨rfl, hbK⟩
            have HDK : Hid (Below w6.heap.size w6 wK) := bel HDI.out hbK
            have hSK := HSG.out wK HDK.out
            clear hbK hSI
            cases bx with
            | true =>
              refine hK.out _ _ hSK (fun hHeld => ?_); clear hK K; (try simp only [List.getElem_toArray, List.getElem_cons_zero, List.getElem_cons_succ, Act.put, List.setIfInBounds_toArray, List.set_cons_zero, List.set_cons_succ])
              (refine wpAnyH_take (i := 32) (v := ?_) rfl (by kernel_rfl) (by kernel_rfl) (by kernel_rfl) (fun _ _ _ h => h) (Or.inl ⟨by rfl, ?_⟩) (by assumption) ?_; rotate_left; (focus (intro w hSw; (try dsimp only at hSw); go_simp; (try with_reducible rfl))); (try simp only [List.getElem_toArray, List.getElem_cons_zero, List.getElem_cons_succ, Act.put, List.setIfInBounds_toArray, List.set_cons_zero, List.set_cons_succ])); (refine wpAnyH_take (i := 33) (v := ?_) rfl (by kernel_rfl) (by kernel_rfl) (by kernel_rfl) (fun _ _ _ h => h) (Or.inl ⟨by rfl, ?_⟩) (by assumption) ?_; rotate_left; (focus (intro w hSw; (try dsimp only at hSw); go_simp; (try with_reducible rfl))); (try simp only [List.getElem_toArray, List.getElem_cons_zero, List.getElem_cons_succ, Act.put, List.setIfInBounds_toArray, List.set_cons_zero, List.set_cons_succ]))
              (refine wpAnyH_take (i := 34) (v := undef) rfl (by kernel_rfl) (by kernel_rfl) (by kernel_rfl) (fun _ _ _ h => h) (Or.inr ⟨by rfl, rfl⟩) (by assumption) ?_; (try simp only [List.getElem_toArray, List.getElem_cons_zero, List.getElem_cons_succ, Act.put, List.setIfInBounds_toArray, List.set_cons_zero, List.set_cons_succ])); (refine wpAnyH_take (i := 35) (v := undef) rfl (by kernel_rfl) (by kernel_rfl) (by kernel_rfl) (fun _ _ _ h => h) (Or.inr ⟨by rfl, rfl⟩) (by assumption) ?_; (try simp only [List.getElem_toArray, List.getElem_cons_zero, List.getElem_cons_succ, Act.put, List.setIfInBounds_toArray, List.set_cons_zero, List.set_cons_succ])); (refine wpAnyH_take (i := 36) (v := undef) rfl (by kernel_rfl) (by kernel_rfl) (by kernel_rfl) (fun _ _ _ h => h) (Or.inr ⟨by rfl, rfl⟩) (by assumption) ?_; (try simp only [List.getElem_toArray, List.getElem_cons_zero, List.getElem_cons_succ, Act.put, List.setIfInBounds_toArray, List.set_cons_zero, List.set_cons_succ])); (refine wpAnyH_take (i := 37) (v := undef) rfl (by kernel_rfl) (by kernel_rfl) (by kernel_rfl) (fun _ _ _ h => h) (Or.inr ⟨by rfl, rfl⟩) (by assumption) ?_; (try simp only [List.getElem_toArray, List.getElem_cons_zero, List.getElem_cons_succ, Act.put, List.setIfInBounds_toArray, List.set_cons_zero, List.set_cons_succ])); (refine wpAnyH_take (i := 38) (v := undef) rfl (by kernel_rfl) (by kernel_rfl) (by kernel_rfl) (fun _ _ _ h => h) (Or.inr ⟨by rfl, rfl⟩) (by assumption) ?_; (try simp only [List.getElem_toArray, List.getElem_cons_zero, List.getElem_cons_succ, Act.put, List.setIfInBounds_toArray, List.set_cons_zero, List.set_cons_succ])); (refine wpAnyH_take (i := 39) (v := undef) rfl (by kernel_rfl) (by kernel_rfl) (by kernel_rfl) (fun _ _ _ h => h) (Or.inr ⟨by rfl, rfl⟩) (by assumption) ?_; (try simp only [List.getElem_toArray, List.getElem_cons_zero, List.getElem_cons_succ, Act.put, List.setIfInBounds_toArray, List.set_cons_zero, List.set_cons_succ])); (refine wpAnyH_take (i := 40) (v := undef) rfl (by kernel_rfl) (by kernel_rfl) (by kernel_rfl) (fun _ _ _ h => h) (Or.inr ⟨by rfl, rfl⟩) (by assumption) ?_; (try simp only [List.getElem_toArray, List.getElem_cons_zero, List.getElem_cons_succ, Act.put, List.setIfInBounds_toArray, List.set_cons_zero, List.set_cons_succ])); (refine wpAnyH_take (i := 41) (v := undef) rfl (by kernel_rfl) (by kernel_rfl) (by kernel_rfl) (fun _ _ _ h => h) (Or.inr ⟨by rfl, rfl⟩) (by assumption) ?_; (try simp only [List.getElem_toArray, List.getElem_cons_zero, List.getElem_cons_succ, Act.put, List.setIfInBounds_toArray, List.set_cons_zero, List.set_cons_succ])); (refine wpAnyH_take (i := 42) (v := undef) rfl (by kernel_rfl) (by kernel_rfl) (by kernel_rfl) (fun _ _ _ h => h) (Or.inr ⟨by rfl, rfl⟩) (by assumption) ?_; (try simp only [List.getElem_toArray, List.getElem_cons_zero, List.getElem_cons_succ, Act.put, List.setIfInBounds_toArray, List.set_cons_zero, List.set_cons_succ]))
              (refine wpAnyH_take (i := 43) (v := ?_) rfl (by kernel_rfl) (by kernel_rfl) (by kernel_rfl) (fun _ _ _ h => h) (Or.inl ⟨by rfl, ?_⟩) (by assumption) ?_; rotate_left; (focus (intro w hSw; (try dsimp only at hSw); go_simp; (try with_reducible rfl))); (try simp only [List.getElem_toArray, List.getElem_cons_zero, List.getElem_cons_succ, Act.put, List.setIfInBounds_toArray, List.set_cons_zero, List.set_cons_succ])); (refine wpAnyH_take (i := 44) (v := ?_) rfl (by kernel_rfl) (by kernel_rfl) (by kernel_rfl) (fun _ _ _ h => h) (Or.inl ⟨by rfl, ?_⟩) (by assumption) ?_; rotate_left; (focus (intro w hSw; (try dsimp only at hSw); go_simp; (try with_reducible rfl))); (try simp only [List.getElem_toArray, List.getElem_cons_zero, List.getElem_cons_succ, Act.put, List.setIfInBounds_toArray, List.set_cons_zero, List.set_cons_succ]))
              refine wpAnyH_done (by kernel_rfl) ?_ _; clear hHeld
              clear hSK
              go_wp2_with fail
              go_roundw
              case rel => exact ⟨g + 1, by omega, by go_num, HDK⟩
              case measure => simp [intOf]; omega
            | false =>
              have hlt := HBC.out rfl
              have hnl : ¬ (fm : Int) < (fg : Int) := by omega
              have hdl2 : decide ((fm : Int) < (fg : Int)) = false := decide_eq_false hnl
              have hdl3 : decide (fm < fg) = false := decide_eq_false (by omega)
              refine hK.out _ _ hSK (fun hHeld => ?_); clear hK K; (try simp only [List.getElem_toArray, List.getElem_cons_zero, List.getElem_cons_succ, Act.put, List.setIfInBounds_toArray, List.set_cons_zero, List.set_cons_succ])
              (refine wpAnyH_take (i := 32) (v := ?_) rfl (by kernel_rfl) (by kernel_rfl) (by kernel_rfl) (fun _ _ _ h => h) (Or.inl ⟨by rfl, ?_⟩) (by assumption) ?_; rotate_left; (focus (intro w hSw; (try dsimp only at hSw); go_simp; (try with_reducible rfl))); (try simp only [List.getElem_toArray, List.getElem_cons_zero, List.getElem_cons_succ, Act.put, List.setIfInBounds_toArray, List.set_cons_zero, List.set_cons_succ])); (refine wpAnyH_take (i := 33) (v := ?_) rfl (by kernel_rfl) (by kernel_rfl) (by kernel_rfl) (fun _ _ _ h => h) (Or.inl ⟨by rfl, ?_⟩) (by assumption) ?_; rotate_left; (focus (intro w hSw; (try dsimp only at hSw); go_simp; (try with_reducible rfl))); (try simp only [List.getElem_toArray, List.getElem_cons_zero, List.getElem_cons_succ, Act.put, List.setIfInBounds_toArray, List.set_cons_zero, List.set_cons_succ])); (refine wpAnyH_take (i := 34) (v := ?_) rfl (by kernel_rfl) (by kernel_rfl) (by kernel_rfl) (fun _ _ _ h => h) (Or.inl ⟨by rfl, ?_⟩) (by assumption) ?_; rotate_left; (focus (intro w hSw; (try dsimp only at hSw); go_simp; (try with_reducible rfl))); (try simp only [List.getElem_toArray, List.getElem_cons_zero, List.getElem_cons_succ, Act.put, List.setIfInBounds_toArray, List.set_cons_zero, List.set_cons_succ])); (refine wpAnyH_take (i := 35) (v := ?_) rfl (by kernel_rfl) (by kernel_rfl) (by kernel_rfl) (fun _ _ _ h => h) (Or.inl ⟨by rfl, ?_⟩) (by assumption) ?_; rotate_left; (focus (intro w hSw; (try dsimp only at hSw); go_simp; (try with_reducible rfl))); (try simp only [List.getElem_toArray, List.getElem_cons_zero, List.getElem_cons_succ, Act.put, List.setIfInBounds_toArray, List.set_cons_zero, List.set_cons_succ])); (refine wpAnyH_take (i := 36) (v := ?_) rfl (by kernel_rfl) (by kernel_rfl) (by kernel_rfl) (fun _ _ _ h => h) (Or.inl ⟨by rfl, ?_⟩) (by assumption) ?_; rotate_left; (focus (intro w hSw; (try dsimp only at hSw); go_simp; (try with_reducible rfl))); (try simp only [List.getElem_toArray, List.getElem_cons_zero, List.getElem_cons_succ, Act.put, List.setIfInBounds_toArray, List.set_cons_zero, List.set_cons_succ])); (refine wpAnyH_take (i := 37) (v := ?_) rfl (by kernel_rfl) (by kernel_rfl) (by kernel_rfl) (fun _ _ _ h => h) (Or.inl ⟨by rfl, ?_⟩) (by assumption) ?_; rotate_left; (focus (intro w hSw; (try dsimp only at hSw); go_simp; (try with_reducible rfl))); (try simp only [List.getElem_toArray, List.getElem_cons_zero, List.getElem_cons_succ, Act.put, List.setIfInBounds_toArray, List.set_cons_zero, List.set_cons_succ])); (refine wpAnyH_take (i := 38) (v := ?_) rfl (by kernel_rfl) (by kernel_rfl) (by kernel_rfl) (fun _ _ _ h => h) (Or.inl ⟨by rfl, ?_⟩) (by assumption) ?_; rotate_left; (focus (intro w hSw; (try dsimp only at hSw); go_simp; (try with_reducible rfl))); (try simp only [List.getElem_toArray, List.getElem_cons_zero, List.getElem_cons_succ, Act.put, List.setIfInBounds_toArray, List.set_cons_zero, List.set_cons_succ])); (refine wpAnyH_take (i := 39) (v := ?_) rfl (by kernel_rfl) (by kernel_rfl) (by kernel_rfl) (fun _ _ _ h => h) (Or.inl ⟨by rfl, ?_⟩) (by assumption) ?_; rotate_left; (focus (intro w hSw; (try dsimp only at hSw); go_simp; (try with_reducible rfl))); (try simp only [List.getElem_toArray, List.getElem_cons_zero, List.getElem_cons_succ, Act.put, List.setIfInBounds_toArray, List.set_cons_zero, List.set_cons_succ])); (refine wpAnyH_take (i := 40) (v := ?_) rfl (by kernel_rfl) (by kernel_rfl) (by kernel_rfl) (fun _ _ _ h => h) (Or.inl ⟨by rfl, ?_⟩) (by assumption) ?_; rotate_left; (focus (intro w hSw; (try dsimp only at hSw); go_simp; (try with_reducible rfl))); (try simp only [List.getElem_toArray, List.getElem_cons_zero, List.getElem_cons_succ, Act.put, List.setIfInBounds_toArray, List.set_cons_zero, List.set_cons_succ])); (refine wpAnyH_take (i := 41) (v := ?_) rfl (by kernel_rfl) (by kernel_rfl) (by kernel_rfl) (fun _ _ _ h => h) (Or.inl ⟨by rfl, ?_⟩) (by assumption) ?_; rotate_left; (focus (intro w hSw; (try dsimp only at hSw); go_simp; (try with_reducible rfl))); (try simp only [List.getElem_toArray, List.getElem_cons_zero, List.getElem_cons_succ, Act.put, List.setIfInBounds_toArray, List.set_cons_zero, List.set_cons_succ])); (refine wpAnyH_take (i := 42) (v := ?_) rfl (by kernel_rfl) (by kernel_rfl) (by kernel_rfl) (fun _ _ _ h => h) (Or.inl ⟨by rfl, ?_⟩) (by assumption) ?_; rotate_left; (focus (intro w hSw; (try dsimp only at hSw); go_simp; (try with_reducible rfl))); (try simp only [List.getElem_toArray, List.getElem_cons_zero, List.getElem_cons_succ, Act.put, List.setIfInBounds_toArray, List.set_cons_zero, List.set_cons_succ])); (refine wpAnyH_take (i := 43) (v := ?_) rfl (by kernel_rfl) (by kernel_rfl) (by kernel_rfl) (fun _ _ _ h => h) (Or.inl ⟨by rfl, ?_⟩) (by assumption) ?_; rotate_left; (focus (intro w hSw; (try dsimp only at hSw); go_simp; (try with_reducible rfl))); (try simp only [List.getElem_toArray, List.getElem_cons_zero, List.getElem_cons_succ, Act.put, List.setIfInBounds_toArray, List.set_cons_zero, List.set_cons_succ])); (refine wpAnyH_take (i := 44) (v := ?_) rfl (by kernel_rfl) (by kernel_rfl) (by kernel_rfl) (fun _ _ _ h => h) (Or.inl ⟨by rfl, ?_⟩) (by assumption) ?_; rotate_left; (focus (intro w hSw; (try dsimp only at hSw); go_simp; (try with_reducible rfl))); (try simp only [List.getElem_toArray, List.getElem_cons_zero, List.getElem_cons_succ, Act.put, List.setIfInBounds_toArray, List.set_cons_zero, List.set_cons_succ]))
              refine wpAnyH_done (by kernel_rfl) ?_ _; clear hHeld
              clear hSK
              go_wp2_with fail
              go_roundw
              case rel => exact ⟨g + 1, by omega, by go_num, HDK⟩
              case measure => simp [intOf]; omega
          · have hgi : ¬ (g : Int) < (m : Int) := by omega
            go_wp2_with fail
            go_roundw
            case rel => exact ⟨m + 1, by omega, by go_num, HDg⟩
            case measure => simp [intOf]; omega
      · have hmi : ¬ (m : Int) < (S.np : Int) := by omega
        have HBr : Hid (Below ws.heap.size ws wr) := bel HB6.out HDr.out
        obtain ⟨⟨⟨r0, r1, r2, r3⟩, m0, m1⟩, _, _, _⟩ := HSR.out wr HDr.out
        go_upto_region 20 with (go_at_call 35; refine (kSure_any N _ S 0 _ (HBK.out.go HBr.out) HES.out).mono ?_; rintro e wS ⟨u1, u2, rfl, hu1, hu2, hbS⟩; have HBS : Hid (Below ws.heap.size ws wS) := bel HBr.out hbS; have HU1 : Hid (OwnI wr.heap.size wS u1 (prL S 1 S.np)) := hu1; have HU2 : Hid (OwnI wr.heap.size wS u2 (prL S 2 S.np)) := hu2; clear hbS hu1 hu2)
        obtain ⟨b1, e1, rfl⟩ := HU1.out.form
        obtain ⟨b3, e3, rfl⟩ := HU2.out.form
        obtain ⟨n1, hn1⟩ : ∃ n1, (prL S 1 S.np).length = n1 := ⟨_, rfl⟩
        obtain ⟨n2, hn2⟩ : ∃ n2, (prL S 2 S.np).length = n2 := ⟨_, rfl⟩
        rw [hn1, hn2] at HSB
        rw [hn1] at HU1
        rw [hn1, hn2]
        have hsum : n1 + n2 = S.np := HSB.out
        have hwr : IntKind.i64.wrap ((n1 : Int) + (n2 : Int)) = (S.np : Int) := by rw [IntWalk.i64_in _ (by omega)]; omega
        have HN1 : Hid ((prL S 1 S.np).length ≤ 1000) := by unfold Hid; rw [hn1]; omega
        clear r0 r1 r2 r3 m0 m1 hn1 hn2 hsum HU2
        obtain ⟨⟨r0, r1, r2, r3⟩, m0, m1⟩ := HSQ.out wS HBS.out
        go_wp2_with (first
          | (go_at_call 41; refine (get_any N _ S _ (HBK.out.go HBS.out) HRD.out).mono ?_; rintro e wT ⟨uT, rfl, hoT, hbT⟩; have HBT : Hid (Below ws.heap.size ws wT) := bel HBS.out hbT; have HUT := Lib.hid (And.intro (HU1.out.go hbT) hoT); clear hbT hoT r0 r1 r2 r3 m0 m1; obtain ⟨⟨r0, r1, r2, r3⟩, m0, m1⟩ := HSQ.out wT HBT.out)
          | (go_at_call 40; refine (same_own _ _ _ _ (prL S 1 S.np) (getL S) _ HUT.out.1 HUT.out.2 HN1.out (Nat.le_trans (getL_len _) (by omega))).mono ?_; rw [decide_eq_true HPL.out]; rintro e wU ⟨rfl, hbU⟩; have HBU : Hid (Below ws.heap.size ws wU) := bel HBT.out hbU; clear hbU r0 r1 r2 r3 m0 m1; obtain ⟨⟨r0, r1, r2, r3⟩, m0, m1⟩ := HSQ.out wU HBU.out)
          | (go_at_call 13; refine (works_any _).mono ?_; rintro e wz ⟨rfl, hbz⟩; have HBz : Hid (Below ws.heap.size ws wz) := bel HBU.out hbz; clear hbz))
        go_ret
        exact ⟨rfl, fin HB.out HBz.out⟩

end Go.Proofs.Ytffnlimgjnhmpaa
