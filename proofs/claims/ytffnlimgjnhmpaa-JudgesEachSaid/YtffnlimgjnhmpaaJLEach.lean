/-
  JLEach: JudgesEach returns true.
-/
import Derived.Test.YtffnlimgjnhmpaaJPre
namespace Go.Proofs.Ytffnlimgjnhmpaa
open Go.RowKit

theorem isSo_eq (k : Int) (b v : Bool) (w : World) (h : (decide (k = 3) || ((decide (k = 1) && b) || (decide (k = 2) && !b))) = v) :
    Calls Try.prog 21 #[.int .i64 k, .bool b] w fun e w' => e = .returned (.bool v) ∧ w' = w := by
  rw [← h]; exact isSo_any k b w
theorem holds_eq (a b n : Int) (v : Bool) (w : World) (h : (decide (a ≤ n) && decide (n ≤ b)) = v) :
    Calls Try.prog 19 #[.agg #[.int .i64 a, .int .i64 b], .int .i64 n] w fun e w' => e = .returned (.bool v) ∧ Below w.heap.size w w' := by
  rw [← h]; exact holds_any a b n w
theorem so_prize {S : JB} {m : Nat → List Int} (h : ∀ i, i < S.np → Jdg (S.pts i) (m i)) {i : Nat} (hi : i < S.np) : (decide (prz S i = 3) || ((decide (prz S i = 1) && gotP (JGS S m) i) || (decide (prz S i = 2) && !gotP (JGS S m) i))) = true := by
  have e : gotP (JGS S m) i = decide ((placeN (fun j => tot S.D.toNat (m j)) S.sz S.np i : Int) ≤ S.Z) := rfl
  rw [e]
  rcases each_prize h hi with h1 | ⟨h1, h2⟩ | ⟨h1, h2⟩
  · rw [h1]; rfl
  · rw [h1, decide_eq_true h2]; rfl
  · rw [h1, decide_eq_false h2]; rfl
theorem so_better {S : JB} {m : Nat → List Int} (h : ∀ i, i < S.np → Jdg (S.pts i) (m i)) {i j : Nat} (hi : i < S.np) (hj : j < S.np) : (decide (kno S i j = 3) || ((decide (kno S i j = 1) && bet (totI (JGS S m)) S.sz i j) || (decide (kno S i j = 2) && !bet (totI (JGS S m)) S.sz i j))) = true := by
  have e : totI (JGS S m) = fun j => tot S.D.toNat (m j) := rfl
  rw [e]
  rcases each_better h hi hj with h1 | ⟨h1, h2⟩ | ⟨h1, h2⟩
  · rw [h1]; rfl
  · rw [h1, h2]; rfl
  · rw [h1, h2]; rfl
theorem got_min (S : JB) (m : Nat → List Int) (hz : 0 ≤ S.Z) : min S.Z (S.np : Int) ≤ (cnt S.np (gotP (JGS S m)) : Nat) := by
  rw [← cnt_range]
  exact many_min (t := totI (JGS S m)) (s := S.sz) (np := S.np) S.Z hz

set_option maxHeartbeats 6400000 in
set_option maxRecDepth 100000 in
theorem ceach_any (N : Nat) (v u : Value) (S : JB) (F : List Int) (w : World) (h : ShowAt N w v S) (hf : LI N w u F) :
    Calls Try.prog 3 #[v, u] w fun e w' => e = .returned (.bool true) ∧ Below w.heap.size w w' := by
  have hN := h.1
  obtain ⟨a1, c1, rfl⟩ := h.form
  obtain ⟨ws, hws, HB, hsz, hblk⟩ := box1 w (.cells #[.int .i64 S.J, .int .i64 S.D, .int .i64 S.Z, .slice a1 S.np c1] 24)
  have q0 := cell_blk hblk 0 rfl
  have q1 := cell_blk hblk 1 rfl
  have q2 := cell_blk hblk 2 rfl
  have q3 := cell_blk hblk 3 rfl
  have HNZ : Hid (N ≤ w.heap.size) := h.1
  have HBK := Lib.hid (h.go HB.out)
  have HB0 : Hid (Below ws.heap.size ws ws) := Below.refl _ _
  have HNS : Hid (N ≤ ws.heap.size) := HBK.out.1
  have hlen := h.len
  clear hblk h
  have HSQ : Hid (∀ W, Below ws.heap.size ws W → (W.cell? ⟨w.heap.size, 0, none⟩ = some (.int .i64 S.J) ∧ W.cell? ⟨w.heap.size, 1, none⟩ = some (.int .i64 S.D) ∧ W.cell? ⟨w.heap.size, 2, none⟩ = some (.int .i64 S.Z) ∧ W.cell? ⟨w.heap.size, 3, none⟩ = some (.slice a1 S.np c1))) := fun W hW => ⟨(hW.cell (p := ⟨w.heap.size, 0, none⟩) hsz).trans q0, (hW.cell (p := ⟨w.heap.size, 1, none⟩) hsz).trans q1, (hW.cell (p := ⟨w.heap.size, 2, none⟩) hsz).trans q2, (hW.cell (p := ⟨w.heap.size, 3, none⟩) hsz).trans q3⟩
  have HFL : Hid (LI N ws u F) := hf.go hN HB.out
  obtain ⟨nF, hnF⟩ : ∃ nF, F.length = nF := ⟨_, rfl⟩
  obtain ⟨aF, cF, rfl⟩ : ∃ a c, u = .slice a nF c := by
    obtain ⟨a, c, e, _⟩ := hf
    rw [hnF] at e
    exact ⟨a, c, e⟩
  clear hf hnF hlen
  cases hre : (!farS S && okS S) with
  | false =>
    have HRE := Lib.hid hre
    clear hre
    go_enter Try.func3, Try.ntmps3
    go_wp2_with (first
      | (go_at_call 12; refine (ready_any N _ S _ HBK.out).mono ?_; rw [HRE.out]; rintro e w1 ⟨rfl, hb1⟩; have HB1 : Hid (Below ws.heap.size ws w1) := hb1; clear hb1 q0 q1 q2 q3; obtain ⟨r0, r1, r2, r3⟩ := HSQ.out w1 HB1.out)
      | (go_at_call 13; refine (works_any _).mono ?_; rintro e wz ⟨rfl, hbz⟩; have HBz : Hid (Below ws.heap.size ws wz) := bel HB1.out hbz; clear hbz))
    go_ret
    exact ⟨rfl, fin HB.out HBz.out⟩
  | true =>
  have HRE := Lib.hid hre
  obtain ⟨hfar, hok⟩ : farS S = false ∧ okS S = true := by simpa using hre
  clear hre
  by_cases hF40 : 40 < nF
  · have hFi : (40 : Int) < (nF : Int) := by omega
    clear hfar hok
    go_enter Try.func3, Try.ntmps3
    go_wp2_with (first
      | (go_at_call 12; refine (ready_any N _ S _ HBK.out).mono ?_; rw [HRE.out]; rintro e w1 ⟨rfl, hb1⟩; have HB1 : Hid (Below ws.heap.size ws w1) := hb1; clear hb1 q0 q1 q2 q3; obtain ⟨r0, r1, r2, r3⟩ := HSQ.out w1 HB1.out)
      | (go_at_call 13; refine (works_any _).mono ?_; rintro e wz ⟨rfl, hbz⟩; have HBz : Hid (Below ws.heap.size ws wz) := bel HB1.out hbz; clear hbz))
    go_ret
    exact ⟨rfl, fin HB.out HBz.out⟩
  have hFi : ¬ (40 : Int) < (nF : Int) := by omega
  have HG := Lib.hid (okS_good hok)
  have hnp6 := HG.out.np
  have HOK := Lib.hid hok
  obtain ⟨dn, hdn⟩ : ∃ dn : Nat, S.D = dn := ⟨S.D.toNat, by have := HG.out.D0; omega⟩
  have HDN := Lib.hid hdn
  clear hfar hok hdn
  go_enter Try.func3, Try.ntmps3
  go_upto_region 3 with (go_at_call 12; refine (ready_any N _ S _ HBK.out).mono ?_; rw [HRE.out]; rintro e w1 ⟨rfl, hb1⟩; have HB1 : Hid (Below ws.heap.size ws w1) := hb1; clear hb1 q0 q1 q2 q3; obtain ⟨r0, r1, r2, r3⟩ := HSQ.out w1 HB1.out)
  clear hws
  go_upto_region 4 with (go_at_call 14; refine (judged_any N _ _ S F _ (HBK.out.go HB1.out) (HFL.out.go HNS.out HB1.out) HG.out).mono ?_; rintro e w8 ⟨v8, mm, rfl, ho8, hj8, hb8⟩; have HB8 : Hid (Below ws.heap.size ws w8) := bel HB1.out hb8; have hgj := jgs_good HG.out hj8; have hs8 := ho8.show (by show S.np ≤ 1000; omega) (fun i hi => by have h1 := hgj.len i hi; have h2 := hgj.J5; omega); obtain ⟨a8, c8, e8⟩ : ∃ a c, v8 = .agg #[.int .i64 S.J, .int .i64 S.D, .int .i64 S.Z, .slice a S.np c] := hs8.form; subst e8; have HS8 := Lib.hid hs8; have HJ8 := Lib.hid hj8; have HGJ := Lib.hid hgj; clear hb8 ho8 hj8 hs8 hgj; obtain ⟨wo, hwo, HBo, hszo, hblko⟩ := box1 w8 (.cells #[.int .i64 0, .int .i64 0, .int .i64 0, .slice none 0 0] 24); have HZo := Lib.hid hblko; have z0 := cell_blk hblko 0 rfl; have z1 := cell_blk hblko 1 rfl; have z2 := cell_blk hblko 2 rfl; have z3 := cell_blk hblko 3 rfl; have f0 := free_blk hblko 0; have f1 := free_blk hblko 1; have f2 := free_blk hblko 2; have f3 := free_blk hblko 3; clear hblko)
  obtain ⟨w9, hw9, hz9, ho9, hb9⟩ := put4o HZo.out (.int .i64 S.J) (.int .i64 S.D) (.int .i64 S.Z) (.slice a8 S.np c8)
  rw [hw9]
  have hb89 : Below w8.heap.size w8 w9 := HBo.out.trans hb9
  have HB9 : Hid (Below ws.heap.size ws w9) := bel HB8.out hb89
  have hs9 := HS8.out.go hb89
  have hs89 := hb89.size
  obtain ⟨O, hO⟩ : ∃ O, w8.heap.size = O := ⟨_, rfl⟩
  rw [hO] at hz9 hs9 hs89 ⊢
  have HZ9 := Lib.hid hz9
  have hol := heap_lt hz9
  have HS9 := Lib.hid hs9
  clear hwo hszo z0 z1 z2 z3 f0 f1 f2 f3 hw9 hz9 ho9 hb9 HZo HBo hb89 hO HS8 hs9 r0 r1 r2 r3
  have HSR : Hid (∀ W, Below w9.heap.size w9 W → (((W.cell? ⟨w.heap.size, 0, none⟩ = some (.int .i64 S.J) ∧ W.cell? ⟨w.heap.size, 1, none⟩ = some (.int .i64 S.D) ∧ W.cell? ⟨w.heap.size, 2, none⟩ = some (.int .i64 S.Z) ∧ W.cell? ⟨w.heap.size, 3, none⟩ = some (.slice a1 S.np c1))) ∧ (W.cell? ⟨O, 0, none⟩ = some (.int .i64 S.J) ∧ W.cell? ⟨O, 1, none⟩ = some (.int .i64 S.D) ∧ W.cell? ⟨O, 2, none⟩ = some (.int .i64 S.Z) ∧ W.cell? ⟨O, 3, none⟩ = some (.slice a8 S.np c8)))) := fun W hW => by
    have hz := (hW.block O hol).trans HZ9.out
    exact ⟨HSQ.out W (bel HB9.out hW), cell_blk hz 0 rfl, cell_blk hz 1 rfl, cell_blk hz 2 rfl, cell_blk hz 3 rfl⟩
  have HC0 : Hid (Below w9.heap.size w9 w9) := Below.refl _ _
  obtain ⟨⟨r0, r1, r2, r3⟩, o0, o1, o2, o3⟩ := HSR.out w9 HC0.out
  go_wp2_with fail
  clear r0 r1 r2 r3 o0 o1 o2 o3
  go_loopw [6, 7] (fun mv i wr => ∃ k : Nat, k ≤ S.np ∧ mv = .int .i64 (cnt k (gotP (JGS S mm)) : Nat) ∧ i = .int .i64 k ∧ Hid (Below w9.heap.size w9 wr)) (fun _ i _ => S.np - (intOf i).toNat)
  case atStart => exact ⟨0, Nat.zero_le _, rfl, rfl, HC0⟩
  case round =>
    obtain ⟨k, hk, rfl, rfl, HCr⟩ := hrel
    obtain ⟨⟨r0, r1, r2, r3⟩, o0, o1, o2, o3⟩ := HSR.out wr HCr.out
    obtain ⟨cn, hcn⟩ : ∃ cn, cnt k (gotP (JGS S mm)) = cn := ⟨_, rfl⟩
    have HCN := Lib.hid hcn
    have hcnk : cn ≤ k := by rw [← hcn]; exact cnt_le _ _
    rw [hcn]
    clear hcn
    by_cases hkn : k < S.np
    · have hki : (k : Int) < (S.np : Int) := by omega
      obtain ⟨A, C, _, hnpe, hrows, hcells⟩ := HS9.out.plates.open
      clear hnpe
      obtain ⟨b, off, hab, hbO, hrr⟩ := hcells (by show 0 < S.np; omega)
      obtain rfl : a8 = some ⟨b, off, none⟩ := hab
      obtain ⟨L, hL⟩ : ∃ L, (mm k).length = L := ⟨_, rfl⟩
      have dk : w9.cell? ⟨b, off + k * 2 + 1, none⟩ = some (.slice (A k) (mm k).length (C k)) := (hrr k hkn).2
      have hli : LI O w9 (.slice (A k) (mm k).length (C k)) (mm k) := (hrows k hkn).2
      rw [hL] at dk hli
      have HLI := Lib.hid hli
      have h2d : 2 * dn ≤ (mm k).length := by
        have h1 : ((mm k).length : Int) = S.J := HGJ.out.len k hkn
        have h2 : 2 * S.D < S.J := HGJ.out.DJ
        have h3 := HDN.out
        omega
      have hl5 : (mm k).length ≤ 40 := by
        have h1 : ((mm k).length : Int) = S.J := HGJ.out.len k hkn
        have h2 := HG.out.J5
        omega
      have HTO := Lib.hid (And.intro hl5 h2d)
      have HPT : Hid (∀ x, x ∈ mm k → -1 ≤ x ∧ x ≤ 1000) := fun x hx => by have := HGJ.out.pt k hkn x hx; omega
      have HDK : Hid (∀ W, Below w9.heap.size w9 W → W.cell? ⟨b, off + k * 2 + 1, none⟩ = some (.slice (A k) L (C k))) := fun W hW => (hW.cell (p := ⟨b, off + k * 2 + 1, none⟩) (by show b < _; omega)).trans dk
      have hin : inN (k : Int) S.np = true := by unfold inN; simp; exact hkn
      have HET : Hid (errA (okS S) (inN (k : Int) S.np) = 0) := by unfold Hid; rw [HOK.out, hin]; rfl
      obtain ⟨lo, hlo⟩ : ∃ x, loT S k = x := ⟨_, rfl⟩
      obtain ⟨hi, hhi⟩ : ∃ x, hiT S k = x := ⟨_, rfl⟩
      obtain ⟨pl, hpl⟩ : ∃ x : Int, ((plLo S k : Nat) : Int) = x := ⟨_, rfl⟩
      obtain ⟨ph, hph⟩ : ∃ x : Int, ((plHi S k : Nat) : Int) = x := ⟨_, rfl⟩
      obtain ⟨z, hz⟩ : ∃ x, prz S k = x := ⟨_, rfl⟩
      obtain ⟨tv, htv⟩ : ∃ x, tot dn (mm k) = x := ⟨_, rfl⟩
      obtain ⟨pv, hpv⟩ : ∃ x, plc (JGS S mm) k = x := ⟨_, rfl⟩
      obtain ⟨gb, hgb⟩ : ∃ x, gotP (JGS S mm) k = x := ⟨_, rfl⟩
      have HVL : Hid (sp 0 (loT S (k : Int).toNat) = lo ∧ sp 0 (hiT S (k : Int).toNat) = hi ∧ sp 0 ((plLo S (k : Int).toNat : Nat) : Int) = pl ∧ sp 0 ((plHi S (k : Int).toNat : Nat) : Int) = ph ∧ sp 0 (prz S (k : Int).toNat) = z) := by
        unfold Hid; rw [Int.toNat_natCast, sp_ok, sp_ok, sp_ok, sp_ok, sp_ok]; exact ⟨hlo, hhi, hpl, hph, hz⟩
      have HTV := Lib.hid htv
      have HPV := Lib.hid hpv
      have HH1 : Hid ((decide (lo ≤ tv) && decide (tv ≤ hi)) = true) := by
        have h1 := each_total HJ8.out hkn
        rw [HDN.out, Int.toNat_natCast, htv, hlo, hhi] at h1
        unfold Hid; rw [decide_eq_true h1.1, decide_eq_true h1.2]; rfl
      have HH2 : Hid ((decide (pl ≤ (pv : Int)) && decide ((pv : Int) ≤ ph)) = true) := by
        have h1 := each_place HJ8.out hkn
        have h2 : placeN (fun j => tot S.D.toNat (mm j)) S.sz S.np k = pv := hpv
        rw [h2] at h1
        unfold Hid
        rw [decide_eq_true (show pl ≤ (pv : Int) by omega), decide_eq_true (show (pv : Int) ≤ ph by omega)]; rfl
      have HH3 : Hid ((decide (z = 3) || ((decide (z = 1) && gb) || (decide (z = 2) && !gb))) = true) := by
        have h1 := so_prize HJ8.out hkn
        rw [hz, hgb] at h1; exact h1
      have hgd : decide ((pv : Int) ≤ S.Z) = gb := by rw [← hgb, ← hpv]; rfl
      have HCG : Hid (cnt (k + 1) (gotP (JGS S mm)) = if gb then cn + 1 else cn) := by
        unfold Hid
        cases gb with
        | true => rw [cnt_hit hgb, HCN.out]; rfl
        | false => rw [cnt_miss hgb, HCN.out]; rfl
      clear hlo hhi hpl hph hz htv hpv hgb h2d hl5 hrows hcells hrr dk hli hin hL
      have HBr : Hid (Below ws.heap.size ws wr) := bel HB9.out HCr.out
      go_upto_region 9 with (go_at_call 15; refine (kTotal_any N _ S _ 0 _ (HBK.out.go HBr.out) HET.out).mono ?_; rw [HVL.out.1, HVL.out.2.1]; rintro e wa ⟨rfl, hba⟩; have HCa : Hid (Below w9.heap.size w9 wa) := bel HCr.out hba; clear hba; (obtain ⟨wo, hwo, HBo, hszo, hblko⟩ := box1 wa (.cells #[.int .i64 0, .int .i64 0] 30); have HZo := Lib.hid hblko; have z0 := cell_blk hblko 0 rfl; have z1 := cell_blk hblko 1 rfl; have f0 := free_blk hblko 0; have f1 := free_blk hblko 1; clear hblko))
      obtain ⟨wb, hwb, hzb, hob, hbb⟩ := put2o HZo.out (.int .i64 lo) (.int .i64 hi)
      rw [hwb]
      have hbab : Below wa.heap.size wa wb := HBo.out.trans hbb
      have HCb : Hid (Below w9.heap.size w9 wb) := bel HCa.out hbab
      obtain ⟨P1, hP⟩ : ∃ P, wa.heap.size = P := ⟨_, rfl⟩
      rw [hP] at hzb ⊢
      have HZb := Lib.hid hzb
      have hPb := heap_lt hzb
      clear hwo hszo z0 z1 f0 f1 hwb hzb hob hbb HZo HBo hbab hP r0 r1 r2 r3 o0 o1 o2 o3
      obtain ⟨⟨r0, r1, r2, r3⟩, o0, o1, o2, o3⟩ := HSR.out wb HCb.out
      have HBb : Hid (Below ws.heap.size ws wb) := bel HB9.out HCb.out
      go_upto_region 10 with (go_at_call 16; refine (kPlace_any N _ S _ 0 _ (HBK.out.go HBb.out) HET.out).mono ?_; rw [HVL.out.2.2.1, HVL.out.2.2.2.1]; rintro e wc ⟨rfl, hbc⟩; have HCc : Hid (Below w9.heap.size w9 wc) := bel HCb.out hbc; have HZc := Lib.hid ((hbc.block _ hPb).trans HZb.out); clear hbc; (obtain ⟨wo, hwo, HBo, hszo, hblko⟩ := box1 wc (.cells #[.int .i64 0, .int .i64 0] 30); have HZo := Lib.hid hblko; have z0 := cell_blk hblko 0 rfl; have z1 := cell_blk hblko 1 rfl; have f0 := free_blk hblko 0; have f1 := free_blk hblko 1; clear hblko))
      obtain ⟨wd, hwd, hzd, hod, hbd⟩ := put2o HZo.out (.int .i64 pl) (.int .i64 ph)
      rw [hwd]
      have hbcd : Below wc.heap.size wc wd := HBo.out.trans hbd
      have HCd : Hid (Below w9.heap.size w9 wd) := bel HCc.out hbcd
      have HZ1d := Lib.hid ((hbcd.block _ (heap_lt HZc.out)).trans HZc.out)
      obtain ⟨P2, hP⟩ : ∃ P, wc.heap.size = P := ⟨_, rfl⟩
      rw [hP] at hzd ⊢
      have HZ2d := Lib.hid hzd
      have hP1d := heap_lt HZ1d.out
      have hP2d := heap_lt hzd
      clear hwo hszo z0 z1 f0 f1 hwd hzd hod hbd HZo HBo hbcd hP r0 r1 r2 r3 o0 o1 o2 o3
      have HSX : Hid (∀ W, Below wd.heap.size wd W → (((((W.cell? ⟨w.heap.size, 0, none⟩ = some (.int .i64 S.J) ∧ W.cell? ⟨w.heap.size, 1, none⟩ = some (.int .i64 S.D) ∧ W.cell? ⟨w.heap.size, 2, none⟩ = some (.int .i64 S.Z) ∧ W.cell? ⟨w.heap.size, 3, none⟩ = some (.slice a1 S.np c1))) ∧ (W.cell? ⟨O, 0, none⟩ = some (.int .i64 S.J) ∧ W.cell? ⟨O, 1, none⟩ = some (.int .i64 S.D) ∧ W.cell? ⟨O, 2, none⟩ = some (.int .i64 S.Z) ∧ W.cell? ⟨O, 3, none⟩ = some (.slice (some ⟨b, off, none⟩) S.np c8)))) ∧ W.cell? ⟨b, off + k * 2 + 1, none⟩ = some (.slice (A k) L (C k)) ∧ (W.cell? ⟨P1, 0, none⟩ = some (.int .i64 lo) ∧ W.cell? ⟨P1, 1, none⟩ = some (.int .i64 hi)) ∧ (W.cell? ⟨P2, 0, none⟩ = some (.int .i64 pl) ∧ W.cell? ⟨P2, 1, none⟩ = some (.int .i64 ph)))) := fun W hW => by
        have hc := bel HCd.out hW
        have h1 := (hW.block _ hP1d).trans HZ1d.out
        have h2 := (hW.block _ hP2d).trans HZ2d.out
        exact ⟨HSR.out W hc, HDK.out W hc, ⟨cell_blk h1 0 rfl, cell_blk h1 1 rfl⟩, cell_blk h2 0 rfl, cell_blk h2 1 rfl⟩
      have HBd : Hid (Below ws.heap.size ws wd) := bel HB9.out HCd.out
      have HD0 : Hid (Below wd.heap.size wd wd) := Below.refl _ _
      obtain ⟨⟨⟨r0, r1, r2, r3⟩, o0, o1, o2, o3⟩, _, _, _⟩ := HSX.out wd HD0.out
      go_upto_region 11 with (go_at_call 17; refine (kPrize_any N _ S _ 0 _ (HBK.out.go HBd.out) HET.out).mono ?_; rw [HVL.out.2.2.2.2]; rintro e we ⟨rfl, hbe⟩; have HDe : Hid (Below wd.heap.size wd we) := hbe; clear hbe)
      clear r0 r1 r2 r3 o0 o1 o2 o3
      have hSe := HSX.out we HDe.out
      refine wp_region_held_drew (S := fun W => (((((W.cell? ⟨w.heap.size, 0, none⟩ = some (.int .i64 S.J) ∧ W.cell? ⟨w.heap.size, 1, none⟩ = some (.int .i64 S.D) ∧ W.cell? ⟨w.heap.size, 2, none⟩ = some (.int .i64 S.Z) ∧ W.cell? ⟨w.heap.size, 3, none⟩ = some (.slice a1 S.np c1))) ∧ (W.cell? ⟨O, 0, none⟩ = some (.int .i64 S.J) ∧ W.cell? ⟨O, 1, none⟩ = some (.int .i64 S.D) ∧ W.cell? ⟨O, 2, none⟩ = some (.int .i64 S.Z) ∧ W.cell? ⟨O, 3, none⟩ = some (.slice (some ⟨b, off, none⟩) S.np c8)))) ∧ W.cell? ⟨b, off + k * 2 + 1, none⟩ = some (.slice (A k) L (C k)) ∧ (W.cell? ⟨P1, 0, none⟩ = some (.int .i64 lo) ∧ W.cell? ⟨P1, 1, none⟩ = some (.int .i64 hi)) ∧ (W.cell? ⟨P2, 0, none⟩ = some (.int .i64 pl) ∧ W.cell? ⟨P2, 1, none⟩ = some (.int .i64 ph)))) (by kernel_rfl) hSe (fun hHeld => ?_)
      (refine wpAnyH_take (i := 0) (v := ?_) rfl (by kernel_rfl) (by kernel_rfl) (by kernel_rfl) (fun _ _ _ h => h) (Or.inl ⟨by rfl, ?_⟩) (by assumption) ?_; rotate_left; (focus (intro w hSw; (try dsimp only at hSw); go_simp; (try with_reducible rfl))); (try simp only [List.getElem_toArray, List.getElem_cons_zero, List.getElem_cons_succ, Act.put, List.setIfInBounds_toArray, List.set_cons_zero, List.set_cons_succ])); (refine wpAnyH_take (i := 1) (v := ?_) rfl (by kernel_rfl) (by kernel_rfl) (by kernel_rfl) (fun _ _ _ h => h) (Or.inl ⟨by rfl, ?_⟩) (by assumption) ?_; rotate_left; (focus (intro w hSw; (try dsimp only at hSw); go_simp; (try with_reducible rfl))); (try simp only [List.getElem_toArray, List.getElem_cons_zero, List.getElem_cons_succ, Act.put, List.setIfInBounds_toArray, List.set_cons_zero, List.set_cons_succ]))
      (refine wpAnyH_take (i := 3) (v := ?_) rfl (by kernel_rfl) (by kernel_rfl) (by kernel_rfl) (fun _ _ _ h => h) (Or.inl ⟨by rfl, ?_⟩) (by assumption) ?_; rotate_left; (focus (intro w hSw; (try dsimp only at hSw); go_simp; (try with_reducible rfl))); (try simp only [List.getElem_toArray, List.getElem_cons_zero, List.getElem_cons_succ, Act.put, List.setIfInBounds_toArray, List.set_cons_zero, List.set_cons_succ])); (refine wpAnyH_take (i := 4) (v := ?_) rfl (by kernel_rfl) (by kernel_rfl) (by kernel_rfl) (fun _ _ _ h => h) (Or.inl ⟨by rfl, ?_⟩) (by assumption) ?_; rotate_left; (focus (intro w hSw; (try dsimp only at hSw); go_simp; (try with_reducible rfl))); (try simp only [List.getElem_toArray, List.getElem_cons_zero, List.getElem_cons_succ, Act.put, List.setIfInBounds_toArray, List.set_cons_zero, List.set_cons_succ]))
      refine wpAnyH_ready (rs := [2]) (by kernel_rfl) (by simp) ?_; refine AllReadyH.cons rfl (fun K hK => ?_) AllReadyH.nil; go_simp
      go_at_call 18
      refine (placeOf_any O _ (JGS S mm) k _ (HS9.out.go (bel HCd.out HDe.out.drew)) HGJ.out.rd hkn).mono ?_
      rw [HPV.out]
      rintro e wf ⟨rfl, hbf⟩
      have HDf : Hid (Below wd.heap.size wd wf) := bel HDe.out ((Below.refl _ _).drew.trans hbf)
      have hSf := HSX.out wf HDf.out
      clear hbf hSe
      refine hK.out _ _ hSf (fun hHeld => ?_); clear hK K; (try simp only [List.getElem_toArray, List.getElem_cons_zero, List.getElem_cons_succ, Act.put, List.setIfInBounds_toArray, List.set_cons_zero, List.set_cons_succ])
      (refine wpAnyH_take (i := 5) (v := ?_) rfl (by kernel_rfl) (by kernel_rfl) (by kernel_rfl) (fun _ _ _ h => h) (Or.inl ⟨by rfl, ?_⟩) (by assumption) ?_; rotate_left; (focus (intro w hSw; (try dsimp only at hSw); go_simp; (try with_reducible rfl))); (try simp only [List.getElem_toArray, List.getElem_cons_zero, List.getElem_cons_succ, Act.put, List.setIfInBounds_toArray, List.set_cons_zero, List.set_cons_succ])); (refine wpAnyH_take (i := 6) (v := ?_) rfl (by kernel_rfl) (by kernel_rfl) (by kernel_rfl) (fun _ _ _ h => h) (Or.inl ⟨by rfl, ?_⟩) (by assumption) ?_; rotate_left; (focus (intro w hSw; (try dsimp only at hSw); go_simp; (try with_reducible rfl))); (try simp only [List.getElem_toArray, List.getElem_cons_zero, List.getElem_cons_succ, Act.put, List.setIfInBounds_toArray, List.set_cons_zero, List.set_cons_succ]))
      refine wpAnyH_done (by kernel_rfl) ?_ _; clear hHeld
      clear hSf
      go_upto_region 12 with fail
      have hkj : k < (JGS S mm).np := hkn
      have hkji : (k : Int) < (((JGS S mm).np : Nat) : Int) := hki
      have hSf := HSX.out wf HDf.out
      refine wp_region_held_drew (S := fun W => (((((W.cell? ⟨w.heap.size, 0, none⟩ = some (.int .i64 S.J) ∧ W.cell? ⟨w.heap.size, 1, none⟩ = some (.int .i64 S.D) ∧ W.cell? ⟨w.heap.size, 2, none⟩ = some (.int .i64 S.Z) ∧ W.cell? ⟨w.heap.size, 3, none⟩ = some (.slice a1 S.np c1))) ∧ (W.cell? ⟨O, 0, none⟩ = some (.int .i64 S.J) ∧ W.cell? ⟨O, 1, none⟩ = some (.int .i64 S.D) ∧ W.cell? ⟨O, 2, none⟩ = some (.int .i64 S.Z) ∧ W.cell? ⟨O, 3, none⟩ = some (.slice (some ⟨b, off, none⟩) S.np c8)))) ∧ W.cell? ⟨b, off + k * 2 + 1, none⟩ = some (.slice (A k) L (C k)) ∧ (W.cell? ⟨P1, 0, none⟩ = some (.int .i64 lo) ∧ W.cell? ⟨P1, 1, none⟩ = some (.int .i64 hi)) ∧ (W.cell? ⟨P2, 0, none⟩ = some (.int .i64 pl) ∧ W.cell? ⟨P2, 1, none⟩ = some (.int .i64 ph)))) (by kernel_rfl) hSf (fun hHeld => ?_)
      (refine wpAnyH_take (i := 0) (v := ?_) rfl (by kernel_rfl) (by kernel_rfl) (by kernel_rfl) (fun _ _ _ h => h) (Or.inl ⟨by rfl, ?_⟩) (by assumption) ?_; rotate_left; (focus (intro w hSw; (try dsimp only at hSw); go_simp; (try with_reducible rfl))); (try simp only [List.getElem_toArray, List.getElem_cons_zero, List.getElem_cons_succ, Act.put, List.setIfInBounds_toArray, List.set_cons_zero, List.set_cons_succ])); (refine wpAnyH_take (i := 1) (v := ?_) rfl (by kernel_rfl) (by kernel_rfl) (by kernel_rfl) (fun _ _ _ h => h) (Or.inl ⟨by rfl, ?_⟩) (by assumption) ?_; rotate_left; (focus (intro w hSw; (try dsimp only at hSw); go_simp; (try with_reducible rfl))); (try simp only [List.getElem_toArray, List.getElem_cons_zero, List.getElem_cons_succ, Act.put, List.setIfInBounds_toArray, List.set_cons_zero, List.set_cons_succ])); (refine wpAnyH_take (i := 2) (v := ?_) rfl (by kernel_rfl) (by kernel_rfl) (by kernel_rfl) (fun _ _ _ h => h) (Or.inl ⟨by rfl, ?_⟩) (by assumption) ?_; rotate_left; (focus (intro w hSw; (try dsimp only at hSw); go_simp; (try with_reducible rfl))); (try simp only [List.getElem_toArray, List.getElem_cons_zero, List.getElem_cons_succ, Act.put, List.setIfInBounds_toArray, List.set_cons_zero, List.set_cons_succ])); (refine wpAnyH_take (i := 3) (v := ?_) rfl (by kernel_rfl) (by kernel_rfl) (by kernel_rfl) (fun _ _ _ h => h) (Or.inl ⟨by rfl, ?_⟩) (by assumption) ?_; rotate_left; (focus (intro w hSw; (try dsimp only at hSw); go_simp; (try with_reducible rfl))); (try simp only [List.getElem_toArray, List.getElem_cons_zero, List.getElem_cons_succ, Act.put, List.setIfInBounds_toArray, List.set_cons_zero, List.set_cons_succ])); (refine wpAnyH_take (i := 4) (v := ?_) rfl (by kernel_rfl) (by kernel_rfl) (by kernel_rfl) (fun _ _ _ h => h) (Or.inl ⟨by rfl, ?_⟩) (by assumption) ?_; rotate_left; (focus (intro w hSw; (try dsimp only at hSw); go_simp; (try with_reducible rfl))); (try simp only [List.getElem_toArray, List.getElem_cons_zero, List.getElem_cons_succ, Act.put, List.setIfInBounds_toArray, List.set_cons_zero, List.set_cons_succ])); (refine wpAnyH_take (i := 5) (v := ?_) rfl (by kernel_rfl) (by kernel_rfl) (by kernel_rfl) (fun _ _ _ h => h) (Or.inl ⟨by rfl, ?_⟩) (by assumption) ?_; rotate_left; (focus (intro w hSw; (try dsimp only at hSw); go_simp; (try with_reducible rfl))); (try simp only [List.getElem_toArray, List.getElem_cons_zero, List.getElem_cons_succ, Act.put, List.setIfInBounds_toArray, List.set_cons_zero, List.set_cons_succ])); (refine wpAnyH_take (i := 6) (v := ?_) rfl (by kernel_rfl) (by kernel_rfl) (by kernel_rfl) (fun _ _ _ h => h) (Or.inl ⟨by rfl, ?_⟩) (by assumption) ?_; rotate_left; (focus (intro w hSw; (try dsimp only at hSw); go_simp; (try with_reducible rfl))); (try simp only [List.getElem_toArray, List.getElem_cons_zero, List.getElem_cons_succ, Act.put, List.setIfInBounds_toArray, List.set_cons_zero, List.set_cons_succ])); (refine wpAnyH_take (i := 7) (v := ?_) rfl (by kernel_rfl) (by kernel_rfl) (by kernel_rfl) (fun _ _ _ h => h) (Or.inl ⟨by rfl, ?_⟩) (by assumption) ?_; rotate_left; (focus (intro w hSw; (try dsimp only at hSw); go_simp; (try with_reducible rfl))); (try simp only [List.getElem_toArray, List.getElem_cons_zero, List.getElem_cons_succ, Act.put, List.setIfInBounds_toArray, List.set_cons_zero, List.set_cons_succ])); (refine wpAnyH_take (i := 8) (v := ?_) rfl (by kernel_rfl) (by kernel_rfl) (by kernel_rfl) (fun _ _ _ h => h) (Or.inl ⟨by rfl, ?_⟩) (by assumption) ?_; rotate_left; (focus (intro w hSw; (try dsimp only at hSw); go_simp; (try with_reducible rfl))); (try simp only [List.getElem_toArray, List.getElem_cons_zero, List.getElem_cons_succ, Act.put, List.setIfInBounds_toArray, List.set_cons_zero, List.set_cons_succ])); (refine wpAnyH_take (i := 9) (v := ?_) rfl (by kernel_rfl) (by kernel_rfl) (by kernel_rfl) (fun _ _ _ h => h) (Or.inl ⟨by rfl, ?_⟩) (by assumption) ?_; rotate_left; (focus (intro w hSw; (try dsimp only at hSw); go_simp; (try with_reducible rfl))); (try simp only [List.getElem_toArray, List.getElem_cons_zero, List.getElem_cons_succ, Act.put, List.setIfInBounds_toArray, List.set_cons_zero, List.set_cons_succ])); (refine wpAnyH_take (i := 10) (v := ?_) rfl (by kernel_rfl) (by kernel_rfl) (by kernel_rfl) (fun _ _ _ h => h) (Or.inl ⟨by rfl, ?_⟩) (by assumption) ?_; rotate_left; (focus (intro w hSw; (try dsimp only at hSw); go_simp; (try with_reducible rfl))); (try simp only [List.getElem_toArray, List.getElem_cons_zero, List.getElem_cons_succ, Act.put, List.setIfInBounds_toArray, List.set_cons_zero, List.set_cons_succ])); (refine wpAnyH_take (i := 11) (v := ?_) rfl (by kernel_rfl) (by kernel_rfl) (by kernel_rfl) (fun _ _ _ h => h) (Or.inl ⟨by rfl, ?_⟩) (by assumption) ?_; rotate_left; (focus (intro w hSw; (try dsimp only at hSw); go_simp; (try with_reducible rfl))); (try simp only [List.getElem_toArray, List.getElem_cons_zero, List.getElem_cons_succ, Act.put, List.setIfInBounds_toArray, List.set_cons_zero, List.set_cons_succ])); (refine wpAnyH_take (i := 12) (v := ?_) rfl (by kernel_rfl) (by kernel_rfl) (by kernel_rfl) (fun _ _ _ h => h) (Or.inl ⟨by rfl, ?_⟩) (by assumption) ?_; rotate_left; (focus (intro w hSw; (try dsimp only at hSw); go_simp; (try with_reducible rfl))); (try simp only [List.getElem_toArray, List.getElem_cons_zero, List.getElem_cons_succ, Act.put, List.setIfInBounds_toArray, List.set_cons_zero, List.set_cons_succ])); (refine wpAnyH_take (i := 13) (v := ?_) rfl (by kernel_rfl) (by kernel_rfl) (by kernel_rfl) (fun _ _ _ h => h) (Or.inl ⟨by rfl, ?_⟩) (by assumption) ?_; rotate_left; (focus (intro w hSw; (try dsimp only at hSw); go_simp; (try with_reducible rfl))); (try simp only [List.getElem_toArray, List.getElem_cons_zero, List.getElem_cons_succ, Act.put, List.setIfInBounds_toArray, List.set_cons_zero, List.set_cons_succ])); (refine wpAnyH_take (i := 14) (v := ?_) rfl (by kernel_rfl) (by kernel_rfl) (by kernel_rfl) (fun _ _ _ h => h) (Or.inl ⟨by rfl, ?_⟩) (by assumption) ?_; rotate_left; (focus (intro w hSw; (try dsimp only at hSw); go_simp; (try with_reducible rfl))); (try simp only [List.getElem_toArray, List.getElem_cons_zero, List.getElem_cons_succ, Act.put, List.setIfInBounds_toArray, List.set_cons_zero, List.set_cons_succ])); (refine wpAnyH_take (i := 15) (v := ?_) rfl (by kernel_rfl) (by kernel_rfl) (by kernel_rfl) (fun _ _ _ h => h) (Or.inl ⟨by rfl, ?_⟩) (by assumption) ?_; rotate_left; (focus (intro w hSw; (try dsimp only at hSw); go_simp; (try with_reducible rfl))); (try simp only [List.getElem_toArray, List.getElem_cons_zero, List.getElem_cons_succ, Act.put, List.setIfInBounds_toArray, List.set_cons_zero, List.set_cons_succ])); (refine wpAnyH_take (i := 16) (v := ?_) rfl (by kernel_rfl) (by kernel_rfl) (by kernel_rfl) (fun _ _ _ h => h) (Or.inl ⟨by rfl, ?_⟩) (by assumption) ?_; rotate_left; (focus (intro w hSw; (try dsimp only at hSw); go_simp; (try with_reducible rfl))); (try simp only [List.getElem_toArray, List.getElem_cons_zero, List.getElem_cons_succ, Act.put, List.setIfInBounds_toArray, List.set_cons_zero, List.set_cons_succ])); (refine wpAnyH_take (i := 17) (v := ?_) rfl (by kernel_rfl) (by kernel_rfl) (by kernel_rfl) (fun _ _ _ h => h) (Or.inl ⟨by rfl, ?_⟩) (by assumption) ?_; rotate_left; (focus (intro w hSw; (try dsimp only at hSw); go_simp; (try with_reducible rfl))); (try simp only [List.getElem_toArray, List.getElem_cons_zero, List.getElem_cons_succ, Act.put, List.setIfInBounds_toArray, List.set_cons_zero, List.set_cons_succ])); (refine wpAnyH_take (i := 18) (v := ?_) rfl (by kernel_rfl) (by kernel_rfl) (by kernel_rfl) (fun _ _ _ h => h) (Or.inl ⟨by rfl, ?_⟩) (by assumption) ?_; rotate_left; (focus (intro w hSw; (try dsimp only at hSw); go_simp; (try with_reducible rfl))); (try simp only [List.getElem_toArray, List.getElem_cons_zero, List.getElem_cons_succ, Act.put, List.setIfInBounds_toArray, List.set_cons_zero, List.set_cons_succ])); (refine wpAnyH_take (i := 19) (v := ?_) rfl (by kernel_rfl) (by kernel_rfl) (by kernel_rfl) (fun _ _ _ h => h) (Or.inl ⟨by rfl, ?_⟩) (by assumption) ?_; rotate_left; (focus (intro w hSw; (try dsimp only at hSw); go_simp; (try with_reducible rfl))); (try simp only [List.getElem_toArray, List.getElem_cons_zero, List.getElem_cons_succ, Act.put, List.setIfInBounds_toArray, List.set_cons_zero, List.set_cons_succ]))
      refine wpAnyH_ready (rs := [20]) (by kernel_rfl) (by simp) ?_; refine AllReadyH.cons rfl (fun K hK => ?_) AllReadyH.nil; go_simp
      go_at_call 20
      have hbfd := bel HCd.out (HDf.out.drew)
      have hto := totalOf_any O (.slice (A k) L (C k)) (mm k) dn wf.drew (HLI.out.go hs89 hbfd) (by have := hbfd.size; omega) HTO.out.1 HPT.out HTO.out.2
      rw [← HDN.out, HTV.out] at hto
      refine hto.mono ?_
      clear hto
      rintro e wg ⟨rfl, hbg⟩
      have HDg : Hid (Below wd.heap.size wd wg) := bel HDf.out ((Below.refl _ _).drew.trans hbg)
      have hSg := HSX.out wg HDg.out
      clear hbg hSf hbfd
      refine hK.out _ _ hSg (fun hHeld => ?_); clear hK K; (try simp only [List.getElem_toArray, List.getElem_cons_zero, List.getElem_cons_succ, Act.put, List.setIfInBounds_toArray, List.set_cons_zero, List.set_cons_succ])
      refine wpAnyH_ready (rs := [21]) (by kernel_rfl) (by simp) ?_; refine AllReadyH.cons rfl (fun K hK => ?_) AllReadyH.nil; go_simp
      go_at_call 19
      refine (holds_eq _ _ _ _ _ HH1.out).mono ?_
      rintro e wh ⟨rfl, hbh⟩
      have HDh : Hid (Below wd.heap.size wd wh) := bel HDg.out hbh
      have hSh := HSX.out wh HDh.out
      clear hbh hSg
      refine hK.out _ _ hSh (fun hHeld => ?_); clear hK K; (try simp only [List.getElem_toArray, List.getElem_cons_zero, List.getElem_cons_succ, Act.put, List.setIfInBounds_toArray, List.set_cons_zero, List.set_cons_succ])
      (refine wpAnyH_take (i := 22) (v := ?_) rfl (by kernel_rfl) (by kernel_rfl) (by kernel_rfl) (fun _ _ _ h => h) (Or.inl ⟨by rfl, ?_⟩) (by assumption) ?_; rotate_left; (focus (intro w hSw; (try dsimp only at hSw); go_simp; (try with_reducible rfl))); (try simp only [List.getElem_toArray, List.getElem_cons_zero, List.getElem_cons_succ, Act.put, List.setIfInBounds_toArray, List.set_cons_zero, List.set_cons_succ])); (refine wpAnyH_take (i := 23) (v := ?_) rfl (by kernel_rfl) (by kernel_rfl) (by kernel_rfl) (fun _ _ _ h => h) (Or.inl ⟨by rfl, ?_⟩) (by assumption) ?_; rotate_left; (focus (intro w hSw; (try dsimp only at hSw); go_simp; (try with_reducible rfl))); (try simp only [List.getElem_toArray, List.getElem_cons_zero, List.getElem_cons_succ, Act.put, List.setIfInBounds_toArray, List.set_cons_zero, List.set_cons_succ])); (refine wpAnyH_take (i := 24) (v := ?_) rfl (by kernel_rfl) (by kernel_rfl) (by kernel_rfl) (fun _ _ _ h => h) (Or.inl ⟨by rfl, ?_⟩) (by assumption) ?_; rotate_left; (focus (intro w hSw; (try dsimp only at hSw); go_simp; (try with_reducible rfl))); (try simp only [List.getElem_toArray, List.getElem_cons_zero, List.getElem_cons_succ, Act.put, List.setIfInBounds_toArray, List.set_cons_zero, List.set_cons_succ])); (refine wpAnyH_take (i := 25) (v := ?_) rfl (by kernel_rfl) (by kernel_rfl) (by kernel_rfl) (fun _ _ _ h => h) (Or.inl ⟨by rfl, ?_⟩) (by assumption) ?_; rotate_left; (focus (intro w hSw; (try dsimp only at hSw); go_simp; (try with_reducible rfl))); (try simp only [List.getElem_toArray, List.getElem_cons_zero, List.getElem_cons_succ, Act.put, List.setIfInBounds_toArray, List.set_cons_zero, List.set_cons_succ])); (refine wpAnyH_take (i := 26) (v := ?_) rfl (by kernel_rfl) (by kernel_rfl) (by kernel_rfl) (fun _ _ _ h => h) (Or.inl ⟨by rfl, ?_⟩) (by assumption) ?_; rotate_left; (focus (intro w hSw; (try dsimp only at hSw); go_simp; (try with_reducible rfl))); (try simp only [List.getElem_toArray, List.getElem_cons_zero, List.getElem_cons_succ, Act.put, List.setIfInBounds_toArray, List.set_cons_zero, List.set_cons_succ])); (refine wpAnyH_take (i := 27) (v := ?_) rfl (by kernel_rfl) (by kernel_rfl) (by kernel_rfl) (fun _ _ _ h => h) (Or.inl ⟨by rfl, ?_⟩) (by assumption) ?_; rotate_left; (focus (intro w hSw; (try dsimp only at hSw); go_simp; (try with_reducible rfl))); (try simp only [List.getElem_toArray, List.getElem_cons_zero, List.getElem_cons_succ, Act.put, List.setIfInBounds_toArray, List.set_cons_zero, List.set_cons_succ]))
      refine wpAnyH_ready (rs := [28]) (by kernel_rfl) (by simp) ?_; refine AllReadyH.cons rfl (fun K hK => ?_) AllReadyH.nil; go_simp
      go_at_call 18
      refine (placeOf_any O _ (JGS S mm) k _ (HS9.out.go (bel HCd.out HDh.out)) HGJ.out.rd hkn).mono ?_
      rw [HPV.out]
      rintro e wi ⟨rfl, hbi⟩
      have HDi : Hid (Below wd.heap.size wd wi) := bel HDh.out hbi
      have hSi := HSX.out wi HDi.out
      clear hbi hSh
      refine hK.out _ _ hSi (fun hHeld => ?_); clear hK K; (try simp only [List.getElem_toArray, List.getElem_cons_zero, List.getElem_cons_succ, Act.put, List.setIfInBounds_toArray, List.set_cons_zero, List.set_cons_succ])
      refine wpAnyH_ready (rs := [29]) (by kernel_rfl) (by simp) ?_; refine AllReadyH.cons rfl (fun K hK => ?_) AllReadyH.nil; go_simp
      go_at_call 19
      refine (holds_eq _ _ _ _ _ HH2.out).mono ?_
      rintro e wj ⟨rfl, hbj⟩
      have HDj : Hid (Below wd.heap.size wd wj) := bel HDi.out hbj
      have hSj := HSX.out wj HDj.out
      clear hbj hSi
      refine hK.out _ _ hSj (fun hHeld => ?_); clear hK K; (try simp only [List.getElem_toArray, List.getElem_cons_zero, List.getElem_cons_succ, Act.put, List.setIfInBounds_toArray, List.set_cons_zero, List.set_cons_succ])
      (refine wpAnyH_take (i := 30) (v := ?_) rfl (by kernel_rfl) (by kernel_rfl) (by kernel_rfl) (fun _ _ _ h => h) (Or.inl ⟨by rfl, ?_⟩) (by assumption) ?_; rotate_left; (focus (intro w hSw; (try dsimp only at hSw); go_simp; (try with_reducible rfl))); (try simp only [List.getElem_toArray, List.getElem_cons_zero, List.getElem_cons_succ, Act.put, List.setIfInBounds_toArray, List.set_cons_zero, List.set_cons_succ])); (refine wpAnyH_take (i := 31) (v := ?_) rfl (by kernel_rfl) (by kernel_rfl) (by kernel_rfl) (fun _ _ _ h => h) (Or.inl ⟨by rfl, ?_⟩) (by assumption) ?_; rotate_left; (focus (intro w hSw; (try dsimp only at hSw); go_simp; (try with_reducible rfl))); (try simp only [List.getElem_toArray, List.getElem_cons_zero, List.getElem_cons_succ, Act.put, List.setIfInBounds_toArray, List.set_cons_zero, List.set_cons_succ])); (refine wpAnyH_take (i := 32) (v := ?_) rfl (by kernel_rfl) (by kernel_rfl) (by kernel_rfl) (fun _ _ _ h => h) (Or.inl ⟨by rfl, ?_⟩) (by assumption) ?_; rotate_left; (focus (intro w hSw; (try dsimp only at hSw); go_simp; (try with_reducible rfl))); (try simp only [List.getElem_toArray, List.getElem_cons_zero, List.getElem_cons_succ, Act.put, List.setIfInBounds_toArray, List.set_cons_zero, List.set_cons_succ])); (refine wpAnyH_take (i := 33) (v := ?_) rfl (by kernel_rfl) (by kernel_rfl) (by kernel_rfl) (fun _ _ _ h => h) (Or.inl ⟨by rfl, ?_⟩) (by assumption) ?_; rotate_left; (focus (intro w hSw; (try dsimp only at hSw); go_simp; (try with_reducible rfl))); (try simp only [List.getElem_toArray, List.getElem_cons_zero, List.getElem_cons_succ, Act.put, List.setIfInBounds_toArray, List.set_cons_zero, List.set_cons_succ])); (refine wpAnyH_take (i := 34) (v := ?_) rfl (by kernel_rfl) (by kernel_rfl) (by kernel_rfl) (fun _ _ _ h => h) (Or.inl ⟨by rfl, ?_⟩) (by assumption) ?_; rotate_left; (focus (intro w hSw; (try dsimp only at hSw); go_simp; (try with_reducible rfl))); (try simp only [List.getElem_toArray, List.getElem_cons_zero, List.getElem_cons_succ, Act.put, List.setIfInBounds_toArray, List.set_cons_zero, List.set_cons_succ]))
      refine wpAnyH_ready (rs := [35]) (by kernel_rfl) (by simp) ?_; refine AllReadyH.cons rfl (fun K hK => ?_) AllReadyH.nil; go_simp
      go_at_call 21
      refine (isSo_eq _ _ _ _ HH3.out).mono ?_
      rintro e wk ⟨rfl, hwk⟩
      rw [hwk]
      clear hwk
      refine hK.out _ _ hSj (fun hHeld => ?_); clear hK K; (try simp only [List.getElem_toArray, List.getElem_cons_zero, List.getElem_cons_succ, Act.put, List.setIfInBounds_toArray, List.set_cons_zero, List.set_cons_succ])
      (refine wpAnyH_take (i := 36) (v := ?_) rfl (by kernel_rfl) (by kernel_rfl) (by kernel_rfl) (fun _ _ _ h => h) (Or.inl ⟨by rfl, ?_⟩) (by assumption) ?_; rotate_left; (focus (intro w hSw; (try dsimp only at hSw); go_simp; (try with_reducible rfl))); (try simp only [List.getElem_toArray, List.getElem_cons_zero, List.getElem_cons_succ, Act.put, List.setIfInBounds_toArray, List.set_cons_zero, List.set_cons_succ])); (refine wpAnyH_take (i := 37) (v := ?_) rfl (by kernel_rfl) (by kernel_rfl) (by kernel_rfl) (fun _ _ _ h => h) (Or.inl ⟨by rfl, ?_⟩) (by assumption) ?_; rotate_left; (focus (intro w hSw; (try dsimp only at hSw); go_simp; (try with_reducible rfl))); (try simp only [List.getElem_toArray, List.getElem_cons_zero, List.getElem_cons_succ, Act.put, List.setIfInBounds_toArray, List.set_cons_zero, List.set_cons_succ]))
      refine wpAnyH_done (by kernel_rfl) ?_ _; clear hHeld
      clear hSj
      go_upto_region 14 with fail
      cases gb with
      | true =>
        go_wp2_with fail
        obtain ⟨wo, hwo⟩ : ∃ wo, wo = wr := ⟨_, rfl⟩
        subst hwo
        go_loopw [15] (fun jv wr => ∃ q : Nat, q ≤ S.np ∧ jv = .int .i64 q ∧ Hid (Below wd.heap.size wd wr)) (fun jv _ => S.np - (intOf jv).toNat)
        case atStart => exact ⟨0, Nat.zero_le _, rfl, HDj⟩
        case round =>
          obtain ⟨q, hq, rfl, HDr⟩ := hrel
          obtain ⟨⟨⟨r0, r1, r2, r3⟩, o0, o1, o2, o3⟩, _, _, _⟩ := HSX.out wr HDr.out
          have HBq : Hid (Below ws.heap.size ws wr) := bel HBd.out HDr.out
          by_cases hqn : q < S.np
          · have hqi : (q : Int) < (S.np : Int) := by omega
            obtain ⟨eb, heb⟩ : ∃ x, errA (okS S) (two S (k : Int) (q : Int)) = x := ⟨_, rfl⟩
            have HEB := Lib.hid heb
            obtain ⟨kv, hkv⟩ : ∃ x, sp eb (kno S (k : Int).toNat (q : Int).toNat) = x := ⟨_, rfl⟩
            have HKV := Lib.hid hkv
            by_cases hkq : k = q
            · subst hkq
              clear heb hkv
              go_wp2_with (go_at_call 22; refine (kBetter_any N _ S _ _ eb _ (HBK.out.go HBq.out) HEB.out).mono ?_; rw [HKV.out]; rintro e wl ⟨rfl, hbl⟩; have HDl : Hid (Below wd.heap.size wd wl) := bel HDr.out hbl; clear hbl)
              go_roundw
              case rel => exact ⟨k + 1, by omega, by go_num, HDl⟩
              case measure => simp [intOf]; omega
            · have hkqe : ¬ (k : Int) = (q : Int) := by omega
              have hkqi : ((k : Int) != (q : Int)) = true := bne_iff_ne.2 hkqe
              have hkqb : ((k : Int) == (q : Int)) = false := beq_eq_false_iff_ne.2 hkqe
              have he0 : eb = 0 := by
                rw [← heb]
                have h1 : two S (k : Int) (q : Int) = true := by
                  unfold two inN
                  simp [hkn, hqn]
                  exact hkqe
                rw [HOK.out, h1]; rfl
              subst he0
              obtain ⟨bb, hbb⟩ : ∃ x, bet (totI (JGS S mm)) S.sz k q = x := ⟨_, rfl⟩
              have HBB := Lib.hid hbb
              have HSO : Hid ((decide (kv = 3) || ((decide (kv = 1) && bb) || (decide (kv = 2) && !bb))) = true) := by
                have h1 := so_better HJ8.out hkn hqn
                rw [hbb] at h1
                rw [Int.toNat_natCast, Int.toNat_natCast, sp_ok] at hkv
                rw [hkv] at h1
                exact h1
              clear heb hkv hbb
              go_wp2_with (first
                | (go_at_call 22; refine (kBetter_any N _ S _ _ 0 _ (HBK.out.go HBq.out) HEB.out).mono ?_; rw [HKV.out]; rintro e wl ⟨rfl, hbl⟩; have HDl : Hid (Below wd.heap.size wd wl) := bel HDr.out hbl; clear hbl r0 r1 r2 r3 o0 o1 o2 o3; obtain ⟨⟨⟨r0, r1, r2, r3⟩, o0, o1, o2, o3⟩, _, _, _⟩ := HSX.out wl HDl.out)
                | (go_at_call 23; refine (isBetter_any O _ (JGS S mm) k q _ (HS9.out.go (bel HCd.out HDl.out)) HGJ.out.rd hkn hqn).mono ?_; rw [show bet (totI (JGS S mm)) (JGS S mm).sz k q = bb from HBB.out]; rintro e wm ⟨rfl, hbm⟩; have HDm : Hid (Below wd.heap.size wd wm) := bel HDl.out hbm; clear hbm)
                | (go_at_call 21; refine (isSo_eq _ _ _ _ HSO.out).mono ?_; rintro e wn ⟨rfl, hwn⟩; rw [hwn]; clear hwn))
              go_roundw
              case rel => exact ⟨q + 1, by omega, by go_num, HDm⟩
              case measure => simp [intOf]; omega
          · have hqi : ¬ (q : Int) < (S.np : Int) := by omega
            have HCn : Hid (Below w9.heap.size w9 wr) := bel HCd.out HDr.out
            go_wp2_with fail
            go_roundw
            case rel => exact ⟨k + 1, by omega, by first | exact HCG.out.symm ▸ rfl | (rw [HCG.out]; rfl) | (rw [HCG.out]; go_num), by go_num, HCn⟩
            case measure => simp [intOf]; omega
      | false =>
        go_wp2_with fail
        obtain ⟨wo, hwo⟩ : ∃ wo, wo = wr := ⟨_, rfl⟩
        subst hwo
        go_loopw [15] (fun jv wr => ∃ q : Nat, q ≤ S.np ∧ jv = .int .i64 q ∧ Hid (Below wd.heap.size wd wr)) (fun jv _ => S.np - (intOf jv).toNat)
        case atStart => exact ⟨0, Nat.zero_le _, rfl, HDj⟩
        case round =>
          obtain ⟨q, hq, rfl, HDr⟩ := hrel
          obtain ⟨⟨⟨r0, r1, r2, r3⟩, o0, o1, o2, o3⟩, _, _, _⟩ := HSX.out wr HDr.out
          have HBq : Hid (Below ws.heap.size ws wr) := bel HBd.out HDr.out
          by_cases hqn : q < S.np
          · have hqi : (q : Int) < (S.np : Int) := by omega
            obtain ⟨eb, heb⟩ : ∃ x, errA (okS S) (two S (k : Int) (q : Int)) = x := ⟨_, rfl⟩
            have HEB := Lib.hid heb
            obtain ⟨kv, hkv⟩ : ∃ x, sp eb (kno S (k : Int).toNat (q : Int).toNat) = x := ⟨_, rfl⟩
            have HKV := Lib.hid hkv
            by_cases hkq : k = q
            · subst hkq
              clear heb hkv
              go_wp2_with (go_at_call 22; refine (kBetter_any N _ S _ _ eb _ (HBK.out.go HBq.out) HEB.out).mono ?_; rw [HKV.out]; rintro e wl ⟨rfl, hbl⟩; have HDl : Hid (Below wd.heap.size wd wl) := bel HDr.out hbl; clear hbl)
              go_roundw
              case rel => exact ⟨k + 1, by omega, by go_num, HDl⟩
              case measure => simp [intOf]; omega
            · have hkqe : ¬ (k : Int) = (q : Int) := by omega
              have hkqi : ((k : Int) != (q : Int)) = true := bne_iff_ne.2 hkqe
              have hkqb : ((k : Int) == (q : Int)) = false := beq_eq_false_iff_ne.2 hkqe
              have he0 : eb = 0 := by
                rw [← heb]
                have h1 : two S (k : Int) (q : Int) = true := by
                  unfold two inN
                  simp [hkn, hqn]
                  exact hkqe
                rw [HOK.out, h1]; rfl
              subst he0
              obtain ⟨bb, hbb⟩ : ∃ x, bet (totI (JGS S mm)) S.sz k q = x := ⟨_, rfl⟩
              have HBB := Lib.hid hbb
              have HSO : Hid ((decide (kv = 3) || ((decide (kv = 1) && bb) || (decide (kv = 2) && !bb))) = true) := by
                have h1 := so_better HJ8.out hkn hqn
                rw [hbb] at h1
                rw [Int.toNat_natCast, Int.toNat_natCast, sp_ok] at hkv
                rw [hkv] at h1
                exact h1
              clear heb hkv hbb
              go_wp2_with (first
                | (go_at_call 22; refine (kBetter_any N _ S _ _ 0 _ (HBK.out.go HBq.out) HEB.out).mono ?_; rw [HKV.out]; rintro e wl ⟨rfl, hbl⟩; have HDl : Hid (Below wd.heap.size wd wl) := bel HDr.out hbl; clear hbl r0 r1 r2 r3 o0 o1 o2 o3; obtain ⟨⟨⟨r0, r1, r2, r3⟩, o0, o1, o2, o3⟩, _, _, _⟩ := HSX.out wl HDl.out)
                | (go_at_call 23; refine (isBetter_any O _ (JGS S mm) k q _ (HS9.out.go (bel HCd.out HDl.out)) HGJ.out.rd hkn hqn).mono ?_; rw [show bet (totI (JGS S mm)) (JGS S mm).sz k q = bb from HBB.out]; rintro e wm ⟨rfl, hbm⟩; have HDm : Hid (Below wd.heap.size wd wm) := bel HDl.out hbm; clear hbm)
                | (go_at_call 21; refine (isSo_eq _ _ _ _ HSO.out).mono ?_; rintro e wn ⟨rfl, hwn⟩; rw [hwn]; clear hwn))
              go_roundw
              case rel => exact ⟨q + 1, by omega, by go_num, HDm⟩
              case measure => simp [intOf]; omega
          · have hqi : ¬ (q : Int) < (S.np : Int) := by omega
            have HCn : Hid (Below w9.heap.size w9 wr) := bel HCd.out HDr.out
            go_wp2_with fail
            go_roundw
            case rel => exact ⟨k + 1, by omega, by first | exact HCG.out.symm ▸ rfl | (rw [HCG.out]; rfl) | (rw [HCG.out]; go_num), by go_num, HCn⟩
            case measure => simp [intOf]; omega
    · have hki : ¬ (k : Int) < (S.np : Int) := by omega
      have hmin := got_min S mm HG.out.Z0
      rw [show S.np = k by omega, HCN.out] at hmin
      obtain ⟨mn, hmn⟩ : ∃ mn : Int, min S.Z (S.np : Int) = mn := ⟨_, rfl⟩
      have hle : mn ≤ (cn : Int) := by rw [← hmn, show S.np = k by omega]; exact hmin
      have hminr : ∀ a b W, (Builtin.min_ a b #[.int .i64 S.Z, .int .i64 (S.np : Int)]).run Try.prog W = .ok (.int .i64 mn) W := fun a b W => by rw [run_min_int2]; congr 2; rw [← hmn]; split <;> omega
      have HBr : Hid (Below ws.heap.size ws wr) := bel HB9.out HCr.out
      clear hmin hmn
      go_wp2_with (go_at_call 13; refine (works_any _).mono ?_; rintro e wz ⟨rfl, hbz⟩; have HBz : Hid (Below ws.heap.size ws wz) := bel HBr.out hbz; clear hbz)
      go_ret
      exact ⟨rfl, fin HB.out HBz.out⟩

end Go.Proofs.Ytffnlimgjnhmpaa
