/-
  JLOrder: JudgesOrder returns true.
-/
import Derived.Test.YtffnlimgjnhmpaaJTurn
import Derived.Test.YtffnlimgjnhmpaaJReady
import Derived.Test.YtffnlimgjnhmpaaJKEn
import Derived.Test.YtffnlimgjnhmpaaJLTotal
namespace Go.Proofs.Ytffnlimgjnhmpaa
open Go.RowKit

theorem tmod_shf {i a n : Nat} (hn : 0 < n) : Int.tmod ((i : Int) + (a : Int)) (n : Int) = ((shf a n i : Nat) : Int) := by
  unfold shf
  rw [← Int.natCast_add, Int.tmod_eq_emod_of_nonneg (by omega)]
  rfl
theorem turn_fact {S : JB} (hG : GoodS S) (a b : Nat) : GoodS (turnS S a b) ∧ allIn (turnS S a b) = allIn S := ⟨(turn_trn S a b).good hG, (turn_trn S a b).allIn⟩
/-- who decides in another order -/
theorem spL_mem {ec : Int} {l : List Int} {x : Int} (h : x ∈ spL ec l) : ec = 0 ∧ x ∈ l := by
  unfold spL at h
  split at h
  · exact ⟨by assumption, h⟩
  · cases h

set_option maxHeartbeats 6400000 in
set_option maxRecDepth 100000 in
theorem corder_any (N : Nat) (v : Value) (S : JB) (ai bi : Int) (w : World) (h : ShowAt N w v S) :
    Calls Try.prog 5 #[v, .int .i64 ai, .int .i64 bi] w fun e w' => e = .returned (.bool true) ∧ Below w.heap.size w w' := by
  obtain ⟨a1, c1, rfl⟩ := h.form
  obtain ⟨ws, hws, HB, hsz, hblk⟩ := box1 w (.cells #[.int .i64 S.J, .int .i64 S.D, .int .i64 S.Z, .slice a1 S.np c1] 24)
  have q0 := cell_blk hblk 0 rfl
  have q1 := cell_blk hblk 1 rfl
  have q2 := cell_blk hblk 2 rfl
  have q3 := cell_blk hblk 3 rfl
  have HNZ : Hid (N ≤ w.heap.size) := h.1
  have HBK := Lib.hid (h.go HB.out)
  have HB0 : Hid (Below ws.heap.size ws ws) := Below.refl _ _
  have HNS : Hid (N ≤ ws.heap.size) := HBK.out.1
  have hlen := h.len
  clear hblk h
  have HSQ : Hid (∀ W, Below ws.heap.size ws W → (W.cell? ⟨w.heap.size, 0, none⟩ = some (.int .i64 S.J) ∧ W.cell? ⟨w.heap.size, 1, none⟩ = some (.int .i64 S.D) ∧ W.cell? ⟨w.heap.size, 2, none⟩ = some (.int .i64 S.Z) ∧ W.cell? ⟨w.heap.size, 3, none⟩ = some (.slice a1 S.np c1))) := fun W hW => ⟨(hW.cell (p := ⟨w.heap.size, 0, none⟩) hsz).trans q0, (hW.cell (p := ⟨w.heap.size, 1, none⟩) hsz).trans q1, (hW.cell (p := ⟨w.heap.size, 2, none⟩) hsz).trans q2, (hW.cell (p := ⟨w.heap.size, 3, none⟩) hsz).trans q3⟩
  clear hlen
  cases hre : (!farS S && okS S) with
  | false =>
    have HRE := Lib.hid hre
    clear hre
    go_enter Try.func5, Try.ntmps5
    go_wp2_with (first
      | (go_at_call 12; refine (ready_any N _ S _ HBK.out).mono ?_; rw [HRE.out]; rintro e w1 ⟨rfl, hb1⟩; have HB1 : Hid (Below ws.heap.size ws w1) := hb1; clear hb1 q0 q1 q2 q3; obtain ⟨r0, r1, r2, r3⟩ := HSQ.out w1 HB1.out)
      | (go_at_call 13; refine (works_any _).mono ?_; rintro e wz ⟨rfl, hbz⟩; have HBz : Hid (Below ws.heap.size ws wz) := bel HB1.out hbz; clear hbz))
    go_ret
    exact ⟨rfl, fin HB.out HBz.out⟩
  | true =>
  have HRE := Lib.hid hre
  obtain ⟨hfar, hok⟩ : farS S = false ∧ okS S = true := by simpa using hre
  have HG := Lib.hid (okS_good hok)
  have hnp6 := HG.out.np
  have hJ1 := HG.out.J1
  have hJ5 := HG.out.J5
  have HOK := Lib.hid hok
  clear hre hfar hok
  by_cases f1 : ai < 0
  ·
    go_enter Try.func5, Try.ntmps5
    go_wp2_with (first
      | (go_at_call 12; refine (ready_any N _ S _ HBK.out).mono ?_; rw [HRE.out]; rintro e w1 ⟨rfl, hb1⟩; have HB1 : Hid (Below ws.heap.size ws w1) := hb1; clear hb1 q0 q1 q2 q3; obtain ⟨r0, r1, r2, r3⟩ := HSQ.out w1 HB1.out)
      | (go_at_call 13; refine (works_any _).mono ?_; rintro e wz ⟨rfl, hbz⟩; have HBz : Hid (Below ws.heap.size ws wz) := bel HB1.out hbz; clear hbz))
    go_ret
    exact ⟨rfl, fin HB.out HBz.out⟩
  by_cases f2 : 100 < ai
  ·
    go_enter Try.func5, Try.ntmps5
    go_wp2_with (first
      | (go_at_call 12; refine (ready_any N _ S _ HBK.out).mono ?_; rw [HRE.out]; rintro e w1 ⟨rfl, hb1⟩; have HB1 : Hid (Below ws.heap.size ws w1) := hb1; clear hb1 q0 q1 q2 q3; obtain ⟨r0, r1, r2, r3⟩ := HSQ.out w1 HB1.out)
      | (go_at_call 13; refine (works_any _).mono ?_; rintro e wz ⟨rfl, hbz⟩; have HBz : Hid (Below ws.heap.size ws wz) := bel HB1.out hbz; clear hbz))
    go_ret
    exact ⟨rfl, fin HB.out HBz.out⟩
  by_cases f3 : bi < 0
  ·
    go_enter Try.func5, Try.ntmps5
    go_wp2_with (first
      | (go_at_call 12; refine (ready_any N _ S _ HBK.out).mono ?_; rw [HRE.out]; rintro e w1 ⟨rfl, hb1⟩; have HB1 : Hid (Below ws.heap.size ws w1) := hb1; clear hb1 q0 q1 q2 q3; obtain ⟨r0, r1, r2, r3⟩ := HSQ.out w1 HB1.out)
      | (go_at_call 13; refine (works_any _).mono ?_; rintro e wz ⟨rfl, hbz⟩; have HBz : Hid (Below ws.heap.size ws wz) := bel HB1.out hbz; clear hbz))
    go_ret
    exact ⟨rfl, fin HB.out HBz.out⟩
  by_cases f4 : 100 < bi
  ·
    go_enter Try.func5, Try.ntmps5
    go_wp2_with (first
      | (go_at_call 12; refine (ready_any N _ S _ HBK.out).mono ?_; rw [HRE.out]; rintro e w1 ⟨rfl, hb1⟩; have HB1 : Hid (Below ws.heap.size ws w1) := hb1; clear hb1 q0 q1 q2 q3; obtain ⟨r0, r1, r2, r3⟩ := HSQ.out w1 HB1.out)
      | (go_at_call 13; refine (works_any _).mono ?_; rintro e wz ⟨rfl, hbz⟩; have HBz : Hid (Below ws.heap.size ws wz) := bel HB1.out hbz; clear hbz))
    go_ret
    exact ⟨rfl, fin HB.out HBz.out⟩
  obtain ⟨a, rfl⟩ : ∃ a : Nat, ai = a := ⟨ai.toNat, by omega⟩
  obtain ⟨b, rfl⟩ : ∃ b : Nat, bi = b := ⟨bi.toNat, by omega⟩
  have HGM := Lib.hid (turn_fact HG.out a b).1
  have HOKM : Hid (okS (turnS S a b) = true) := good_okS HGM.out
  have HTR := Lib.hid (turn_trn S a b)
  have HLM : Hid (∀ i, i < (turnS S a b).np → ((turnS S a b).pts i).length ≤ 1000) := fun i hi => by have := HGM.out.len i hi; have := HGM.out.J5; omega
  obtain ⟨ec, hec⟩ : ∃ x, errC (okS S) true (allIn S) = x := ⟨_, rfl⟩
  have HEC := Lib.hid hec
  have HECM : Hid (errC (okS (turnS S a b)) true (allIn (turnS S a b)) = ec) := by unfold Hid; rw [HOKM.out, (turn_fact HG.out a b).2, ← hec, HOK.out]
  obtain ⟨l1, hl1⟩ : ∃ l, spL ec (dec S) = l := ⟨_, rfl⟩
  obtain ⟨l2, hl2⟩ : ∃ l, spL ec (dec (turnS S a b)) = l := ⟨_, rfl⟩
  have HL1 := Lib.hid hl1
  have HL2 := Lib.hid hl2
  have hdl : (dec S).length ≤ S.J.toNat := sel_len _ _
  have hll : l2.length = l1.length := by
    rw [← hl1, ← hl2]
    unfold spL
    split
    · exact dec_len HG.out a b
    · rfl
  have hl1b : l1.length ≤ S.J.toNat := by
    rw [← hl1]
    unfold spL
    split
    · exact hdl
    · exact Nat.zero_le _
  obtain ⟨n1, hn1⟩ : ∃ n, l1.length = n := ⟨_, rfl⟩
  rw [hn1] at hll hl1b
  have HN1 := Lib.hid hn1
  have HN2 := Lib.hid hll
  have hn1J : ¬ S.J < (n1 : Int) := by omega
  have hn15 : n1 ≤ 5 := by omega
  clear hec hl1 hl2 hdl hll hl1b hn1
  go_enter Try.func5, Try.ntmps5
  go_upto_region 3 with (go_at_call 12; refine (ready_any N _ S _ HBK.out).mono ?_; rw [HRE.out]; rintro e w1 ⟨rfl, hb1⟩; have HB1 : Hid (Below ws.heap.size ws w1) := hb1; clear hb1 q0 q1 q2 q3; obtain ⟨r0, r1, r2, r3⟩ := HSQ.out w1 HB1.out)
  clear hws
  go_upto_region 4 with (go_at_call 30; refine (turned_any N _ S a b _ (HBK.out.go HB1.out) HG.out (by omega) (by omega)).mono ?_; rintro e w3 ⟨v3, rfl, ho3, hb3⟩; have HB3 : Hid (Below ws.heap.size ws w3) := bel HB1.out hb3; have hs3 := ho3.show (show S.np ≤ 1000 by omega) HLM.out; obtain ⟨a8, c8, e8⟩ : ∃ a c, v3 = .agg #[.int .i64 S.J, .int .i64 S.D, .int .i64 S.Z, .slice a S.np c] := hs3.form; subst e8; have HS3 := Lib.hid hs3; clear hb3 ho3 hs3; obtain ⟨wo, hwo, HBo, hszo, hblko⟩ := box1 w3 (.cells #[.int .i64 0, .int .i64 0, .int .i64 0, .slice none 0 0] 24); have HZo := Lib.hid hblko; have z0 := cell_blk hblko 0 rfl; have z1 := cell_blk hblko 1 rfl; have z2 := cell_blk hblko 2 rfl; have z3 := cell_blk hblko 3 rfl; have f0 := free_blk hblko 0; have f1 := free_blk hblko 1; have f2 := free_blk hblko 2; have f3 := free_blk hblko 3; clear hblko)
  obtain ⟨w5, hw5, hz5, ho5, hb5⟩ := put4o HZo.out (.int .i64 S.J) (.int .i64 S.D) (.int .i64 S.Z) (.slice a8 S.np c8)
  rw [hw5]
  have hb35 : Below w3.heap.size w3 w5 := HBo.out.trans hb5
  have HB5 : Hid (Below ws.heap.size ws w5) := bel HB3.out hb35
  have hs5 := HS3.out.go hb35
  obtain ⟨O, hO⟩ : ∃ O, w3.heap.size = O := ⟨_, rfl⟩
  rw [hO] at hz5 hs5 ⊢
  have HZ5 := Lib.hid hz5
  have hO5 := heap_lt hz5
  have HS5 := Lib.hid hs5
  clear hwo hszo z0 z1 z2 z3 f0 f1 f2 f3 hw5 hz5 ho5 hb5 HZo HBo hb35 hO HS3 hs5 r0 r1 r2 r3
  have HSR : Hid (∀ W, Below w5.heap.size w5 W → ((W.cell? ⟨w.heap.size, 0, none⟩ = some (.int .i64 S.J) ∧ W.cell? ⟨w.heap.size, 1, none⟩ = some (.int .i64 S.D) ∧ W.cell? ⟨w.heap.size, 2, none⟩ = some (.int .i64 S.Z) ∧ W.cell? ⟨w.heap.size, 3, none⟩ = some (.slice a1 S.np c1))) ∧ W.cell? ⟨O, 0, none⟩ = some (.int .i64 S.J) ∧ W.cell? ⟨O, 1, none⟩ = some (.int .i64 S.D) ∧ W.cell? ⟨O, 2, none⟩ = some (.int .i64 S.Z) ∧ W.cell? ⟨O, 3, none⟩ = some (.slice a8 S.np c8)) := fun W hW => by
    have hz := (hW.block O hO5).trans HZ5.out
    exact ⟨HSQ.out W (bel HB5.out hW), cell_blk hz 0 rfl, cell_blk hz 1 rfl, cell_blk hz 2 rfl, cell_blk hz 3 rfl⟩
  have HC0 : Hid (Below w5.heap.size w5 w5) := Below.refl _ _
  go_wp2_with fail
  go_loopw [8] (fun i wr => ∃ m : Nat, m ≤ S.np ∧ i = .int .i64 m ∧ Hid (Below w5.heap.size w5 wr)) (fun i _ => S.np - (intOf i).toNat)
  case atStart => exact ⟨0, Nat.zero_le _, rfl, HC0⟩
  case round =>
    obtain ⟨m, hm, rfl, HCr⟩ := hrel
    (try clear r0 r1 r2 r3 o0 o1 o2 o3)
    obtain ⟨⟨r0, r1, r2, r3⟩, o0, o1, o2, o3⟩ := HSR.out wr HCr.out
    by_cases hmn : m < S.np
    · have hmi : (m : Int) < (S.np : Int) := by omega
      obtain ⟨t, ht⟩ : ∃ t, shf a S.np m = t := ⟨_, rfl⟩
      have htn : t < S.np := by rw [← ht]; exact shf_lt hmn
      have hrm : Int.tmod ((m : Int) + (a : Int)) (S.np : Int) = (t : Int) := by rw [← ht]; exact tmod_shf (by omega)
      have hnz : ¬ (S.np : Int) = 0 := by omega
      have hnz2 : ¬ S.np = 0 := by omega
      have hwk : IntKind.i64.wrap ((m : Int) + (a : Int)) = (m : Int) + (a : Int) := IntWalk.i64_in _ (by omega)
      obtain ⟨al, hal⟩ : ∃ x, loT S m = x := ⟨_, rfl⟩
      obtain ⟨ah, hah⟩ : ∃ x, hiT S m = x := ⟨_, rfl⟩
      obtain ⟨pl, hpl⟩ : ∃ x : Int, ((plLo S m : Nat) : Int) = x := ⟨_, rfl⟩
      obtain ⟨ph, hph⟩ : ∃ x : Int, ((plHi S m : Nat) : Int) = x := ⟨_, rfl⟩
      obtain ⟨z1, hz1⟩ : ∃ x, prz S m = x := ⟨_, rfl⟩
      obtain ⟨nb, hnb⟩ : ∃ x, ndB S m = x := ⟨_, rfl⟩
      obtain ⟨en, hen⟩ : ∃ x : Int, (if nb then 0 else 3) = x := ⟨_, rfl⟩
      obtain ⟨nv, hnv⟩ : ∃ x, sp en (ndV S m) = x := ⟨_, rfl⟩
      have hnd := HTR.out.ndF hmn
      have h0t : loT (turnS S a b) t = al ∧ hiT (turnS S a b) t = ah ∧ ((plLo (turnS S a b) t : Nat) : Int) = pl ∧ ((plHi (turnS S a b) t : Nat) : Int) = ph ∧ prz (turnS S a b) t = z1 ∧ ndB (turnS S a b) t = nb ∧ ndV (turnS S a b) t = ndV S m := by
        rw [← ht]
        refine ⟨(HTR.out.lo hmn).trans hal, (HTR.out.hi hmn).trans hah, ?_, ?_, (HTR.out.prz hmn).trans hz1, ?_, ?_⟩
        · rw [HTR.out.plLo hmn]; exact hpl
        · rw [HTR.out.plHi hmn]; exact hph
        · unfold ndB; rw [hnd]; exact hnb
        · unfold ndV; rw [hnd]
      have hinm : inN (m : Int) S.np = true := by unfold inN; simp; exact hmn
      have hint : inN (t : Int) S.np = true := by unfold inN; simp; exact htn
      have HVS : Hid (sp 0 (loT S (m : Int).toNat) = al ∧ sp 0 (hiT S (m : Int).toNat) = ah ∧ sp 0 ((plLo S (m : Int).toNat : Nat) : Int) = pl ∧ sp 0 ((plHi S (m : Int).toNat : Nat) : Int) = ph ∧ sp 0 (prz S (m : Int).toNat) = z1 ∧ sp en (ndV S (m : Int).toNat) = nv) := by
        unfold Hid; rw [Int.toNat_natCast, sp_ok, sp_ok, sp_ok, sp_ok, sp_ok]; exact ⟨hal, hah, hpl, hph, hz1, hnv⟩
      have HVT : Hid (sp 0 (loT (turnS S a b) (t : Int).toNat) = al ∧ sp 0 (hiT (turnS S a b) (t : Int).toNat) = ah ∧ sp 0 ((plLo (turnS S a b) (t : Int).toNat : Nat) : Int) = pl ∧ sp 0 ((plHi (turnS S a b) (t : Int).toNat : Nat) : Int) = ph ∧ sp 0 (prz (turnS S a b) (t : Int).toNat) = z1 ∧ sp en (ndV (turnS S a b) (t : Int).toNat) = nv) := by
        unfold Hid; rw [Int.toNat_natCast, sp_ok, sp_ok, sp_ok, sp_ok, sp_ok, h0t.2.2.2.2.2.2]; exact ⟨h0t.1, h0t.2.1, h0t.2.2.1, h0t.2.2.2.1, h0t.2.2.2.2.1, hnv⟩
      have HE1 : Hid (errA (okS S) (inN (m : Int) S.np) = 0) := by unfold Hid; rw [HOK.out, hinm]; rfl
      have HE2 : Hid (errA (okS (turnS S a b)) (inN (t : Int) (turnS S a b).np) = 0) := by unfold Hid; rw [HOKM.out, show (turnS S a b).np = S.np from rfl, hint]; rfl
      have HN3 : Hid ((if errA (okS S) (inN (m : Int) S.np) = 0 then (if ndB S (m : Int).toNat then 0 else 3) else errA (okS S) (inN (m : Int) S.np)) = en) := by
        unfold Hid; rw [if_pos HE1.out, Int.toNat_natCast, hnb]; exact hen
      have HN4 : Hid ((if errA (okS (turnS S a b)) (inN (t : Int) (turnS S a b).np) = 0 then (if ndB (turnS S a b) (t : Int).toNat then 0 else 3) else errA (okS (turnS S a b)) (inN (t : Int) (turnS S a b).np)) = en) := by
        unfold Hid; rw [if_pos HE2.out, Int.toNat_natCast, h0t.2.2.2.2.2.1]; exact hen
      have heq1 : ∀ w, (Op.equalIn 10000 30 (.agg #[.int .i64 al, .int .i64 ah]) (.agg #[.int .i64 al, .int .i64 ah])).run Try.prog w = .ok true w := fun w => by rw [eqSpan]; simp
      have heq2 : ∀ w, (Op.equalIn 10000 30 (.agg #[.int .i64 pl, .int .i64 ph]) (.agg #[.int .i64 pl, .int .i64 ph])).run Try.prog w = .ok true w := fun w => by rw [eqSpan]; simp
      have hBr : Hid (Below ws.heap.size ws wr) := bel HB5.out HCr.out
      clear ht hal hah hpl hph hz1 hnb hen hnv hnd h0t hinm hint htn
      go_upto_region 8 with fail
      go_upto_region 9 with (go_at_call 15; refine (kTotal_any N _ S _ 0 _ (HBK.out.go hBr.out) HE1.out).mono ?_; rw [HVS.out.1, HVS.out.2.1]; rintro e wt ⟨rfl, hbt⟩; have HCt : Hid (Below w5.heap.size w5 wt) := bel HCr.out hbt; have HKt : Hid (Below wr.heap.size wr wt) := hbt; clear hbt; (obtain ⟨wo, hwo, HBo, hszo, hblko⟩ := box1 wt (.cells #[.int .i64 0, .int .i64 0] 30); have HZo := Lib.hid hblko; have z0 := cell_blk hblko 0 rfl; have z1 := cell_blk hblko 1 rfl; have f0 := free_blk hblko 0; have f1 := free_blk hblko 1; clear hblko))
      obtain ⟨wa, hwq, hzq, hoq, hbq⟩ := put2o HZo.out (.int .i64 al) (.int .i64 ah)
      rw [hwq]
      have hbtq : Below wt.heap.size wt wa := HBo.out.trans hbq
      have HCa : Hid (Below w5.heap.size w5 wa) := bel HCt.out hbtq
      have HKwa : Hid (Below wr.heap.size wr wa) := bel HKt.out hbtq
      obtain ⟨P1, hP⟩ : ∃ P, wt.heap.size = P := ⟨_, rfl⟩
      rw [hP] at hzq ⊢
      have HZP1 := Lib.hid hzq
      clear hwo hszo z0 z1 f0 f1 hwq hzq hoq hbq HZo HBo hbtq hP HCt HKt r0 r1 r2 r3 o0 o1 o2 o3
      obtain ⟨⟨r0, r1, r2, r3⟩, o0, o1, o2, o3⟩ := HSR.out wa HCa.out
      go_upto_region 10 with (go_at_call 15; refine (kTotal_any _ _ (turnS S a b) _ 0 _ (HS5.out.go HCa.out) HE2.out).mono ?_; rw [HVT.out.1, HVT.out.2.1]; rintro e wt ⟨rfl, hbt⟩; have HCt : Hid (Below w5.heap.size w5 wt) := bel HCa.out hbt; have HKt : Hid (Below wa.heap.size wa wt) := hbt; clear hbt; (obtain ⟨wo, hwo, HBo, hszo, hblko⟩ := box1 wt (.cells #[.int .i64 0, .int .i64 0] 30); have HZo := Lib.hid hblko; have z0 := cell_blk hblko 0 rfl; have z1 := cell_blk hblko 1 rfl; have f0 := free_blk hblko 0; have f1 := free_blk hblko 1; clear hblko))
      obtain ⟨wb, hwq, hzq, hoq, hbq⟩ := put2o HZo.out (.int .i64 al) (.int .i64 ah)
      rw [hwq]
      have hbtq : Below wt.heap.size wt wb := HBo.out.trans hbq
      have HCb : Hid (Below w5.heap.size w5 wb) := bel HCt.out hbtq
      have HKwb : Hid (Below wa.heap.size wa wb) := bel HKt.out hbtq
      obtain ⟨P2, hP⟩ : ∃ P, wt.heap.size = P := ⟨_, rfl⟩
      rw [hP] at hzq ⊢
      have HZP2 := Lib.hid hzq
      clear hwo hszo z0 z1 f0 f1 hwq hzq hoq hbq HZo HBo hbtq hP HCt HKt r0 r1 r2 r3 o0 o1 o2 o3
      obtain ⟨⟨r0, r1, r2, r3⟩, o0, o1, o2, o3⟩ := HSR.out wb HCb.out
      have hBb : Hid (Below ws.heap.size ws wb) := bel HB5.out HCb.out
      go_upto_region 11 with (go_at_call 16; refine (kPlace_any N _ S _ 0 _ (HBK.out.go hBb.out) HE1.out).mono ?_; rw [HVS.out.2.2.1, HVS.out.2.2.2.1]; rintro e wt ⟨rfl, hbt⟩; have HCt : Hid (Below w5.heap.size w5 wt) := bel HCb.out hbt; have HKt : Hid (Below wb.heap.size wb wt) := hbt; clear hbt; (obtain ⟨wo, hwo, HBo, hszo, hblko⟩ := box1 wt (.cells #[.int .i64 0, .int .i64 0] 30); have HZo := Lib.hid hblko; have z0 := cell_blk hblko 0 rfl; have z1 := cell_blk hblko 1 rfl; have f0 := free_blk hblko 0; have f1 := free_blk hblko 1; clear hblko))
      obtain ⟨wc, hwq, hzq, hoq, hbq⟩ := put2o HZo.out (.int .i64 pl) (.int .i64 ph)
      rw [hwq]
      have hbtq : Below wt.heap.size wt wc := HBo.out.trans hbq
      have HCc : Hid (Below w5.heap.size w5 wc) := bel HCt.out hbtq
      have HKwc : Hid (Below wb.heap.size wb wc) := bel HKt.out hbtq
      obtain ⟨P3, hP⟩ : ∃ P, wt.heap.size = P := ⟨_, rfl⟩
      rw [hP] at hzq ⊢
      have HZP3 := Lib.hid hzq
      clear hwo hszo z0 z1 f0 f1 hwq hzq hoq hbq HZo HBo hbtq hP HCt HKt r0 r1 r2 r3 o0 o1 o2 o3
      obtain ⟨⟨r0, r1, r2, r3⟩, o0, o1, o2, o3⟩ := HSR.out wc HCc.out
      go_upto_region 12 with (go_at_call 16; refine (kPlace_any _ _ (turnS S a b) _ 0 _ (HS5.out.go HCc.out) HE2.out).mono ?_; rw [HVT.out.2.2.1, HVT.out.2.2.2.1]; rintro e wt ⟨rfl, hbt⟩; have HCt : Hid (Below w5.heap.size w5 wt) := bel HCc.out hbt; have HKt : Hid (Below wc.heap.size wc wt) := hbt; clear hbt; (obtain ⟨wo, hwo, HBo, hszo, hblko⟩ := box1 wt (.cells #[.int .i64 0, .int .i64 0] 30); have HZo := Lib.hid hblko; have z0 := cell_blk hblko 0 rfl; have z1 := cell_blk hblko 1 rfl; have f0 := free_blk hblko 0; have f1 := free_blk hblko 1; clear hblko))
      obtain ⟨wd, hwq, hzq, hoq, hbq⟩ := put2o HZo.out (.int .i64 pl) (.int .i64 ph)
      rw [hwq]
      have hbtq : Below wt.heap.size wt wd := HBo.out.trans hbq
      have HCd : Hid (Below w5.heap.size w5 wd) := bel HCt.out hbtq
      have HKwd : Hid (Below wc.heap.size wc wd) := bel HKt.out hbtq
      obtain ⟨P4, hP⟩ : ∃ P, wt.heap.size = P := ⟨_, rfl⟩
      rw [hP] at hzq ⊢
      have HZP4 := Lib.hid hzq
      clear hwo hszo z0 z1 f0 f1 hwq hzq hoq hbq HZo HBo hbtq hP HCt HKt r0 r1 r2 r3 o0 o1 o2 o3
      obtain ⟨⟨r0, r1, r2, r3⟩, o0, o1, o2, o3⟩ := HSR.out wd HCd.out
      have a1' := (HKwb.out.block _ (heap_lt HZP1.out)).trans HZP1.out
      have a2' := (HKwc.out.block _ (heap_lt a1')).trans a1'
      have a3' := (HKwd.out.block _ (heap_lt a2')).trans a2'
      have b2' := (HKwc.out.block _ (heap_lt HZP2.out)).trans HZP2.out
      have b3' := (HKwd.out.block _ (heap_lt b2')).trans b2'
      have c3' := (HKwd.out.block _ (heap_lt HZP3.out)).trans HZP3.out
      have x0 := cell_blk a3' 0 rfl
      have x1 := cell_blk a3' 1 rfl
      have x2 := cell_blk b3' 0 rfl
      have x3 := cell_blk b3' 1 rfl
      have x4 := cell_blk c3' 0 rfl
      have x5 := cell_blk c3' 1 rfl
      have x6 := cell_blk HZP4.out 0 rfl
      have x7 := cell_blk HZP4.out 1 rfl
      clear a1' a2' a3' b2' b3' c3'
      have hBd : Hid (Below ws.heap.size ws wd) := bel HB5.out HCd.out
      go_upto_region 14 with fail
      clear x0 x1 x2 x3 x4 x5 x6 x7
      go_upto_region 15 with (go_at_call 17; refine (kPrize_any N _ S _ 0 _ (HBK.out.go hBd.out) HE1.out).mono ?_; rw [HVS.out.2.2.2.2.1]; rintro e we ⟨rfl, hbe⟩; have HCe : Hid (Below w5.heap.size w5 we) := bel HCd.out hbe; clear hbe)
      (try clear r0 r1 r2 r3 o0 o1 o2 o3)
      obtain ⟨⟨r0, r1, r2, r3⟩, o0, o1, o2, o3⟩ := HSR.out we HCe.out
      go_upto_region 16 with (go_at_call 17; refine (kPrize_any _ _ (turnS S a b) _ 0 _ (HS5.out.go HCe.out) HE2.out).mono ?_; rw [HVT.out.2.2.2.2.1]; rintro e wf ⟨rfl, hbf⟩; have HCf : Hid (Below w5.heap.size w5 wf) := bel HCe.out hbf; clear hbf)
      (try clear r0 r1 r2 r3 o0 o1 o2 o3)
      obtain ⟨⟨r0, r1, r2, r3⟩, o0, o1, o2, o3⟩ := HSR.out wf HCf.out
      have hBf : Hid (Below ws.heap.size ws wf) := bel HB5.out HCf.out
      go_upto_region 17 with (go_at_call 31; refine (kNeeds_any N _ S _ en _ (HBK.out.go hBf.out) HN3.out).mono ?_; rw [HVS.out.2.2.2.2.2]; rintro e wg ⟨rfl, hbg⟩; have HCg : Hid (Below w5.heap.size w5 wg) := bel HCf.out hbg; clear hbg)
      (try clear r0 r1 r2 r3 o0 o1 o2 o3)
      obtain ⟨⟨r0, r1, r2, r3⟩, o0, o1, o2, o3⟩ := HSR.out wg HCg.out
      go_upto_region 18 with (go_at_call 31; refine (kNeeds_any _ _ (turnS S a b) _ en _ (HS5.out.go HCg.out) HN4.out).mono ?_; rw [HVT.out.2.2.2.2.2]; rintro e wh ⟨rfl, hbh⟩; have HCh : Hid (Below w5.heap.size w5 wh) := bel HCg.out hbh; clear hbh)
      go_wp2_with fail
      go_roundw
      case rel => exact ⟨m + 1, by omega, by go_num, HCh⟩
      case measure => simp [intOf]; omega
    · have hmi : ¬ (m : Int) < (S.np : Int) := by omega
      have hBr : Hid (Below ws.heap.size ws wr) := bel HB5.out HCr.out
      go_upto_region 20 with fail
      go_upto_region 21 with (go_at_call 32; refine (kDecide_any N _ S ec _ (HBK.out.go hBr.out) HEC.out).mono ?_; rw [HL1.out]; rintro e wa ⟨u1, rfl, hu1, hba⟩; have HCa : Hid (Below w5.heap.size w5 wa) := bel HCr.out hba; have HU1 := Lib.hid hu1; clear hba hu1)
      (try clear r0 r1 r2 r3 o0 o1 o2 o3)
      obtain ⟨⟨r0, r1, r2, r3⟩, o0, o1, o2, o3⟩ := HSR.out wa HCa.out
      go_upto_region 22 with (go_at_call 32; refine (kDecide_any _ _ (turnS S a b) ec _ (HS5.out.go HCa.out) HECM.out).mono ?_; rw [HL2.out]; rintro e wb ⟨u2, rfl, hu2, hbb⟩; have HCb : Hid (Below w5.heap.size w5 wb) := bel HCa.out hbb; have HU2 := Lib.hid hu2; have HU3 := Lib.hid (HU1.out.mono hbb hbb.size); clear hbb hu2)
      (try clear r0 r1 r2 r3 o0 o1 o2 o3)
      obtain ⟨⟨r0, r1, r2, r3⟩, o0, o1, o2, o3⟩ := HSR.out wb HCb.out
      obtain ⟨ax, cx, rfl⟩ : ∃ a c, u1 = .slice a n1 c := by
        obtain ⟨a, c, e, _⟩ := HU1.out
        rw [HN1.out] at e; exact ⟨a, c, e⟩
      obtain ⟨ay, cy, rfl⟩ : ∃ a c, u2 = .slice a n1 c := by
        obtain ⟨a, c, e, _⟩ := HU2.out
        rw [HN2.out] at e; exact ⟨a, c, e⟩
      go_wp2_with fail
      clear r0 r1 r2 r3 o0 o1 o2 o3
      obtain ⟨wo, hwo⟩ : ∃ wo, wo = wr := ⟨_, rfl⟩
      subst hwo
      go_loopw [26] (fun i wr => ∃ g : Nat, g ≤ n1 ∧ i = .int .i64 g ∧ Hid (Below wb.heap.size wb wr)) (fun i _ => n1 - (intOf i).toNat)
      case atStart => exact ⟨0, Nat.zero_le _, rfl, Below.refl _ _⟩
      case round =>
        obtain ⟨g, hg, rfl, HDr⟩ := hrel
        have HCr2 : Hid (Below w5.heap.size w5 wr) := bel HCb.out HDr.out
        by_cases hgn : g < n1
        · have hgi : (g : Int) < (n1 : Int) := by omega
          obtain ⟨bx, ox, rfl, hbx, hcx⟩ := (HU3.out.go (Nat.le_refl _) HDr.out).cell (by rw [HN1.out]; omega)
          have hmem : l1.getD g 0 ∈ l1 := by rw [List.getD_eq_getElem?_getD, List.getElem?_eq_getElem (by rw [HN1.out]; exact hgn)]; exact List.getElem_mem _
          have hmem2 := hmem
          rw [← HL1.out] at hmem2
          obtain ⟨he0, hdm⟩ := spL_mem hmem2
          obtain ⟨kk, n, hkx, hJn, hkn, htm⟩ := dec_mem HG.out a b hdm
          rw [HL1.out] at hkx
          have cm := hcx g (by rw [HN1.out]; exact hgn)
          rw [hkx] at cm
          obtain ⟨t, ht⟩ : ∃ t, shf b n kk = t := ⟨_, rfl⟩
          have hrm : Int.tmod ((kk : Int) + (b : Int)) S.J = (t : Int) := by rw [hJn, ← ht]; exact tmod_shf (by omega)
          have HIN : Hid (anyB l2.length (fun j => decide (l2.getD j 0 = (t : Int))) = true) := by
            unfold Hid
            rw [anyB_true]
            have h2 : ((t : Nat) : Int) ∈ l2 := by rw [← HL2.out, he0]; rw [ht] at htm; exact htm
            obtain ⟨j, hj, e⟩ := List.getElem_of_mem h2
            exact ⟨j, hj, decide_eq_true (by rw [← e, List.getD_eq_getElem?_getD, List.getElem?_eq_getElem hj]; rfl)⟩
          have hk0 : ¬ (kk : Int) < 0 := by omega
          have hkJ : ¬ S.J ≤ (kk : Int) := by omega
          have hdk : decide ((kk : Int) < 0) = false := decide_eq_false hk0
          have hdj : decide (S.J ≤ (kk : Int)) = false := decide_eq_false hkJ
          have hJ0 : ¬ S.J = 0 := by omega
          have hwk : IntKind.i64.wrap ((kk : Int) + (b : Int)) = (kk : Int) + (b : Int) := IntWalk.i64_in _ (by omega)
          have ht100 : t ≤ 100 := by rw [← ht]; have := shf_lt (a := b) hkn; omega
          have HL2I : Hid (∀ W, Below wb.heap.size wb W → IntsAt wb.heap.size W (.slice ay n1 cy) l2.length (fun i => l2.getD i 0)) := fun W hW => HU2.out.go (Nat.le_refl _) hW
          clear hmem hmem2 hdm htm hkx hcx he0 ht hJn hkn
          have hSr : ((wr.cell? ⟨w.heap.size, 0, none⟩ = some (.int .i64 S.J) ∧ wr.cell? ⟨w.heap.size, 1, none⟩ = some (.int .i64 S.D) ∧ wr.cell? ⟨w.heap.size, 2, none⟩ = some (.int .i64 S.Z) ∧ wr.cell? ⟨w.heap.size, 3, none⟩ = some (.slice a1 S.np c1))) ∧ wr.cell? ⟨bx, ox + g, none⟩ = some (.int .i64 (kk : Int)) := ⟨(HSR.out wr HCr2.out).1, cm⟩
          go_upto_region 27 with fail
          refine wp_region_held_drew (S := fun W => ((W.cell? ⟨w.heap.size, 0, none⟩ = some (.int .i64 S.J) ∧ W.cell? ⟨w.heap.size, 1, none⟩ = some (.int .i64 S.D) ∧ W.cell? ⟨w.heap.size, 2, none⟩ = some (.int .i64 S.Z) ∧ W.cell? ⟨w.heap.size, 3, none⟩ = some (.slice a1 S.np c1))) ∧ W.cell? ⟨bx, ox + g, none⟩ = some (.int .i64 (kk : Int))) (by kernel_rfl) hSr (fun hHeld => ?_)
          (refine wpAnyH_take (i := 0) (v := ?_) rfl (by kernel_rfl) (by kernel_rfl) (by kernel_rfl) (fun _ _ _ h => h) (Or.inl ⟨by rfl, ?_⟩) (by assumption) ?_; rotate_left; (focus (intro w hSw; (try dsimp only at hSw); go_simp; (try with_reducible rfl))); (try simp only [List.getElem_toArray, List.getElem_cons_zero, List.getElem_cons_succ, Act.put, List.setIfInBounds_toArray, List.set_cons_zero, List.set_cons_succ])); (refine wpAnyH_take (i := 1) (v := ?_) rfl (by kernel_rfl) (by kernel_rfl) (by kernel_rfl) (fun _ _ _ h => h) (Or.inl ⟨by rfl, ?_⟩) (by assumption) ?_; rotate_left; (focus (intro w hSw; (try dsimp only at hSw); go_simp; (try with_reducible rfl))); (try simp only [List.getElem_toArray, List.getElem_cons_zero, List.getElem_cons_succ, Act.put, List.setIfInBounds_toArray, List.set_cons_zero, List.set_cons_succ])); (refine wpAnyH_take (i := 2) (v := ?_) rfl (by kernel_rfl) (by kernel_rfl) (by kernel_rfl) (fun _ _ _ h => h) (Or.inl ⟨by rfl, ?_⟩) (by assumption) ?_; rotate_left; (focus (intro w hSw; (try dsimp only at hSw); go_simp; (try with_reducible rfl))); (try simp only [List.getElem_toArray, List.getElem_cons_zero, List.getElem_cons_succ, Act.put, List.setIfInBounds_toArray, List.set_cons_zero, List.set_cons_succ])); (refine wpAnyH_take (i := 3) (v := ?_) rfl (by kernel_rfl) (by kernel_rfl) (by kernel_rfl) (fun _ _ _ h => h) (Or.inl ⟨by rfl, ?_⟩) (by assumption) ?_; rotate_left; (focus (intro w hSw; (try dsimp only at hSw); go_simp; (try with_reducible rfl))); (try simp only [List.getElem_toArray, List.getElem_cons_zero, List.getElem_cons_succ, Act.put, List.setIfInBounds_toArray, List.set_cons_zero, List.set_cons_succ])); (refine wpAnyH_take (i := 4) (v := ?_) rfl (by kernel_rfl) (by kernel_rfl) (by kernel_rfl) (fun _ _ _ h => h) (Or.inl ⟨by rfl, ?_⟩) (by assumption) ?_; rotate_left; (focus (intro w hSw; (try dsimp only at hSw); go_simp; (try with_reducible rfl))); (try simp only [List.getElem_toArray, List.getElem_cons_zero, List.getElem_cons_succ, Act.put, List.setIfInBounds_toArray, List.set_cons_zero, List.set_cons_succ])); (refine wpAnyH_take (i := 5) (v := ?_) rfl (by kernel_rfl) (by kernel_rfl) (by kernel_rfl) (fun _ _ _ h => h) (Or.inl ⟨by rfl, ?_⟩) (by assumption) ?_; rotate_left; (focus (intro w hSw; (try dsimp only at hSw); go_simp; (try with_reducible rfl))); (try simp only [List.getElem_toArray, List.getElem_cons_zero, List.getElem_cons_succ, Act.put, List.setIfInBounds_toArray, List.set_cons_zero, List.set_cons_succ])); (refine wpAnyH_take (i := 6) (v := ?_) rfl (by kernel_rfl) (by kernel_rfl) (by kernel_rfl) (fun _ _ _ h => h) (Or.inl ⟨by rfl, ?_⟩) (by assumption) ?_; rotate_left; (focus (intro w hSw; (try dsimp only at hSw); go_simp; (try with_reducible rfl))); (try simp only [List.getElem_toArray, List.getElem_cons_zero, List.getElem_cons_succ, Act.put, List.setIfInBounds_toArray, List.set_cons_zero, List.set_cons_succ])); (refine wpAnyH_take (i := 7) (v := ?_) rfl (by kernel_rfl) (by kernel_rfl) (by kernel_rfl) (fun _ _ _ h => h) (Or.inl ⟨by rfl, ?_⟩) (by assumption) ?_; rotate_left; (focus (intro w hSw; (try dsimp only at hSw); go_simp; (try with_reducible rfl))); (try simp only [List.getElem_toArray, List.getElem_cons_zero, List.getElem_cons_succ, Act.put, List.setIfInBounds_toArray, List.set_cons_zero, List.set_cons_succ])); (refine wpAnyH_take (i := 8) (v := ?_) rfl (by kernel_rfl) (by kernel_rfl) (by kernel_rfl) (fun _ _ _ h => h) (Or.inl ⟨by rfl, ?_⟩) (by assumption) ?_; rotate_left; (focus (intro w hSw; (try dsimp only at hSw); go_simp; (try with_reducible rfl))); (try simp only [List.getElem_toArray, List.getElem_cons_zero, List.getElem_cons_succ, Act.put, List.setIfInBounds_toArray, List.set_cons_zero, List.set_cons_succ])); (refine wpAnyH_take (i := 9) (v := ?_) rfl (by kernel_rfl) (by kernel_rfl) (by kernel_rfl) (fun _ _ _ h => h) (Or.inl ⟨by rfl, ?_⟩) (by assumption) ?_; rotate_left; (focus (intro w hSw; (try dsimp only at hSw); go_simp; (try with_reducible rfl))); (try simp only [List.getElem_toArray, List.getElem_cons_zero, List.getElem_cons_succ, Act.put, List.setIfInBounds_toArray, List.set_cons_zero, List.set_cons_succ])); (refine wpAnyH_take (i := 10) (v := ?_) rfl (by kernel_rfl) (by kernel_rfl) (by kernel_rfl) (fun _ _ _ h => h) (Or.inl ⟨by rfl, ?_⟩) (by assumption) ?_; rotate_left; (focus (intro w hSw; (try dsimp only at hSw); go_simp; (try with_reducible rfl))); (try simp only [List.getElem_toArray, List.getElem_cons_zero, List.getElem_cons_succ, Act.put, List.setIfInBounds_toArray, List.set_cons_zero, List.set_cons_succ])); (refine wpAnyH_take (i := 11) (v := ?_) rfl (by kernel_rfl) (by kernel_rfl) (by kernel_rfl) (fun _ _ _ h => h) (Or.inl ⟨by rfl, ?_⟩) (by assumption) ?_; rotate_left; (focus (intro w hSw; (try dsimp only at hSw); go_simp; (try with_reducible rfl))); (try simp only [List.getElem_toArray, List.getElem_cons_zero, List.getElem_cons_succ, Act.put, List.setIfInBounds_toArray, List.set_cons_zero, List.set_cons_succ])); (refine wpAnyH_take (i := 12) (v := ?_) rfl (by kernel_rfl) (by kernel_rfl) (by kernel_rfl) (fun _ _ _ h => h) (Or.inl ⟨by rfl, ?_⟩) (by assumption) ?_; rotate_left; (focus (intro w hSw; (try dsimp only at hSw); go_simp; (try with_reducible rfl))); (try simp only [List.getElem_toArray, List.getElem_cons_zero, List.getElem_cons_succ, Act.put, List.setIfInBounds_toArray, List.set_cons_zero, List.set_cons_succ])); (refine wpAnyH_take (i := 13) (v := ?_) rfl (by kernel_rfl) (by kernel_rfl) (by kernel_rfl) (fun _ _ _ h => h) (Or.inl ⟨by rfl, ?_⟩) (by assumption) ?_; rotate_left; (focus (intro w hSw; (try dsimp only at hSw); go_simp; (try with_reducible rfl))); (try simp only [List.getElem_toArray, List.getElem_cons_zero, List.getElem_cons_succ, Act.put, List.setIfInBounds_toArray, List.set_cons_zero, List.set_cons_succ])); (refine wpAnyH_take (i := 14) (v := ?_) rfl (by kernel_rfl) (by kernel_rfl) (by kernel_rfl) (fun _ _ _ h => h) (Or.inl ⟨by rfl, ?_⟩) (by assumption) ?_; rotate_left; (focus (intro w hSw; (try dsimp only at hSw); go_simp; (try with_reducible rfl))); (try simp only [List.getElem_toArray, List.getElem_cons_zero, List.getElem_cons_succ, Act.put, List.setIfInBounds_toArray, List.set_cons_zero, List.set_cons_succ])); (refine wpAnyH_take (i := 15) (v := ?_) rfl (by kernel_rfl) (by kernel_rfl) (by kernel_rfl) (fun _ _ _ h => h) (Or.inl ⟨by rfl, ?_⟩) (by assumption) ?_; rotate_left; (focus (intro w hSw; (try dsimp only at hSw); go_simp; (try with_reducible rfl))); (try simp only [List.getElem_toArray, List.getElem_cons_zero, List.getElem_cons_succ, Act.put, List.setIfInBounds_toArray, List.set_cons_zero, List.set_cons_succ])); (refine wpAnyH_take (i := 16) (v := ?_) rfl (by kernel_rfl) (by kernel_rfl) (by kernel_rfl) (fun _ _ _ h => h) (Or.inl ⟨by rfl, ?_⟩) (by assumption) ?_; rotate_left; (focus (intro w hSw; (try dsimp only at hSw); go_simp; (try with_reducible rfl))); (try simp only [List.getElem_toArray, List.getElem_cons_zero, List.getElem_cons_succ, Act.put, List.setIfInBounds_toArray, List.set_cons_zero, List.set_cons_succ])); (refine wpAnyH_take (i := 17) (v := ?_) rfl (by kernel_rfl) (by kernel_rfl) (by kernel_rfl) (fun _ _ _ h => h) (Or.inl ⟨by rfl, ?_⟩) (by assumption) ?_; rotate_left; (focus (intro w hSw; (try dsimp only at hSw); go_simp; (try with_reducible rfl))); (try simp only [List.getElem_toArray, List.getElem_cons_zero, List.getElem_cons_succ, Act.put, List.setIfInBounds_toArray, List.set_cons_zero, List.set_cons_succ])); (refine wpAnyH_take (i := 18) (v := ?_) rfl (by kernel_rfl) (by kernel_rfl) (by kernel_rfl) (fun _ _ _ h => h) (Or.inl ⟨by rfl, ?_⟩) (by assumption) ?_; rotate_left; (focus (intro w hSw; (try dsimp only at hSw); go_simp; (try with_reducible rfl))); (try simp only [List.getElem_toArray, List.getElem_cons_zero, List.getElem_cons_succ, Act.put, List.setIfInBounds_toArray, List.set_cons_zero, List.set_cons_succ])); (refine wpAnyH_take (i := 19) (v := ?_) rfl (by kernel_rfl) (by kernel_rfl) (by kernel_rfl) (fun _ _ _ h => h) (Or.inl ⟨by rfl, ?_⟩) (by assumption) ?_; rotate_left; (focus (intro w hSw; (try dsimp only at hSw); go_simp; (try with_reducible rfl))); (try simp only [List.getElem_toArray, List.getElem_cons_zero, List.getElem_cons_succ, Act.put, List.setIfInBounds_toArray, List.set_cons_zero, List.set_cons_succ])); (refine wpAnyH_take (i := 20) (v := ?_) rfl (by kernel_rfl) (by kernel_rfl) (by kernel_rfl) (fun _ _ _ h => h) (Or.inl ⟨by rfl, ?_⟩) (by assumption) ?_; rotate_left; (focus (intro w hSw; (try dsimp only at hSw); go_simp; (try with_reducible rfl))); (try simp only [List.getElem_toArray, List.getElem_cons_zero, List.getElem_cons_succ, Act.put, List.setIfInBounds_toArray, List.set_cons_zero, List.set_cons_succ])); (refine wpAnyH_take (i := 21) (v := ?_) rfl (by kernel_rfl) (by kernel_rfl) (by kernel_rfl) (fun _ _ _ h => h) (Or.inl ⟨by rfl, ?_⟩) (by assumption) ?_; rotate_left; (focus (intro w hSw; (try dsimp only at hSw); go_simp; (try with_reducible rfl))); (try simp only [List.getElem_toArray, List.getElem_cons_zero, List.getElem_cons_succ, Act.put, List.setIfInBounds_toArray, List.set_cons_zero, List.set_cons_succ])); (refine wpAnyH_take (i := 22) (v := ?_) rfl (by kernel_rfl) (by kernel_rfl) (by kernel_rfl) (fun _ _ _ h => h) (Or.inl ⟨by rfl, ?_⟩) (by assumption) ?_; rotate_left; (focus (intro w hSw; (try dsimp only at hSw); go_simp; (try with_reducible rfl))); (try simp only [List.getElem_toArray, List.getElem_cons_zero, List.getElem_cons_succ, Act.put, List.setIfInBounds_toArray, List.set_cons_zero, List.set_cons_succ])); (refine wpAnyH_take (i := 23) (v := ?_) rfl (by kernel_rfl) (by kernel_rfl) (by kernel_rfl) (fun _ _ _ h => h) (Or.inl ⟨by rfl, ?_⟩) (by assumption) ?_; rotate_left; (focus (intro w hSw; (try dsimp only at hSw); go_simp; (try with_reducible rfl))); (try simp only [List.getElem_toArray, List.getElem_cons_zero, List.getElem_cons_succ, Act.put, List.setIfInBounds_toArray, List.set_cons_zero, List.set_cons_succ])); (refine wpAnyH_take (i := 24) (v := ?_) rfl (by kernel_rfl) (by kernel_rfl) (by kernel_rfl) (fun _ _ _ h => h) (Or.inl ⟨by rfl, ?_⟩) (by assumption) ?_; rotate_left; (focus (intro w hSw; (try dsimp only at hSw); go_simp; (try with_reducible rfl))); (try simp only [List.getElem_toArray, List.getElem_cons_zero, List.getElem_cons_succ, Act.put, List.setIfInBounds_toArray, List.set_cons_zero, List.set_cons_succ]))
          refine wpAnyH_ready (rs := [25]) (by kernel_rfl) (by simp) ?_; refine AllReadyH.cons rfl (fun K hK => ?_) AllReadyH.nil; go_simp
          go_at_call 33
          refine (in_any _ _ l2.length (fun i => l2.getD i 0) (t : Int) _ (HL2I.out _ HDr.out.drew)).mono ?_
          rw [HIN.out]
          rintro e wI ⟨rfl, hwI⟩
          rw [hwI]
          clear hwI
          refine hK.out _ _ hSr (fun hHeld => ?_); clear hK K; (try simp only [List.getElem_toArray, List.getElem_cons_zero, List.getElem_cons_succ, Act.put, List.setIfInBounds_toArray, List.set_cons_zero, List.set_cons_succ])
          (refine wpAnyH_take (i := 26) (v := ?_) rfl (by kernel_rfl) (by kernel_rfl) (by kernel_rfl) (fun _ _ _ h => h) (Or.inl ⟨by rfl, ?_⟩) (by assumption) ?_; rotate_left; (focus (intro w hSw; (try dsimp only at hSw); go_simp; (try with_reducible rfl))); (try simp only [List.getElem_toArray, List.getElem_cons_zero, List.getElem_cons_succ, Act.put, List.setIfInBounds_toArray, List.set_cons_zero, List.set_cons_succ])); (refine wpAnyH_take (i := 27) (v := ?_) rfl (by kernel_rfl) (by kernel_rfl) (by kernel_rfl) (fun _ _ _ h => h) (Or.inl ⟨by rfl, ?_⟩) (by assumption) ?_; rotate_left; (focus (intro w hSw; (try dsimp only at hSw); go_simp; (try with_reducible rfl))); (try simp only [List.getElem_toArray, List.getElem_cons_zero, List.getElem_cons_succ, Act.put, List.setIfInBounds_toArray, List.set_cons_zero, List.set_cons_succ]))
          refine wpAnyH_done (by kernel_rfl) ?_ _; clear hHeld
          clear hSr
          go_wp2_with fail
          go_roundw
          case rel => exact ⟨g + 1, by omega, by go_num, Lib.hid HDr.out.drew⟩
          case measure => simp [intOf]; omega
        · have hgi : ¬ (g : Int) < (n1 : Int) := by omega
          have HBr : Hid (Below ws.heap.size ws wr) := bel HB5.out HCr2.out
          go_wp2_with (go_at_call 13; refine (works_any _).mono ?_; rintro e wz ⟨rfl, hbz⟩; have HBz : Hid (Below ws.heap.size ws wz) := bel HBr.out hbz; clear hbz)
          go_ret
          exact ⟨rfl, fin HB.out HBz.out⟩

end Go.Proofs.Ytffnlimgjnhmpaa
