/-
  JKS: room of a jury.
  JKRo: Room of package judges.
-/
import Derived.Test.YtffnlimgjnhmpaaJLink
import Derived.Test.YtffnlimgjnhmpaaJKR
import Derived.Test.YtffnlimgjnhmpaaJKQ
import Derived.Test.YtffnlimgjnhmpaaJKEn
namespace Go.Proofs.Ytffnlimgjnhmpaa
open Go.RowKit

theorem OwnI.keepT {K : Nat} {W W' : World} {u : Value} {l : List Int} {g : Nat} {cs : Array Value} {t : TypeId} (h : OwnI K W u l) (hg : W.heap[g]? = some (.cells cs t)) (ht : 3 ≠ t) (ho : ∀ b, b ≠ g → W'.heap[b]? = W.heap[b]?) : OwnI K W' u l := by
  obtain ⟨h0, h1 | ⟨g', cap, cur, e1, e2, e3, e4⟩⟩ := h
  · exact ⟨h0, .inl h1⟩
  · exact ⟨h0, .inr ⟨g', cap, cur, e1, e2, (ho g' (types_ne e3 hg ht)).trans e3, e4⟩⟩
set_option maxHeartbeats 6400000 in
set_option maxRecDepth 100000 in
theorem kroom_any (N : Nat) (v : Value) (S : JB) (q k : Nat) (w : World) (h : ShowAt N w v S) (hG : GoodS S) (hin : allIn S = true) (hq : q < S.np) (hk : k < (S.pts q).length) :
    Calls Try.prog 71 #[v, .agg #[.int .i64 q, .int .i64 k]] w fun e w' => e = .returned (.agg #[.int .i64 (room S q k 21).1, .int .i64 (room S q k 21).2]) ∧ Below w.heap.size w w' := by
  obtain ⟨a1, c1, rfl⟩ := h.form
  obtain ⟨wv, hwv, HBv, hszv, hszv1, hblk, hblk1⟩ := box2 w (.cells #[.int .i64 S.J, .int .i64 S.D, .int .i64 S.Z, .slice a1 S.np c1] 74) (.cells #[.int .i64 q, .int .i64 k] 46)
  obtain ⟨ws, hws, HBs, hszs, hblks⟩ := box1 wv (.cells #[.int .i64 0, .int .i64 0] 30)
  have HB : Hid (Below w.heap.size w ws) := HBv.out.trans (HBs.out.mono HBv.out.size)
  have hz0 := (HBs.out.block _ hszv).trans hblk
  have hz1 := (HBs.out.block _ hszv1).trans hblk1
  have hsz := Nat.lt_of_lt_of_le hszv HBs.out.size
  have hsz1 := Nat.lt_of_lt_of_le hszv1 HBs.out.size
  have q0 := cell_blk hz0 0 rfl
  have q1 := cell_blk hz0 1 rfl
  have q2 := cell_blk hz0 2 rfl
  have q3 := cell_blk hz0 3 rfl
  have p0 := cell_blk hz1 0 rfl
  have p1 := cell_blk hz1 1 rfl
  have HNZ : Hid (N ≤ w.heap.size) := h.1
  have HBK := Lib.hid (h.go HB.out)
  have HB0 : Hid (Below ws.heap.size ws ws) := Below.refl _ _
  have HNS : Hid (N ≤ ws.heap.size) := HBK.out.1
  have HZ1 := Lib.hid hblks
  have HVW : Hid (w.heap.size ≤ wv.heap.size) := HBv.out.size
  have hlen := h.len
  have HSQ : Hid (∀ W, Below ws.heap.size ws W → ((W.cell? ⟨w.heap.size, 0, none⟩ = some (.int .i64 S.J) ∧ W.cell? ⟨w.heap.size, 1, none⟩ = some (.int .i64 S.D) ∧ W.cell? ⟨w.heap.size, 2, none⟩ = some (.int .i64 S.Z) ∧ W.cell? ⟨w.heap.size, 3, none⟩ = some (.slice a1 S.np c1))) ∧ W.cell? ⟨w.heap.size + 1, 0, none⟩ = some (.int .i64 q) ∧ W.cell? ⟨w.heap.size + 1, 1, none⟩ = some (.int .i64 k)) := fun W hW => ⟨⟨(hW.cell (p := ⟨w.heap.size, 0, none⟩) hsz).trans q0, (hW.cell (p := ⟨w.heap.size, 1, none⟩) hsz).trans q1, (hW.cell (p := ⟨w.heap.size, 2, none⟩) hsz).trans q2, (hW.cell (p := ⟨w.heap.size, 3, none⟩) hsz).trans q3⟩, (hW.cell (p := ⟨w.heap.size + 1, 0, none⟩) hsz1).trans p0, (hW.cell (p := ⟨w.heap.size + 1, 1, none⟩) hsz1).trans p1⟩
  have HG := Lib.hid hG
  have HIN := Lib.hid hin
  have hnp6 : S.np ≤ 6 := hG.np
  have hpt : 0 ≤ (S.pts q).getD k 0 ∧ (S.pts q).getD k 0 ≤ 20 := by
    have hm : (S.pts q).getD k 0 ∈ S.pts q := by rw [List.getD_eq_getElem?_getD, List.getElem?_eq_getElem hk]; exact List.getElem_mem hk
    have h1 := hG.pt q hq _ hm
    have h2 := allIn_iff.1 hin q hq _ hm
    omega
  have HPT := Lib.hid hpt
  obtain ⟨A, C, hcap, _, hrows, hcells⟩ := HBK.out.plates.open
  obtain ⟨b, off, rfl, hbN, hrr⟩ := hcells (by omega)
  have d1 := (hrr q hq).2
  have hli := (hrows q hq).2
  obtain ⟨gr, or, hA, hgr, hrc⟩ := hli.cell (by omega)
  rw [hA] at d1
  obtain ⟨x, hx⟩ : ∃ x, (S.pts q).getD k 0 = x := ⟨_, rfl⟩
  have ck := hrc k hk
  rw [hx] at ck hpt
  have HX := Lib.hid hx
  obtain ⟨n, hn⟩ : ∃ n, (S.pts q).length = n := ⟨_, rfl⟩
  have HLN := Lib.hid hn
  rw [hn] at d1 hk
  have hqi : (q : Int) < (S.np : Int) := by omega
  have hki : (k : Int) < (n : Int) := by omega
  have hbw : b < ws.heap.size := by have := HNS.out; omega
  have hgw : gr < ws.heap.size := by have := HNS.out; omega
  have HDC : Hid (∀ W, Below ws.heap.size ws W → W.cell? ⟨b, off + q * 2 + 1, none⟩ = some (.slice (some ⟨gr, or, none⟩) n (C q)) ∧ W.cell? ⟨gr, or + k, none⟩ = some (.int .i64 x)) := fun W hW => ⟨(hW.cell (p := ⟨b, off + q * 2 + 1, none⟩) hbw).trans d1, (hW.cell (p := ⟨gr, or + k, none⟩) hgw).trans ck⟩
  clear hblk hblk1 h hz0 hz1 hblks hrr hrows hcells hli hA hrc hx hn d1 ck hG hin
  go_enter Try.func71, Try.ntmps71
  go_upto_region 1 with fail
  clear hwv
  go_upto_region 2 with (go_at_call 88; refine (agrees_any N _ S _ HBK.out HG.out.rj).mono ?_; rintro e w1 ⟨G, rfl, hC, hb1⟩; have HC := Lib.hid hC; have HB1 : Hid (Below ws.heap.size ws w1) := hb1; have HGL := Lib.hid hC.lt; clear hb1 hC)
  clear hws q0 q1 q2 q3 p0 p1
  obtain ⟨⟨r0, r1, r2, r3⟩, m0, m1⟩ := HSQ.out w1 HB1.out
  obtain ⟨d1, d2⟩ := HDC.out w1 HB1.out
  go_quiet (fail)
  obtain ⟨w2, hw2⟩ : ∃ w2, w1.drewN nq = w2 := ⟨_, rfl⟩
  rw [hw2]
  have hb12 : Below w1.heap.size w1 w2 := by rw [← hw2]; exact below_drewN (Below.refl _ _) _
  have HB2 : Hid (Below ws.heap.size ws w2) := bel HB1.out hb12
  have HC2 := Lib.hid (HC.out.below hb12)
  have hGW : G < ws.heap.size + 1 + w2.heap.size := by have := HC2.out.lt; omega
  obtain ⟨wo, hwo, HBo, hszo, hblko⟩ := box1 w2 (.cells #[.int .i64 0, .int .i64 0] 30)
  have HZo := Lib.hid hblko
  have z0 := cell_blk hblko 0 rfl
  have z1 := cell_blk hblko 1 rfl
  have f0 := free_blk hblko 0
  have f1 := free_blk hblko 1
  clear hw2 hb12 hblko r0 r1 r2 r3 m0 m1 d1 d2
  go_wp2_with fail
  go_upto_region 4 with fail
  obtain ⟨w3, hw3, hz3, ho3, hb3⟩ := put2o HZo.out (.int .i64 x) (.int .i64 x)
  rw [hw3]
  have hk3 : Below w2.heap.size w2 w3 := HBo.out.trans hb3
  have HB3 : Hid (Below ws.heap.size ws w3) := bel HB2.out hk3
  have HC3 := Lib.hid (HC2.out.below hk3)
  have HGS : Hid (G < w2.heap.size) := HC2.out.lt
  obtain ⟨g, hg⟩ : ∃ g, w2.heap.size = g := ⟨_, rfl⟩
  rw [hg] at hz3 HGS ⊢
  have HGW : Hid (ws.heap.size ≤ g) := by rw [← hg]; exact HB2.out.size
  have HZ3 := Lib.hid hz3
  clear hw3 hz3 ho3 hb3 hk3 z0 z1 f0 f1 hwo HZo HBo hszo HC2 hg hGW HB2 HB1 HC HGL
  go_wp2_with fail
  go_loopw [26] (fun i wr => ∃ m : Nat, m ≤ 21 ∧ i = .int .i64 m ∧ Hid (wr.heap[g]? = some (.cells #[.int .i64 (room S q k m).1, .int .i64 (room S q k m).2] 30)) ∧ Hid (CAP ws.heap.size wr G (prL S 1 S.np)) ∧ Hid (Below ws.heap.size ws wr)) (fun i _ => 21 - (intOf i).toNat)
  case atStart => exact ⟨0, Nat.zero_le _, rfl, by unfold Hid; rw [HZ3.out, ← HX.out]; rfl, HC3, HB3⟩
  case round =>
    obtain ⟨m, hm, rfl, HZr, HCr, HBr⟩ := hrel
    have hbd := room_bd (S := S) (q := q) (k := k) HPT.out hm
    obtain ⟨lo, hlo⟩ : ∃ lo, (room S q k m).1 = lo := ⟨_, rfl⟩
    obtain ⟨hi, hhi⟩ : ∃ hi, (room S q k m).2 = hi := ⟨_, rfl⟩
    rw [hlo, hhi] at hbd HZr
    have HLO := Lib.hid hlo
    have HHI := Lib.hid hhi
    obtain ⟨⟨r0, r1, r2, r3⟩, m0, m1⟩ := HSQ.out wr HBr.out
    by_cases hm21 : m < 21
    · have hmi : (m : Int) < 21 := by omega
      obtain ⟨bb, hbb⟩ : ∃ bb, decide (prL (withP S q k m) 1 S.np = prL S 1 S.np) = bb := ⟨_, rfl⟩
      have HBB := Lib.hid hbb
      have HGM : Hid (GoodS (withP S q k m)) := withP_good HG.out q k (by omega)
      have hgr := heap_lt HZr.out
      clear hlo hhi hbb
      cases bb with
      | true =>
        have HRM : Hid (room S q k (m + 1) = (min lo (m : Int), max hi (m : Int))) := by
          unfold Hid
          conv => lhs; unfold room
          rw [if_pos (by rw [← eq_with HIN.out]; exact of_decide_eq_true HBB.out), HLO.out, HHI.out]
        go_upto_region 8 with (first
          | (go_at_call 87; refine (kwith_any N _ S q k m _ (HBK.out.go HBr.out) HG.out.rj hq (by have := HLN.out; omega)).mono ?_; rintro e w4 ⟨v4, rfl, hs4, hb4⟩; obtain ⟨a4, c4, rfl⟩ := hs4.form; have HS4 := Lib.hid hs4; have HB4 := Lib.hid hb4; have HC4 := Lib.hid (HCr.out.below hb4); clear hs4 hb4)
          | (go_at_call 98; refine (agrees1_any w4.heap.size ws.heap.size G _ (withP S q k m) (prL S 1 S.np) w4 HS4.out HGM.out.rj HC4.out HC4.out.lt (Nat.le_trans (sel_len _ _) (by omega))).mono ?_; rw [show (withP S q k (m : Int)).np = S.np from rfl, HBB.out]; rintro e w5 ⟨rfl, hb5⟩; have HB5 : Hid (Below wr.heap.size wr w5) := bel HB4.out hb5; clear hb5))
        obtain ⟨mn, hmn⟩ : ∃ mn : Int, min lo (m : Int) = mn := ⟨_, rfl⟩
        obtain ⟨mx, hmx⟩ : ∃ mx : Int, max hi (m : Int) = mx := ⟨_, rfl⟩
        rw [hmn, hmx] at HRM
        have hminr : ∀ a b W, (Builtin.min_ a b #[.int .i64 lo, .int .i64 (m : Int)]).run Try.prog W = .ok (.int .i64 mn) W := fun a b W => by rw [run_min_int2]; congr 2; rw [← hmn]; split <;> omega
        have hmaxr : ∀ a b W, (Builtin.max_ a b #[.int .i64 hi, .int .i64 (m : Int)]).run Try.prog W = .ok (.int .i64 mx) W := fun a b W => by rw [run_max_int2]; congr 2; rw [← hmx]; split <;> omega
        have HZ5 := Lib.hid ((HB5.out.block _ hgr).trans HZr.out)
        have z0 := cell_blk HZ5.out 0 rfl
        have z1 := cell_blk HZ5.out 1 rfl
        have f0 := free_blk HZ5.out 0
        have f1 := free_blk HZ5.out 1
        clear hmn hmx r0 r1 r2 r3 m0 m1
        go_wp2_with fail
        go_upto_region 9 with fail
        obtain ⟨w6, hw6, hz6, ho6, hb6⟩ := put2o HZ5.out (.int .i64 mn) (.int .i64 mx)
        rw [hw6]
        have HZ6 : Hid (w6.heap[g]? = some (.cells #[.int .i64 (room S q k (m + 1)).1, .int .i64 (room S q k (m + 1)).2] 30)) := by unfold Hid; rw [hz6, HRM.out]
        have HC6 : Hid (CAP ws.heap.size w6 G (prL S 1 S.np)) := by
          obtain ⟨u, h1, h2, h3⟩ := HCr.out.below HB5.out
          exact ⟨u, h1, (ho6 _ (by have := HGS.out; omega)).trans h2, OwnI.keepT h3 HZ5.out (by decide) ho6⟩
        have HB6 : Hid (Below ws.heap.size ws w6) := (bel HBr.out HB5.out).trans (hb6.mono HGW.out)
        clear hw6 hz6 ho6 hb6 z0 z1 f0 f1
        go_wp2_with fail
        go_roundw
        case rel => exact ⟨m + 1, by omega, by go_num, HZ6, HC6, HB6⟩
        case measure => simp [intOf]; omega
      | false =>
        have HRM : Hid (room S q k (m + 1) = room S q k m) := by
          unfold Hid
          conv => lhs; unfold room
          rw [if_neg (by rw [← eq_with HIN.out]; exact of_decide_eq_false HBB.out)]
        go_upto_region 9 with (first
          | (go_at_call 87; refine (kwith_any N _ S q k m _ (HBK.out.go HBr.out) HG.out.rj hq (by have := HLN.out; omega)).mono ?_; rintro e w4 ⟨v4, rfl, hs4, hb4⟩; obtain ⟨a4, c4, rfl⟩ := hs4.form; have HS4 := Lib.hid hs4; have HB4 := Lib.hid hb4; have HC4 := Lib.hid (HCr.out.below hb4); clear hs4 hb4)
          | (go_at_call 98; refine (agrees1_any w4.heap.size ws.heap.size G _ (withP S q k m) (prL S 1 S.np) w4 HS4.out HGM.out.rj HC4.out HC4.out.lt (Nat.le_trans (sel_len _ _) (by omega))).mono ?_; rw [show (withP S q k (m : Int)).np = S.np from rfl, HBB.out]; rintro e w5 ⟨rfl, hb5⟩; have HB5 : Hid (Below wr.heap.size wr w5) := bel HB4.out hb5; clear hb5))
        have HZ6 : Hid (w5.heap[g]? = some (.cells #[.int .i64 (room S q k (m + 1)).1, .int .i64 (room S q k (m + 1)).2] 30)) := by unfold Hid; rw [HRM.out, HLO.out, HHI.out]; exact (HB5.out.block _ hgr).trans HZr.out
        have HC6 := Lib.hid (HCr.out.below HB5.out)
        have HB6 : Hid (Below ws.heap.size ws w5) := bel HBr.out HB5.out
        go_wp2_with fail
        go_roundw
        case rel => exact ⟨m + 1, by omega, by go_num, HZ6, HC6, HB6⟩
        case measure => simp [intOf]; omega
    · have hmi : ¬ (m : Int) < 21 := by omega
      have hm2 : m = 21 := by omega
      subst hm2
      have HZs := Lib.hid ((HBr.out.block _ hszs).trans HZ1.out)
      have x0 := cell_blk HZs.out 0 rfl
      have x1 := cell_blk HZs.out 1 rfl
      have e0 := free_blk HZs.out 0
      have e1 := free_blk HZs.out 1
      have z0 := cell_blk HZr.out 0 rfl
      have z1 := cell_blk HZr.out 1 rfl
      go_wp2_with fail
      obtain ⟨w6, hw6, hz6, ho6, hb6⟩ := put2o HZs.out (.int .i64 lo) (.int .i64 hi)
      rw [hw6]
      have s0 := cell_blk hz6 0 rfl
      have s1 := cell_blk hz6 1 rfl
      have hbf : Below w.heap.size w w6 := HB.out.trans ((HBr.out.mono HB.out.size).trans (hb6.mono HVW.out))
      exact bodyPost_ret (v := .agg #[.int .i64 lo, .int .i64 hi]) (by simp [results, Try.results71, go_sem, s0, s1]) rfl ⟨rfl, hbf⟩

end Go.Proofs.Ytffnlimgjnhmpaa

namespace Go.Proofs.Ytffnlimgjnhmpaa
open Go.RowKit

theorem isMk_nat {S : JB} {p j : Int} (hG : GoodS S) (h : isMk S p j = true) : ∃ q k : Nat, p = q ∧ j = k ∧ q < S.np ∧ k < (S.pts q).length := by
  unfold isMk at h
  rw [Bool.and_eq_true] at h
  obtain ⟨q, rfl, hq⟩ := inN_nat h.1
  have h2 := h.2
  simp only [Bool.and_eq_true, decide_eq_true_eq] at h2
  exact ⟨q, j.toNat, rfl, by omega, hq, by have := hG.len q hq; omega⟩
set_option maxHeartbeats 3200000 in
set_option maxRecDepth 100000 in
theorem kRoom_any (N : Nat) (v : Value) (S : JB) (p j er : Int) (w : World) (h : ShowAt N w v S) (her : errC (okS S) (isMk S p j) (allIn S) = er) :
    Calls Try.prog 38 #[v, .agg #[.int .i64 p, .int .i64 j]] w fun e w' => e = .returned (.tuple #[.agg #[.int .i64 (sp er (room S p.toNat j.toNat 21).1), .int .i64 (sp er (room S p.toNat j.toNat 21).2)], .int .i64 er]) ∧ Below w.heap.size w w' := by
  obtain ⟨a1, c1, rfl⟩ := h.form
  obtain ⟨wv, hwv, HBv, hszv, hszv1, hblk, hblk1⟩ := box2 w (.cells #[.int .i64 S.J, .int .i64 S.D, .int .i64 S.Z, .slice a1 S.np c1] 24) (.cells #[.int .i64 p, .int .i64 j] 46)
  obtain ⟨ws, hws, HBs, hszs, hblks⟩ := box1 wv (.cells #[.int .i64 0, .int .i64 0] 30)
  have HB : Hid (Below w.heap.size w ws) := HBv.out.trans (HBs.out.mono HBv.out.size)
  have hz0 := (HBs.out.block _ hszv).trans hblk
  have hz1 := (HBs.out.block _ hszv1).trans hblk1
  have hsz := Nat.lt_of_lt_of_le hszv HBs.out.size
  have hsz1 := Nat.lt_of_lt_of_le hszv1 HBs.out.size
  have q0 := cell_blk hz0 0 rfl
  have q1 := cell_blk hz0 1 rfl
  have q2 := cell_blk hz0 2 rfl
  have q3 := cell_blk hz0 3 rfl
  have p0 := cell_blk hz1 0 rfl
  have p1 := cell_blk hz1 1 rfl
  have HBK := Lib.hid (h.go HB.out)
  have HB0 : Hid (Below ws.heap.size ws ws) := Below.refl _ _
  have HZ1 := Lib.hid hblks
  have HVW : Hid (w.heap.size ≤ wv.heap.size) := HBv.out.size
  have HSQ : Hid (∀ W, Below ws.heap.size ws W → ((W.cell? ⟨w.heap.size, 0, none⟩ = some (.int .i64 S.J) ∧ W.cell? ⟨w.heap.size, 1, none⟩ = some (.int .i64 S.D) ∧ W.cell? ⟨w.heap.size, 2, none⟩ = some (.int .i64 S.Z) ∧ W.cell? ⟨w.heap.size, 3, none⟩ = some (.slice a1 S.np c1))) ∧ W.cell? ⟨w.heap.size + 1, 0, none⟩ = some (.int .i64 p) ∧ W.cell? ⟨w.heap.size + 1, 1, none⟩ = some (.int .i64 j)) := fun W hW => ⟨⟨(hW.cell (p := ⟨w.heap.size, 0, none⟩) hsz).trans q0, (hW.cell (p := ⟨w.heap.size, 1, none⟩) hsz).trans q1, (hW.cell (p := ⟨w.heap.size, 2, none⟩) hsz).trans q2, (hW.cell (p := ⟨w.heap.size, 3, none⟩) hsz).trans q3⟩, (hW.cell (p := ⟨w.heap.size + 1, 0, none⟩) hsz1).trans p0, (hW.cell (p := ⟨w.heap.size + 1, 1, none⟩) hsz1).trans p1⟩
  clear hblk hblk1 h hz0 hz1 hblks
  obtain ⟨ea, hea⟩ : ∃ x, errA (okS S) (isMk S p j) = x := ⟨_, rfl⟩
  by_cases h0 : ea = 0
  · subst h0
    obtain ⟨hok, him⟩ := errA_ok hea
    have HGS := Lib.hid (okS_good hok)
    obtain ⟨q, k, rfl, rfl, hq, hk⟩ := isMk_nat HGS.out him
    rw [hok, him] at her
    cases hin : allIn S with
    | true =>
      rw [hin] at her
      have he : er = 0 := her.symm
      subst he
      have HIN := Lib.hid hin
      obtain ⟨lo, hlo⟩ : ∃ x, (room S q k 21).1 = x := ⟨_, rfl⟩
      obtain ⟨hi, hhi⟩ : ∃ x, (room S q k 21).2 = x := ⟨_, rfl⟩
      have HLO := Lib.hid hlo
      have HHI := Lib.hid hhi
      have HSL : Hid (sp 0 (room S (q : Int).toNat (k : Int).toNat 21).1 = lo) := by unfold Hid; rw [Int.toNat_natCast, Int.toNat_natCast, sp_ok]; exact hlo
      have HSH : Hid (sp 0 (room S (q : Int).toNat (k : Int).toNat 21).2 = hi) := by unfold Hid; rw [Int.toNat_natCast, Int.toNat_natCast, sp_ok]; exact hhi
      clear her hin hlo hhi him hok
      go_enter Try.func38, Try.ntmps38
      go_upto_region 1 with fail
      clear hwv
      go_upto_region 2 with (go_at_call 62; refine (enterMark_ok N _ S q k _ HBK.out hea).mono ?_; rintro e w1 ⟨rfl, hb1⟩; have HB1 : Hid (Below ws.heap.size ws w1) := (bel HB0.out hb1); clear hb1; obtain ⟨wo, hwo, HBo, hszo, hblko⟩ := box1 w1 (.cells #[.int .i64 0, .int .i64 0, .int .i64 0, .slice none 0 0] 74); have HZo := Lib.hid hblko; have z0 := cell_blk hblko 0 rfl; have z1 := cell_blk hblko 1 rfl; have z2 := cell_blk hblko 2 rfl; have z3 := cell_blk hblko 3 rfl; have f0 := free_blk hblko 0; have f1 := free_blk hblko 1; have f2 := free_blk hblko 2; have f3 := free_blk hblko 3; clear hblko)
      obtain ⟨w2, hw2, hz2, ho2, hb2⟩ := put4o HZo.out (.int .i64 S.J) (.int .i64 S.D) (.int .i64 S.Z) (.slice a1 S.np c1)
      rw [hw2]
      have HB2 : Hid (Below ws.heap.size ws w2) := HB1.out.trans ((HBo.out.trans hb2).mono HB1.out.size)
      have HZ2 := Lib.hid hz2
      have hs12 : w1.heap.size < w2.heap.size := Nat.lt_of_lt_of_le hszo hb2.size
      clear hw2 ho2 hb2 z0 z1 z2 z3 f0 f1 f2 f3 hwo HZo HBo hszo
      obtain ⟨jb, hjb⟩ : ∃ jb, w1.heap.size = jb := ⟨_, rfl⟩
      rw [hjb] at hz2 HZ2 hs12 ⊢
      have HJB : Hid (ws.heap.size ≤ jb) := by rw [← hjb]; exact HB1.out.size
      have j0 := cell_blk hz2 0 rfl
      have j1 := cell_blk hz2 1 rfl
      have j2 := cell_blk hz2 2 rfl
      have j3 := cell_blk hz2 3 rfl
      clear hz2 hjb
      have hsz2 : wv.heap.size < w2.heap.size := Nat.lt_of_lt_of_le hszs HB2.out.size
      have HZq := Lib.hid ((HB2.out.block _ hszs).trans HZ1.out)
      have hjw : jb < w2.heap.size := heap_lt HZ2.out
      obtain ⟨⟨r0, r1, r2, r3⟩, t0, t1⟩ := HSQ.out w2 HB2.out
      go_wp2_with (first
        | (go_at_call 70; refine (isOpen_any N _ S _ (HBK.out.go HB2.out) HGS.out).mono ?_; rw [HIN.out]; rintro e w3 ⟨rfl, hb3⟩; have HB3 : Hid (Below ws.heap.size ws w3) := bel HB2.out hb3; have HJ3 := Lib.hid ((hb3.block _ hjw).trans HZ2.out); have HZr := Lib.hid ((hb3.block _ hsz2).trans HZq.out); clear j0 j1 j2 j3 r0 r1 r2 r3 t0 t1; obtain ⟨⟨r0, r1, r2, r3⟩, t0, t1⟩ := HSQ.out w3 HB3.out; have j0 := cell_blk HJ3.out 0 rfl; have j1 := cell_blk HJ3.out 1 rfl; have j2 := cell_blk HJ3.out 2 rfl; have j3 := cell_blk HJ3.out 3 rfl; clear hb3)
        | (go_at_call 71; refine (kroom_any N _ S q k _ (HBK.out.go HB3.out) HGS.out HIN.out hq hk).mono ?_; rw [HLO.out, HHI.out]; rintro e w5 ⟨rfl, hb5⟩; have HB5 : Hid (Below ws.heap.size ws w5) := bel HB3.out hb5; have HZ5 := Lib.hid ((hb5.block _ (heap_lt HZr.out)).trans HZr.out); have x0 := cell_blk HZ5.out 0 rfl; have x1 := cell_blk HZ5.out 1 rfl; have y0 := free_blk HZ5.out 0; have y1 := free_blk HZ5.out 1; clear hb5))
      obtain ⟨w6, hw6, hz6, ho6, hb6⟩ := put2o HZ5.out (.int .i64 lo) (.int .i64 hi)
      rw [hw6]
      have s0 := cell_blk hz6 0 rfl
      have s1 := cell_blk hz6 1 rfl
      have hbf : Below w.heap.size w w6 := HB.out.trans ((HB5.out.mono HB.out.size).trans (hb6.mono HVW.out))
      exact bodyPost_ret (v := .tuple #[.agg #[.int .i64 lo, .int .i64 hi], .int .i64 0]) (by simp [results, Try.results38, go_sem, s0, s1]) rfl ⟨by rw [HSL.out, HSH.out], hbf⟩
    | false =>
      rw [hin] at her
      have he : er = 81 := her.symm
      subst he
      have HIN := Lib.hid hin
      have HSL : Hid (sp 81 (room S (q : Int).toNat (k : Int).toNat 21).1 = 0) := sp_no (by decide) _
      have HSH : Hid (sp 81 (room S (q : Int).toNat (k : Int).toNat 21).2 = 0) := sp_no (by decide) _
      clear her hin him hok
      go_enter Try.func38, Try.ntmps38
      go_upto_region 1 with fail
      clear hwv
      go_upto_region 2 with (go_at_call 62; refine (enterMark_ok N _ S q k _ HBK.out hea).mono ?_; rintro e w1 ⟨rfl, hb1⟩; have HB1 : Hid (Below ws.heap.size ws w1) := (bel HB0.out hb1); clear hb1; obtain ⟨wo, hwo, HBo, hszo, hblko⟩ := box1 w1 (.cells #[.int .i64 0, .int .i64 0, .int .i64 0, .slice none 0 0] 74); have HZo := Lib.hid hblko; have z0 := cell_blk hblko 0 rfl; have z1 := cell_blk hblko 1 rfl; have z2 := cell_blk hblko 2 rfl; have z3 := cell_blk hblko 3 rfl; have f0 := free_blk hblko 0; have f1 := free_blk hblko 1; have f2 := free_blk hblko 2; have f3 := free_blk hblko 3; clear hblko)
      obtain ⟨w2, hw2, hz2, ho2, hb2⟩ := put4o HZo.out (.int .i64 S.J) (.int .i64 S.D) (.int .i64 S.Z) (.slice a1 S.np c1)
      rw [hw2]
      have HB2 : Hid (Below ws.heap.size ws w2) := HB1.out.trans ((HBo.out.trans hb2).mono HB1.out.size)
      have HZ2 := Lib.hid hz2
      have hs12 : w1.heap.size < w2.heap.size := Nat.lt_of_lt_of_le hszo hb2.size
      clear hw2 ho2 hb2 z0 z1 z2 z3 f0 f1 f2 f3 hwo HZo HBo hszo
      obtain ⟨jb, hjb⟩ : ∃ jb, w1.heap.size = jb := ⟨_, rfl⟩
      rw [hjb] at hz2 HZ2 hs12 ⊢
      have HJB : Hid (ws.heap.size ≤ jb) := by rw [← hjb]; exact HB1.out.size
      have j0 := cell_blk hz2 0 rfl
      have j1 := cell_blk hz2 1 rfl
      have j2 := cell_blk hz2 2 rfl
      have j3 := cell_blk hz2 3 rfl
      clear hz2 hjb
      have hsz2 : wv.heap.size < w2.heap.size := Nat.lt_of_lt_of_le hszs HB2.out.size
      have HZq := Lib.hid ((HB2.out.block _ hszs).trans HZ1.out)
      have hjw : jb < w2.heap.size := heap_lt HZ2.out
      obtain ⟨⟨r0, r1, r2, r3⟩, t0, t1⟩ := HSQ.out w2 HB2.out
      go_wp2_with (go_at_call 70; refine (isOpen_any N _ S _ (HBK.out.go HB2.out) HGS.out).mono ?_; rw [HIN.out]; rintro e w3 ⟨rfl, hb3⟩; have HB3 : Hid (Below ws.heap.size ws w3) := bel HB2.out hb3; have HZ5 := Lib.hid ((hb3.block _ hsz2).trans HZq.out); have x0 := cell_blk HZ5.out 0 rfl; have x1 := cell_blk HZ5.out 1 rfl; have y0 := free_blk HZ5.out 0; have y1 := free_blk HZ5.out 1; clear hb3)
      obtain ⟨w6, hw6, hz6, ho6, hb6⟩ := put2o HZ5.out (.int .i64 0) (.int .i64 0)
      rw [hw6]
      have s0 := cell_blk hz6 0 rfl
      have s1 := cell_blk hz6 1 rfl
      have hbf : Below w.heap.size w w6 := HB.out.trans ((HB3.out.mono HB.out.size).trans (hb6.mono HVW.out))
      exact bodyPost_ret (v := .tuple #[.agg #[.int .i64 0, .int .i64 0], .int .i64 81]) (by simp [results, Try.results38, go_sem, s0, s1]) rfl ⟨by rw [HSL.out, HSH.out], hbf⟩
  · have hee : er = ea := by
      rw [← her, ← hea]
      rw [← hea] at h0
      clear hea her
      unfold errA at h0 ⊢
      unfold errC
      revert h0
      cases okS S <;> cases isMk S p j <;> simp
    subst hee
    have HSL : Hid (sp er (room S p.toNat j.toNat 21).1 = 0) := sp_no h0 _
    have HSH : Hid (sp er (room S p.toNat j.toNat 21).2 = 0) := sp_no h0 _
    have hne : (er != 0) = true := by simpa using h0
    have HCN := Lib.hid (fun W (hW : Below ws.heap.size ws W) => enterMark_no N _ S p j er W (HBK.out.go hW) hea h0)
    clear h0 her hea
    go_enter Try.func38, Try.ntmps38
    go_upto_region 1 with fail
    clear hwv
    go_upto_region 2 with (go_at_call 62; refine (HCN.out _ HB0.out).mono ?_; rintro e w1 ⟨rfl, hb1⟩; have HB1 : Hid (Below ws.heap.size ws w1) := (bel HB0.out hb1); clear hb1; obtain ⟨wo, hwo, HBo, hszo, hblko⟩ := box1 w1 (.cells #[.int .i64 0, .int .i64 0, .int .i64 0, .slice none 0 0] 74); have HZo := Lib.hid hblko; have z0 := cell_blk hblko 0 rfl; have z1 := cell_blk hblko 1 rfl; have z2 := cell_blk hblko 2 rfl; have z3 := cell_blk hblko 3 rfl; have f0 := free_blk hblko 0; have f1 := free_blk hblko 1; have f2 := free_blk hblko 2; have f3 := free_blk hblko 3; clear hblko)
    obtain ⟨w2, hw2, hz2, ho2, hb2⟩ := put4o HZo.out (.int .i64 0) (.int .i64 0) (.int .i64 0) (.slice none 0 0)
    rw [hw2]
    have HB2 : Hid (Below ws.heap.size ws w2) := HB1.out.trans ((HBo.out.trans hb2).mono HB1.out.size)
    have HZ2 := Lib.hid hz2
    have hs12 : w1.heap.size < w2.heap.size := Nat.lt_of_lt_of_le hszo hb2.size
    clear hw2 ho2 hb2 z0 z1 z2 z3 f0 f1 f2 f3 hwo HZo HBo hszo
    obtain ⟨jb, hjb⟩ : ∃ jb, w1.heap.size = jb := ⟨_, rfl⟩
    rw [hjb] at hz2 HZ2 hs12 ⊢
    have HJB : Hid (ws.heap.size ≤ jb) := by rw [← hjb]; exact HB1.out.size
    have j0 := cell_blk hz2 0 rfl
    have j1 := cell_blk hz2 1 rfl
    have j2 := cell_blk hz2 2 rfl
    have j3 := cell_blk hz2 3 rfl
    clear hz2 hjb
    have HZ5 := Lib.hid ((HB2.out.block _ hszs).trans HZ1.out)
    have x0 := cell_blk HZ5.out 0 rfl
    have x1 := cell_blk HZ5.out 1 rfl
    have y0 := free_blk HZ5.out 0
    have y1 := free_blk HZ5.out 1
    go_wp2_with fail
    obtain ⟨w6, hw6, hz6, ho6, hb6⟩ := put2o HZ5.out (.int .i64 0) (.int .i64 0)
    rw [hw6]
    have s0 := cell_blk hz6 0 rfl
    have s1 := cell_blk hz6 1 rfl
    have hbf : Below w.heap.size w w6 := HB.out.trans ((HB2.out.mono HB.out.size).trans (hb6.mono HVW.out))
    exact bodyPost_ret (v := .tuple #[.agg #[.int .i64 0, .int .i64 0], .int .i64 er]) (by simp [results, Try.results38, go_sem, s0, s1]) rfl ⟨by rw [HSL.out, HSH.out], hbf⟩

end Go.Proofs.Ytffnlimgjnhmpaa
