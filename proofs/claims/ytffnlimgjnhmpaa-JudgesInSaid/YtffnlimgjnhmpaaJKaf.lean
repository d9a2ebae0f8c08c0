/-
  JKaf: after of a jury; After of package judges, for a mark that is not in yet.
-/
import Derived.Test.YtffnlimgjnhmpaaJKRo
namespace Go.Proofs.Ytffnlimgjnhmpaa
open Go.RowKit

theorem opens_len (S : JB) : (prL S 3 S.np).length = opens S := by unfold prL opens; exact sel_cnt _ _
set_option maxHeartbeats 6400000 in
set_option maxRecDepth 100000 in
theorem kafter_any (N : Nat) (v : Value) (S : JB) (q k : Nat) (w : World) (h : ShowAt N w v S) (hG : GoodS S) (hq : q < S.np) (hk : k < (S.pts q).length) :
    Calls Try.prog 64 #[v, .agg #[.int .i64 q, .int .i64 k]] w fun e w' => e = .returned (.int .i64 (aft S q k 21 : Nat)) ∧ Below w.heap.size w w' := by
  obtain ⟨a1, c1, rfl⟩ := h.form
  obtain ⟨ws, hws, HB, hsz, hsz1, hblk, hblk1⟩ := box2 w (.cells #[.int .i64 S.J, .int .i64 S.D, .int .i64 S.Z, .slice a1 S.np c1] 74) (.cells #[.int .i64 q, .int .i64 k] 46)
  have q0 := cell_blk hblk 0 rfl
  have q1 := cell_blk hblk 1 rfl
  have q2 := cell_blk hblk 2 rfl
  have q3 := cell_blk hblk 3 rfl
  have p0 := cell_blk hblk1 0 rfl
  have p1 := cell_blk hblk1 1 rfl
  have HBK := Lib.hid (h.go HB.out)
  have HG := Lib.hid hG
  have HKL := Lib.hid hk
  have HQN := Lib.hid hq
  have hnp6 : S.np ≤ 6 := hG.np
  have HSQ : Hid (∀ W, Below ws.heap.size ws W → ((W.cell? ⟨w.heap.size, 0, none⟩ = some (.int .i64 S.J) ∧ W.cell? ⟨w.heap.size, 1, none⟩ = some (.int .i64 S.D) ∧ W.cell? ⟨w.heap.size, 2, none⟩ = some (.int .i64 S.Z) ∧ W.cell? ⟨w.heap.size, 3, none⟩ = some (.slice a1 S.np c1))) ∧ W.cell? ⟨w.heap.size + 1, 0, none⟩ = some (.int .i64 q) ∧ W.cell? ⟨w.heap.size + 1, 1, none⟩ = some (.int .i64 k)) := fun W hW => ⟨⟨(hW.cell (p := ⟨w.heap.size, 0, none⟩) hsz).trans q0, (hW.cell (p := ⟨w.heap.size, 1, none⟩) hsz).trans q1, (hW.cell (p := ⟨w.heap.size, 2, none⟩) hsz).trans q2, (hW.cell (p := ⟨w.heap.size, 3, none⟩) hsz).trans q3⟩, (hW.cell (p := ⟨w.heap.size + 1, 0, none⟩) hsz1).trans p0, (hW.cell (p := ⟨w.heap.size + 1, 1, none⟩) hsz1).trans p1⟩
  have HB0 : Hid (Below ws.heap.size ws ws) := Below.refl _ _
  clear hblk hblk1 h hG hq hk q0 q1 q2 q3 p0 p1
  go_enter Try.func64, Try.ntmps64
  go_wp2_with fail
  clear hws
  go_loopw [5, 7] (fun mv i wr => ∃ m : Nat, m ≤ 21 ∧ mv = .int .i64 (aft S q k m : Nat) ∧ i = .int .i64 m ∧ Hid (Below ws.heap.size ws wr)) (fun _ i _ => 21 - (intOf i).toNat)
  case atStart => exact ⟨0, Nat.zero_le _, rfl, rfl, HB0⟩
  case round =>
    obtain ⟨m, hm, rfl, rfl, HBr⟩ := hrel
    obtain ⟨af, haf⟩ : ∃ a, aft S q k m = a := ⟨_, rfl⟩
    have HAF := Lib.hid haf
    have hafn : af ≤ S.np := by rw [← haf]; exact aft_np S q k m
    rw [haf]
    clear haf
    obtain ⟨⟨r0, r1, r2, r3⟩, m0, m1⟩ := HSQ.out wr HBr.out
    by_cases hm21 : m < 21
    · have hmi : (m : Int) < 21 := by omega
      have HGM : Hid (GoodS (withP S q k m)) := withP_good HG.out q k (by omega)
      obtain ⟨mx, hmx⟩ : ∃ x, max af (opens (withP S q k (m : Int))) = x := ⟨_, rfl⟩
      have HAX : Hid (aft S q k (m + 1) = mx) := by rw [← hmx, ← HAF.out]; rfl
      obtain ⟨on, hon⟩ : ∃ x, opens (withP S q k (m : Int)) = x := ⟨_, rfl⟩
      rw [hon] at hmx
      have hmaxr : ∀ a b W, (Builtin.max_ a b #[.int .i64 (af : Int), .int .i64 (on : Int)]).run Try.prog W = .ok (.int .i64 (mx : Int)) W := fun a b W => by rw [run_max_int2]; congr 2; rw [← hmx]; split <;> omega
      have HON : Hid ((prL (withP S q k (m : Int)) 3 (withP S q k (m : Int)).np).length = on) := (opens_len _).trans hon
      clear hmx hon
      go_wp2_with (first
        | (go_at_call 87; refine (kwith_any N _ S q k m _ (HBK.out.go HBr.out) HG.out.rj HQN.out HKL.out).mono ?_; rintro e w4 ⟨v4, rfl, hs4, hb4⟩; obtain ⟨a4, c4, rfl⟩ := hs4.form; have HS4 := Lib.hid hs4; have HB4 := Lib.hid hb4; clear hs4 hb4)
        | (go_at_call 69; refine (kprizes_any _ _ (withP S q k (m : Int)) _ HS4.out HGM.out.rj).mono ?_; rintro e w5 ⟨B, rfl, hB5, hgm, hb5⟩; have HB5 : Hid (Below ws.heap.size ws w5) := bel HBr.out (bel HB4.out hb5); obtain ⟨v3, hl3, ho3⟩ := hgm.look (show S.np ≤ 1000 from Nat.le_trans hnp6 (by omega)) 3 rfl; obtain ⟨av, cv, rfl⟩ := ho3.form; rw [HON.out] at hl3; clear hgm hb5 hB5 ho3))
      go_roundw
      case rel => exact ⟨m + 1, by omega, by rw [HAX.out], by go_num, HB5⟩
      case measure => simp [intOf]; omega
    · have hmi : ¬ (m : Int) < 21 := by omega
      have hm2 : m = 21 := by omega
      subst hm2
      go_wp2_with fail
      go_ret
      exact ⟨ret_int (by rw [HAF.out]), fin HB.out HBr.out⟩

set_option maxHeartbeats 6400000 in
set_option maxRecDepth 100000 in
theorem kAfter_ok (N : Nat) (v : Value) (S : JB) (q k : Nat) (w : World) (h : ShowAt N w v S) (hea : errA (okS S) (isMk S q k) = 0) (hG : GoodS S) (hq : q < S.np) (hk : k < (S.pts q).length) (ho : opn S q k = true) :
    Calls Try.prog 27 #[v, .agg #[.int .i64 q, .int .i64 k]] w fun e w' => e = .returned (.tuple #[.int .i64 (aft S q k 21 : Nat), .int .i64 0]) ∧ Below w.heap.size w w' := by
  obtain ⟨a1, c1, rfl⟩ := h.form
  obtain ⟨ws, hws, HB, hsz, hsz1, hblk, hblk1⟩ := box2 w (.cells #[.int .i64 S.J, .int .i64 S.D, .int .i64 S.Z, .slice a1 S.np c1] 24) (.cells #[.int .i64 q, .int .i64 k] 46)
  have q0 := cell_blk hblk 0 rfl
  have q1 := cell_blk hblk 1 rfl
  have q2 := cell_blk hblk 2 rfl
  have q3 := cell_blk hblk 3 rfl
  have p0 := cell_blk hblk1 0 rfl
  have p1 := cell_blk hblk1 1 rfl
  have HBK := Lib.hid (h.go HB.out)
  have HG := Lib.hid hG
  have HKL := Lib.hid hk
  have HQN := Lib.hid hq
  have HOP := Lib.hid ho
  have HEA := Lib.hid hea
  obtain ⟨af, haf⟩ : ∃ a, aft S q k 21 = a := ⟨_, rfl⟩
  have HAF := Lib.hid haf
  have HSQ : Hid (∀ W, Below ws.heap.size ws W → ((W.cell? ⟨w.heap.size, 0, none⟩ = some (.int .i64 S.J) ∧ W.cell? ⟨w.heap.size, 1, none⟩ = some (.int .i64 S.D) ∧ W.cell? ⟨w.heap.size, 2, none⟩ = some (.int .i64 S.Z) ∧ W.cell? ⟨w.heap.size, 3, none⟩ = some (.slice a1 S.np c1))) ∧ W.cell? ⟨w.heap.size + 1, 0, none⟩ = some (.int .i64 q) ∧ W.cell? ⟨w.heap.size + 1, 1, none⟩ = some (.int .i64 k)) := fun W hW => ⟨⟨(hW.cell (p := ⟨w.heap.size, 0, none⟩) hsz).trans q0, (hW.cell (p := ⟨w.heap.size, 1, none⟩) hsz).trans q1, (hW.cell (p := ⟨w.heap.size, 2, none⟩) hsz).trans q2, (hW.cell (p := ⟨w.heap.size, 3, none⟩) hsz).trans q3⟩, (hW.cell (p := ⟨w.heap.size + 1, 0, none⟩) hsz1).trans p0, (hW.cell (p := ⟨w.heap.size + 1, 1, none⟩) hsz1).trans p1⟩
  have HB0 : Hid (Below ws.heap.size ws ws) := Below.refl _ _
  rw [haf]
  clear hblk hblk1 h hG hq hk ho hea haf
  go_enter Try.func27, Try.ntmps27
  go_upto_region 1 with fail
  go_upto_region 2 with (go_at_call 62; refine (enterMark_ok N _ S q k _ HBK.out HEA.out).mono ?_; rintro e w1 ⟨rfl, hb1⟩; have HB1 : Hid (Below ws.heap.size ws w1) := (bel HB0.out hb1); clear hb1; obtain ⟨wo, hwo, HBo, hszo, hblko⟩ := box1 w1 (.cells #[.int .i64 0, .int .i64 0, .int .i64 0, .slice none 0 0] 74); have HZo := Lib.hid hblko; have z0 := cell_blk hblko 0 rfl; have z1 := cell_blk hblko 1 rfl; have z2 := cell_blk hblko 2 rfl; have z3 := cell_blk hblko 3 rfl; have f0 := free_blk hblko 0; have f1 := free_blk hblko 1; have f2 := free_blk hblko 2; have f3 := free_blk hblko 3; clear hblko)
  obtain ⟨w2, hw2, hz2, ho2, hb2⟩ := put4o HZo.out (.int .i64 S.J) (.int .i64 S.D) (.int .i64 S.Z) (.slice a1 S.np c1)
  rw [hw2]
  have HB2 : Hid (Below ws.heap.size ws w2) := HB1.out.trans ((HBo.out.trans hb2).mono HB1.out.size)
  have HZ2 := Lib.hid hz2
  have hs12 : w1.heap.size < w2.heap.size := Nat.lt_of_lt_of_le hszo hb2.size
  clear hw2 ho2 hb2 z0 z1 z2 z3 f0 f1 f2 f3 hwo HZo HBo hszo
  obtain ⟨jb, hjb⟩ : ∃ jb, w1.heap.size = jb := ⟨_, rfl⟩
  rw [hjb] at hz2 HZ2 hs12 ⊢
  have HJB : Hid (ws.heap.size ≤ jb) := by rw [← hjb]; exact HB1.out.size
  have j0 := cell_blk hz2 0 rfl
  have j1 := cell_blk hz2 1 rfl
  have j2 := cell_blk hz2 2 rfl
  have j3 := cell_blk hz2 3 rfl
  clear hz2 hjb
  have hjw : jb < w2.heap.size := heap_lt HZ2.out
  clear q0 q1 q2 q3 p0 p1
  obtain ⟨⟨r0, r1, r2, r3⟩, m0, m1⟩ := HSQ.out w2 HB2.out
  go_wp2_with (first
    | (go_at_call 63; refine (kwaits_any N _ S q k _ (HBK.out.go HB2.out) HQN.out HKL.out).mono ?_; rw [HOP.out]; rintro e w3 ⟨rfl, hb3⟩; have HB3 : Hid (Below ws.heap.size ws w3) := bel HB2.out hb3; have HJ3 := Lib.hid ((hb3.block _ hjw).trans HZ2.out); clear j0 j1 j2 j3 r0 r1 r2 r3 m0 m1; obtain ⟨⟨r0, r1, r2, r3⟩, m0, m1⟩ := HSQ.out w3 HB3.out; have j0 := cell_blk HJ3.out 0 rfl; have j1 := cell_blk HJ3.out 1 rfl; have j2 := cell_blk HJ3.out 2 rfl; have j3 := cell_blk HJ3.out 3 rfl; clear hb3)
    | (go_at_call 64; refine (kafter_any N _ S q k _ (HBK.out.go HB3.out) HG.out HQN.out HKL.out).mono ?_; rw [HAF.out]; rintro e w4 ⟨rfl, hb4⟩; have HB4 : Hid (Below ws.heap.size ws w4) := bel HB3.out hb4; clear hb4))
  go_ret2
  exact ⟨rfl, fin HB.out HB4.out⟩

end Go.Proofs.Ytffnlimgjnhmpaa
