/-
  MarksOrder where something is not valid.
-/
import Derived.Test.YtopajgnemeodeaaLeave3
import Derived.Test.YtopajgnemeodeaaCApart
import Derived.Test.YtopajgnemeodeaaOrder5
import Derived.Deep.DeepCutAuto
namespace Go.Proofs.Ytopajgnemeodeaa
open Go.RowKit

set_option maxHeartbeats 8000000 in
set_option maxRecDepth 100000 in
theorem order_out (N : Nat) (v u : Value) (B : Bk) (R : Fr) (ts tm tf s t pf pm : Int) (w : World) (h : BookAt N w v B) (hf : FruitsAt N w u R)
    (hn : ¬ (rdy B R = true ∧ (0 ≤ ts ∧ 0 ≤ tm ∧ 0 ≤ tf) ∧ (ts ≤ 100 ∧ tm ≤ 100 ∧ tf ≤ 100) ∧ (decide (0 ≤ s) && decide (s < (B.ns : Int))) = true ∧ (decide (0 ≤ t) && decide (t < (B.ns : Int))) = true ∧ inPlace B R pf pm = true)) :
    Calls Try.prog 10 #[v, u, .agg #[.int .i64 ts, .int .i64 tm, .int .i64 tf, .int .i64 s, .int .i64 t, .int .i64 pf, .int .i64 pm]] w fun e w' => e = .returned (.bool true) ∧ Below w.heap.size w w' := by
  have h' := h
  obtain ⟨_, a1, c1, a2, c2, a3, c3, rfl, _⟩ := h'
  obtain ⟨ws, hws, HB, hsz, hsz1, hsz2, hblk, hblk1, hblk2⟩ := box3 w (.cells #[.slice a1 B.nv c1, .slice a2 B.nf c2, .slice a3 B.ns c3, .int .i64 B.wr] 25) (.cells #[.int .i64 ts, .int .i64 tm, .int .i64 tf, .int .i64 s, .int .i64 t, .int .i64 pf, .int .i64 pm] 79) (.cells #[.int .i64 ts, .int .i64 tm, .int .i64 tf] 77)
  have q0 := cell_blk hblk 0 rfl
  have q1 := cell_blk hblk 1 rfl
  have q2 := cell_blk hblk 2 rfl
  have q3 := cell_blk hblk 3 rfl
  have p0 := cell_blk hblk1 0 rfl
  have p1 := cell_blk hblk1 1 rfl
  have p2 := cell_blk hblk1 2 rfl
  have p3 := cell_blk hblk1 3 rfl
  have p4 := cell_blk hblk1 4 rfl
  have p5 := cell_blk hblk1 5 rfl
  have p6 := cell_blk hblk1 6 rfl
  have r0 := cell_blk hblk2 0 rfl
  have r1 := cell_blk hblk2 1 rfl
  have r2 := cell_blk hblk2 2 rfl
  obtain ⟨HBF, HB0⟩ := entry HB.out h hf
  clear hblk hblk1 hblk2 h hf
  obtain ⟨af, cf, rfl, hRn, _⟩ := id HBF.out.2
  obtain ⟨mn, hmn⟩ : ∃ mn : Int, mn = min (min ts tm) tf := ⟨_, rfl⟩
  obtain ⟨mx, hmx⟩ : ∃ mx : Int, mx = max (max ts tm) tf := ⟨_, rfl⟩
  have hmin3 : ∀ (a : Array TypeId) (b : TypeId) (W : World), (Builtin.min_ a b #[.int .i64 ts, .int .i64 tm, .int .i64 tf]).run Try.prog W = .ok (.int .i64 mn) W := fun a b W => by
    rw [run_min_int3]
    congr 2
    rw [hmn]
    repeat' split
    all_goals omega
  have hmax3 : ∀ (a : Array TypeId) (b : TypeId) (W : World), (Builtin.max_ a b #[.int .i64 ts, .int .i64 tm, .int .i64 tf]).run Try.prog W = .ok (.int .i64 mx) W := fun a b W => by
    rw [run_max_int3]
    congr 2
    rw [hmx]
    repeat' split
    all_goals omega
  have hn1 : ¬ (rdy B R = true ∧ ¬ mn < 0 ∧ ¬ 100 < mx ∧ (decide (0 ≤ s) && decide (s < (B.ns : Int))) = true ∧ (decide (0 ≤ t) && decide (t < (B.ns : Int))) = true ∧ inPlace B R pf pm = true) := by
    rintro ⟨k1, k2, k3, k4⟩
    exact hn ⟨k1, by omega, by omega, k4⟩
  have HN1 := Lib.hid hn1
  clear hmn hmx hn hn1
  go_enter Try.func10, Try.ntmps10
  go_upto_region 2 with fail
  go_cut [72] (fun c wx => c = .bool true ∧ Hid (Below ws.heap.size ws wx))
  case first =>
    cases hr : rdy B R with
    | false =>
      have HR := Lib.hid hr
      clear hr
      go_wp2_with (first
        | (go_at_call 44; refine (ready_any N _ _ B R _ (HBF.out.go HB0.out).1 (HBF.out.go HB0.out).2).mono ?_; rintro e w1 ⟨rfl, hb1⟩; rw [HR.out]; (try clear c0); have HB1 := Lib.hid (bel HB0.out hb1); have c1 := (old_of HB1.out).1; clear hb1))
      go_meet
      exact ⟨rfl, HB1⟩
    | true =>
    have HR := Lib.hid hr
    clear hr
    by_cases h0 : mn < 0
    · have d0 : decide (mn < 0) = true := decide_eq_true h0
      go_wp2_with (first
        | (go_at_call 44; refine (ready_any N _ _ B R _ (HBF.out.go HB0.out).1 (HBF.out.go HB0.out).2).mono ?_; rintro e w1 ⟨rfl, hb1⟩; rw [HR.out]; (try clear c0); have HB1 := Lib.hid (bel HB0.out hb1); have c1 := (old_of HB1.out).1; clear hb1))
      go_meet
      exact ⟨rfl, HB1⟩
    have d0 : decide (mn < 0) = false := decide_eq_false h0
    by_cases h100 : 100 < mx
    · have d1 : decide (100 < mx) = true := decide_eq_true h100
      go_wp2_with (first
        | (go_at_call 44; refine (ready_any N _ _ B R _ (HBF.out.go HB0.out).1 (HBF.out.go HB0.out).2).mono ?_; rintro e w1 ⟨rfl, hb1⟩; rw [HR.out]; (try clear c0); have HB1 := Lib.hid (bel HB0.out hb1); have c1 := (old_of HB1.out).1; clear hb1))
      go_meet
      exact ⟨rfl, HB1⟩
    have d1 : decide (100 < mx) = false := decide_eq_false h100
    cases hs : (decide (0 ≤ s) && decide (s < (B.ns : Int))) with
    | false =>
      have HS := Lib.hid hs
      clear hs
      go_wp2_with (first
        | (go_at_call 44; refine (ready_any N _ _ B R _ (HBF.out.go HB0.out).1 (HBF.out.go HB0.out).2).mono ?_; rintro e w1 ⟨rfl, hb1⟩; rw [HR.out]; (try clear c0); have HB1 := Lib.hid (bel HB0.out hb1); have c1 := (old_of HB1.out).1; clear hb1)
        | (go_at_call 54; refine (isSort_any N _ B s _ (HBF.out.go HB1.out).1).mono ?_; rintro e w2 ⟨rfl, hb2⟩; rw [HS.out]; (try clear c1); have HB2 := Lib.hid (bel HB1.out hb2); have c2 := (old_of HB2.out).1; clear hb2))
      go_meet
      exact ⟨rfl, HB2⟩
    | true =>
    have HS := Lib.hid hs
    clear hs
    cases ht : (decide (0 ≤ t) && decide (t < (B.ns : Int))) with
    | false =>
      have HT := Lib.hid ht
      clear ht
      go_wp2_with (first
        | (go_at_call 44; refine (ready_any N _ _ B R _ (HBF.out.go HB0.out).1 (HBF.out.go HB0.out).2).mono ?_; rintro e w1 ⟨rfl, hb1⟩; rw [HR.out]; (try clear c0); have HB1 := Lib.hid (bel HB0.out hb1); have c1 := (old_of HB1.out).1; clear hb1)
        | (go_at_call 54; have _t := HB2; refine (isSort_any N _ B t _ (HBF.out.go HB2.out).1).mono ?_; rintro e w3 ⟨rfl, hb3⟩; rw [HT.out]; (try clear c2); have HB3 := Lib.hid (bel HB2.out hb3); have c3 := (old_of HB3.out).1; clear hb3)
        | (go_at_call 54; refine (isSort_any N _ B s _ (HBF.out.go HB1.out).1).mono ?_; rintro e w2 ⟨rfl, hb2⟩; rw [HS.out]; (try clear c1); have HB2 := Lib.hid (bel HB1.out hb2); have c2 := (old_of HB2.out).1; clear hb2))
      go_meet
      exact ⟨rfl, HB3⟩
    | true =>
    have HT := Lib.hid ht
    clear ht
    have hp : inPlace B R pf pm = false := by
      cases hp : inPlace B R pf pm with
      | false => rfl
      | true => exact absurd ⟨HR.out, h0, h100, HS.out, HT.out, hp⟩ HN1.out
    have HP := Lib.hid hp
    clear hp
    go_wp2_with (first
      | (go_at_call 44; refine (ready_any N _ _ B R _ (HBF.out.go HB0.out).1 (HBF.out.go HB0.out).2).mono ?_; rintro e w1 ⟨rfl, hb1⟩; rw [HR.out]; (try clear c0); have HB1 := Lib.hid (bel HB0.out hb1); have c1 := (old_of HB1.out).1; clear hb1)
      | (go_at_call 54; have _t := HB2; refine (isSort_any N _ B t _ (HBF.out.go HB2.out).1).mono ?_; rintro e w3 ⟨rfl, hb3⟩; rw [HT.out]; (try clear c2); have HB3 := Lib.hid (bel HB2.out hb3); have c3 := (old_of HB3.out).1; clear hb3)
      | (go_at_call 54; refine (isSort_any N _ B s _ (HBF.out.go HB1.out).1).mono ?_; rintro e w2 ⟨rfl, hb2⟩; rw [HS.out]; (try clear c1); have HB2 := Lib.hid (bel HB1.out hb2); have c2 := (old_of HB2.out).1; clear hb2)
      | (go_at_call 49; refine (isPlace_any N _ _ B R pf pm _ (HBF.out.go HB3.out).1 (HBF.out.go HB3.out).2).mono ?_; rintro e w4 ⟨rfl, hb4⟩; rw [HP.out]; (try clear c3); have HB4 := Lib.hid (bel HB3.out hb4); have c4 := (old_of HB4.out).1; clear hb4))
    go_meet
    exact ⟨rfl, HB4⟩
  case rest =>
  obtain ⟨rfl, HBc⟩ := hcut
  have cc := (old_of HBc.out).1
  clear hws hmin3 hmax3
  go_wp2_with (first
    | (go_at_call 15; refine (works_any _).mono ?_; rintro e w2 ⟨rfl, hb2⟩; (try clear cc); have HB2 := Lib.hid (bel HBc.out hb2); have c2 := (old_of HB2.out).1; clear hb2))
  go_ret
  exact ⟨rfl, fin HB.out HB2.out⟩

end Go.Proofs.Ytopajgnemeodeaa
