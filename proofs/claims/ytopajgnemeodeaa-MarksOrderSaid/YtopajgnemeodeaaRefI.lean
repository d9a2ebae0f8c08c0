/-
  The chapter's own answers: afterOf, After, Next.
-/
import Derived.Test.YtopajgnemeodeaaRefG
import Derived.Test.YtopajgnemeodeaaSeen
import Derived.Test.YtopajgnemeodeaaMarks
namespace Go.Proofs.Ytopajgnemeodeaa
open Go.RowKit

set_option maxHeartbeats 4000000 in
set_option maxRecDepth 100000 in
theorem afterOf_any (N : Nat) (v u : Value) (B : Bk) (R : Fr) (f m : Nat) (w : World) (h : BookAt N w v B) (hf : FruitsAt N w u R) (hg : Good B R) (hfn : f < R.n) (hm : m < B.nv) :
    Calls Try.prog 80 #[v, u, .agg #[.int .i64 f, .int .i64 m]] w fun e w' => e = .returned (.int .i64 (afterOf B R f m)) ∧ Below w.heap.size w w' := by
  have h' := h
  obtain ⟨_, a1, c1, a2, c2, a3, c3, rfl, _⟩ := h'
  obtain ⟨ws, hws, HB, hsz, hsz1, hblk, hblk1⟩ := box2 w (.cells #[.slice a1 B.nv c1, .slice a2 B.nf c2, .slice a3 B.ns c3, .int .i64 B.wr] 25) (.cells #[.int .i64 f, .int .i64 m] 40)
  have q0 := cell_blk hblk 0 rfl
  have q1 := cell_blk hblk 1 rfl
  have q2 := cell_blk hblk 2 rfl
  have q3 := cell_blk hblk 3 rfl
  have p0 := cell_blk hblk1 0 rfl
  have p1 := cell_blk hblk1 1 rfl
  obtain ⟨HBF, HB0⟩ := entry HB.out h hf
  clear hblk hblk1 h hf
  obtain ⟨b1, o1, rfl, hb1, hq1⟩ := val_at HBF.out.1 hm
  have g1 : b1 < ws.heap.size := Nat.lt_of_lt_of_le hb1 HBF.out.1.1
  have hV := hg.V m hm
  have hmi : (m : Int) < (B.nv : Int) := by omega
  have H8 := hg.ns
  obtain ⟨n, hn⟩ : ∃ n : Nat, B.V m = n := ⟨(B.V m).toNat, by omega⟩
  have HV : Hid ((B.V m).toNat = n) := by unfold Hid; omega
  have HVn : Hid (B.V m = n) := hn
  rw [hn] at hq1 hV
  have HG := Lib.hid hg
  have HFN := Lib.hid hfn
  have HM := Lib.hid hm
  clear hg hfn hm hn
  go_enter Try.func80, Try.ntmps80
  go_wp2
  clear hws
  go_loopw [7, 8] (fun t i wr => ∃ k : Nat, k ≤ n ∧ i = .int .i64 k ∧ t = .int .i64 (maxTo k fun x => (sorts B (R.set f m x)).length) ∧ Hid (Below ws.heap.size ws wr)) (fun _ i _ => n - (intOf i).toNat)
  case atStart => exact ⟨0, Nat.zero_le _, rfl, rfl, Below.refl _ _⟩
  case round =>
    obtain ⟨k, hk, rfl, rfl, HBr⟩ := hrel
    have hszr1 := Nat.lt_of_lt_of_le hsz1 HBr.out.size
    have g1r := Nat.lt_of_lt_of_le g1 HBr.out.size
    have cr := (old_of HBr.out).1
    have hszr := Nat.lt_of_lt_of_le hsz HBr.out.size
    have HBFr := HBF
    have HBF := Lib.hid (HBF.out.go HBr.out)
    clear HBFr
    have HB0 : Hid (Below wr.heap.size wr wr) := Below.refl _ _
    by_cases hkn : k < n
    · have hl : maxTo k (fun x => (sorts B (R.set f m x)).length) ≤ 8 := maxTo_le _ _ _ fun i _ => sorts_len H8 _
      have hl2 := sorts_len H8 (R.set f m k)
      have HE : Hid (maxTo (k + 1) (fun x => (sorts B (R.set f m x)).length) = max (maxTo k (fun x => (sorts B (R.set f m x)).length)) (sorts B (R.set f m k)).length) := rfl
      have HS : Hid (Good B (R.set f m k)) := HG.out.set (.inr ⟨by omega, by rw [HVn.out]; omega⟩)
      generalize maxTo k (fun x => (sorts B (R.set f m x)).length) = t at *
      have S0d := old_of HB0.out.drew; have HB0d := S0d.2
      go_wp2
      go_region_held3 (fun w' => (∀ b o, b < wr.heap.size → w'.cell? ⟨b, o, none⟩ = wr.cell? ⟨b, o, none⟩) ∧ Hid (Below wr.heap.size wr w')) (assumption) (first
        | (go_at_call 51; refine (seen_to_any N _ R f m k _ (HBF.out.go HB0d.out).2 (HBF.out.go HB0d.out).1.1 (by have := HG.out.n; omega) (fun f hf => by rw [HG.out.L f hf]; have := HG.out.nv; omega) HFN.out (by rw [HG.out.L f HFN.out]; exact HM.out)).mono ?_; rintro e w1 ⟨x1, rfl, hr1, hb1⟩; have HR1 := Lib.hid hr1; clear hr1; have S1 := old_of (bel HB0d.out hb1); have HB1 := S1.2; clear hb1)
        | (go_at_call 91; refine (sortsOf_any w1.heap.size _ _ B (R.set f m k) _ ((HBF.out.go HB1.out).1.raise (HBF.out.go HB1.out).1.1 (Nat.le_refl _)) (HR1.out.rows (Nat.le_refl _) (by have := HG.out.n; omega) (fun f hf => by rw [HG.out.L f hf]; have := HG.out.nv; omega)) HS.out).mono ?_; rintro e w2 ⟨x2, rfl, ho2, hb2⟩; obtain ⟨_, _, rfl⟩ := ho2.form; clear ho2; have S2 := old_of (bel HB1.out hb2); have HB2 := S2.2; clear hb2))
      have HB2 := S2.2; have c2 := S2.1; clear S2 S0d
      clear S1
      go_wp2
      go_roundw
      case rel => exact ⟨k + 1, by omega, by go_num, by rw [HE.out]; first | rfl | (congr 1; omega), bel HBr.out HB2.out⟩
      case measure => simp [intOf]; omega
    · have Hk : Hid (k = n) := by show k = _; omega
      go_wp2
      go_ret
      exact ⟨ret_int (by unfold afterOf; rw [HV.out]; exact congrArg (fun q => ((maxTo q (fun x => (sorts B (R.set f m x)).length) : Nat) : Int)) Hk.out), fin HB.out HBr.out⟩

end Go.Proofs.Ytopajgnemeodeaa

namespace Go.Proofs.Ytopajgnemeodeaa
open Go.RowKit

theorem known_true {B : Bk} {R : Fr} (hc : chk B R = 0) : eKnown B R true = (sorts B R, if (sorts B R).length = 0 then 3 else 0) := by
  unfold eKnown
  rw [if_neg (by rw [ask_ok hc]; simp)]
  by_cases h0 : (sorts B R).length = 0
  · rw [if_pos h0, if_pos h0]; exact Prod.ext (List.length_eq_zero_iff.1 h0).symm rfl
  · rw [if_neg h0, if_neg h0]

set_option maxHeartbeats 4000000 in
set_option maxRecDepth 100000 in
theorem rAfter_any (N : Nat) (v u : Value) (B : Bk) (R : Fr) (f m : Int) (w : World) (h : BookAt N w v B) (hf : FruitsAt N w u R) :
    Calls Try.prog 36 #[v, u, .agg #[.int .i64 f, .int .i64 m]] w fun e w' => e = .returned (.tuple #[.int .i64 (eAfter B R f m).1, .int .i64 (eAfter B R f m).2]) ∧ Below w.heap.size w w' := by
  have h' := h
  obtain ⟨_, a1, c1, a2, c2, a3, c3, rfl, _⟩ := h'
  obtain ⟨ws, hws, HB, hsz, hsz1, hblk, hblk1⟩ := box2 w (.cells #[.slice a1 B.nv c1, .slice a2 B.nf c2, .slice a3 B.ns c3, .int .i64 B.wr] 25) (.cells #[.int .i64 f, .int .i64 m] 40)
  have q0 := cell_blk hblk 0 rfl
  have q1 := cell_blk hblk 1 rfl
  have q2 := cell_blk hblk 2 rfl
  have q3 := cell_blk hblk 3 rfl
  have p0 := cell_blk hblk1 0 rfl
  have p1 := cell_blk hblk1 1 rfl
  obtain ⟨HBF, HB0⟩ := entry HB.out h hf
  clear hblk hblk1 h hf
  by_cases hc : chk B R = 0
  case neg =>
    have hcb : (chk B R != 0) = true := by simp [hc]
    have HX : Hid (eAfter B R f m = (0, chk B R)) := by unfold Hid eAfter; rw [if_pos hc]
    clear hc
    go_enter Try.func36, Try.ntmps36
    go_wp2_with (go_at_call 19; refine (rCheck_any N _ _ B R _ (HBF.out.go HB0.out).1 (HBF.out.go HB0.out).2).mono ?_; rintro e w1 ⟨rfl, hb1⟩; (try clear c0); have HB1 := Lib.hid (bel HB0.out hb1); have c1 := (old_of HB1.out).1; clear hb1)
    go_ret2
    rw [HX.out]
    exact ⟨rfl, fin HB.out HB1.out⟩
  have hcb : (chk B R != 0) = false := by simp [hc]
  cases hin : inPlace B R f m with
  | false =>
    have HIN := Lib.hid hin
    have HX : Hid (eAfter B R f m = (0, 1)) := by unfold Hid eAfter; rw [if_neg (by simp [hc]), if_pos hin]
    clear hin hc
    go_enter Try.func36, Try.ntmps36
    go_wp2_with (go_at_call 19; refine (rCheck_any N _ _ B R _ (HBF.out.go HB0.out).1 (HBF.out.go HB0.out).2).mono ?_; rintro e w1 ⟨rfl, hb1⟩; (try clear c0); have HB1 := Lib.hid (bel HB0.out hb1); have c1 := (old_of HB1.out).1; clear hb1)
    clear hws c1
    have S1d := old_of HB1.out.drew; have HB1d := S1d.2
    refine wp_region_held_drew (S := (fun w' => (∀ b o, b < ws.heap.size → w'.cell? ⟨b, o, none⟩ = ws.cell? ⟨b, o, none⟩) ∧ Hid (Below ws.heap.size ws w'))) (by kernel_rfl) S1d (fun hHeld => ?_)
    (refine wpAnyH_take (i := 0) (v := ?_) rfl (by kernel_rfl) (by kernel_rfl) (by kernel_rfl) (fun _ _ _ h => h) (Or.inl ⟨by rfl, ?_⟩) (by assumption) ?_; rotate_left; (focus (intro w hSw; (try dsimp only at hSw); go_simp; (try with_reducible rfl))); (try simp only [List.getElem_toArray, List.getElem_cons_zero, List.getElem_cons_succ, Act.put, List.setIfInBounds_toArray, List.set_cons_zero, List.set_cons_succ]))
    (refine wpAnyH_take (i := 1) (v := ?_) rfl (by kernel_rfl) (by kernel_rfl) (by kernel_rfl) (fun _ _ _ h => h) (Or.inl ⟨by rfl, ?_⟩) (by assumption) ?_; rotate_left; (focus (intro w hSw; (try dsimp only at hSw); go_simp; (try with_reducible rfl))); (try simp only [List.getElem_toArray, List.getElem_cons_zero, List.getElem_cons_succ, Act.put, List.setIfInBounds_toArray, List.set_cons_zero, List.set_cons_succ]))
    (refine wpAnyH_take (i := 2) (v := ?_) rfl (by kernel_rfl) (by kernel_rfl) (by kernel_rfl) (fun _ _ _ h => h) (Or.inl ⟨by rfl, ?_⟩) (by assumption) ?_; rotate_left; (focus (intro w hSw; (try dsimp only at hSw); go_simp; (try with_reducible rfl))); (try simp only [List.getElem_toArray, List.getElem_cons_zero, List.getElem_cons_succ, Act.put, List.setIfInBounds_toArray, List.set_cons_zero, List.set_cons_succ]))
    refine wpAnyH_ready (rs := [3]) (by kernel_rfl) (by simp) ?_; refine AllReadyH.cons rfl (fun K hK => ?_) AllReadyH.nil; go_simp
    go_at_call 49
    refine (isPlace_any N _ _ B R _ _ _ (HBF.out.go HB1d.out).1 (HBF.out.go HB1d.out).2).mono ?_
    rintro e w2 ⟨rfl, hb2⟩
    rw [HIN.out]
    have S2 := old_of (bel HB1d.out hb2); have HB2 := S2.2; clear hb2
    refine hK.out _ _ S2 (fun hHeld => ?_); clear hK K; (try simp only [List.getElem_toArray, List.getElem_cons_zero, List.getElem_cons_succ, Act.put, List.setIfInBounds_toArray, List.set_cons_zero, List.set_cons_succ])
    (refine wpAnyH_take (i := 4) (v := ?_) rfl (by kernel_rfl) (by kernel_rfl) (by kernel_rfl) (fun _ _ _ h => h) (Or.inl ⟨by rfl, ?_⟩) (by assumption) ?_; rotate_left; (focus (intro w hSw; (try dsimp only at hSw); go_simp; (try with_reducible rfl))); (try simp only [List.getElem_toArray, List.getElem_cons_zero, List.getElem_cons_succ, Act.put, List.setIfInBounds_toArray, List.set_cons_zero, List.set_cons_succ]))
    (refine wpAnyH_take (i := 5) (v := ?_) rfl (by kernel_rfl) (by kernel_rfl) (by kernel_rfl) (fun _ _ _ h => h) (Or.inl ⟨by rfl, ?_⟩) (by assumption) ?_; rotate_left; (focus (intro w hSw; (try dsimp only at hSw); go_simp; (try with_reducible rfl))); (try simp only [List.getElem_toArray, List.getElem_cons_zero, List.getElem_cons_succ, Act.put, List.setIfInBounds_toArray, List.set_cons_zero, List.set_cons_succ]))
    (refine wpAnyH_take (i := 6) (v := undef) rfl (by kernel_rfl) (by kernel_rfl) (by kernel_rfl) (fun _ _ _ h => h) (Or.inr ⟨by rfl, rfl⟩) (by assumption) ?_; (try simp only [List.getElem_toArray, List.getElem_cons_zero, List.getElem_cons_succ, Act.put, List.setIfInBounds_toArray, List.set_cons_zero, List.set_cons_succ]))
    (refine wpAnyH_take (i := 7) (v := undef) rfl (by kernel_rfl) (by kernel_rfl) (by kernel_rfl) (fun _ _ _ h => h) (Or.inr ⟨by rfl, rfl⟩) (by assumption) ?_; (try simp only [List.getElem_toArray, List.getElem_cons_zero, List.getElem_cons_succ, Act.put, List.setIfInBounds_toArray, List.set_cons_zero, List.set_cons_succ]))
    (refine wpAnyH_take (i := 8) (v := undef) rfl (by kernel_rfl) (by kernel_rfl) (by kernel_rfl) (fun _ _ _ h => h) (Or.inr ⟨by rfl, rfl⟩) (by assumption) ?_; (try simp only [List.getElem_toArray, List.getElem_cons_zero, List.getElem_cons_succ, Act.put, List.setIfInBounds_toArray, List.set_cons_zero, List.set_cons_succ]))
    (refine wpAnyH_take (i := 9) (v := undef) rfl (by kernel_rfl) (by kernel_rfl) (by kernel_rfl) (fun _ _ _ h => h) (Or.inr ⟨by rfl, rfl⟩) (by assumption) ?_; (try simp only [List.getElem_toArray, List.getElem_cons_zero, List.getElem_cons_succ, Act.put, List.setIfInBounds_toArray, List.set_cons_zero, List.set_cons_succ]))
    (refine wpAnyH_take (i := 10) (v := undef) rfl (by kernel_rfl) (by kernel_rfl) (by kernel_rfl) (fun _ _ _ h => h) (Or.inr ⟨by rfl, rfl⟩) (by assumption) ?_; (try simp only [List.getElem_toArray, List.getElem_cons_zero, List.getElem_cons_succ, Act.put, List.setIfInBounds_toArray, List.set_cons_zero, List.set_cons_succ]))
    (refine wpAnyH_take (i := 11) (v := undef) rfl (by kernel_rfl) (by kernel_rfl) (by kernel_rfl) (fun _ _ _ h => h) (Or.inr ⟨by rfl, rfl⟩) (by assumption) ?_; (try simp only [List.getElem_toArray, List.getElem_cons_zero, List.getElem_cons_succ, Act.put, List.setIfInBounds_toArray, List.set_cons_zero, List.set_cons_succ]))
    (refine wpAnyH_take (i := 12) (v := undef) rfl (by kernel_rfl) (by kernel_rfl) (by kernel_rfl) (fun _ _ _ h => h) (Or.inr ⟨by rfl, rfl⟩) (by assumption) ?_; (try simp only [List.getElem_toArray, List.getElem_cons_zero, List.getElem_cons_succ, Act.put, List.setIfInBounds_toArray, List.set_cons_zero, List.set_cons_succ]))
    (refine wpAnyH_take (i := 13) (v := undef) rfl (by kernel_rfl) (by kernel_rfl) (by kernel_rfl) (fun _ _ _ h => h) (Or.inr ⟨by rfl, rfl⟩) (by assumption) ?_; (try simp only [List.getElem_toArray, List.getElem_cons_zero, List.getElem_cons_succ, Act.put, List.setIfInBounds_toArray, List.set_cons_zero, List.set_cons_succ]))
    (refine wpAnyH_take (i := 14) (v := undef) rfl (by kernel_rfl) (by kernel_rfl) (by kernel_rfl) (fun _ _ _ h => h) (Or.inr ⟨by rfl, rfl⟩) (by assumption) ?_; (try simp only [List.getElem_toArray, List.getElem_cons_zero, List.getElem_cons_succ, Act.put, List.setIfInBounds_toArray, List.set_cons_zero, List.set_cons_succ]))
    (refine wpAnyH_take (i := 15) (v := undef) rfl (by kernel_rfl) (by kernel_rfl) (by kernel_rfl) (fun _ _ _ h => h) (Or.inr ⟨by rfl, rfl⟩) (by assumption) ?_; (try simp only [List.getElem_toArray, List.getElem_cons_zero, List.getElem_cons_succ, Act.put, List.setIfInBounds_toArray, List.set_cons_zero, List.set_cons_succ]))
    (refine wpAnyH_take (i := 16) (v := ?_) rfl (by kernel_rfl) (by kernel_rfl) (by kernel_rfl) (fun _ _ _ h => h) (Or.inl ⟨by rfl, ?_⟩) (by assumption) ?_; rotate_left; (focus (intro w hSw; (try dsimp only at hSw); go_simp; (try with_reducible rfl))); (try simp only [List.getElem_toArray, List.getElem_cons_zero, List.getElem_cons_succ, Act.put, List.setIfInBounds_toArray, List.set_cons_zero, List.set_cons_succ]))
    refine wpAnyH_done (by kernel_rfl) ?_ _; clear hHeld
    clear S2 S1d
    go_wp2
    go_ret2
    rw [HX.out]
    exact ⟨rfl, fin HB.out HB2.out⟩
  | true =>
    obtain ⟨a, b, rfl, rfl, ha, hb⟩ := in_place hin
    have HG := Lib.hid (chk_good hc)
    have HIN := Lib.hid hin
    have HA := Lib.hid ha
    have HB' := Lib.hid hb
    obtain ⟨af, cf, rfl, _, _⟩ := id HBF.out.2
    obtain ⟨b5, o5, b6, o6, cap6, rfl, hb5, hb6, hq5, hq6⟩ := fruit_at HBF.out.2 ha (by rw [(chk_good hc).L a ha]; exact hb)
    have g5 : b5 < ws.heap.size := Nat.lt_of_lt_of_le hb5 HBF.out.1.1
    have g6 : b6 < ws.heap.size := Nat.lt_of_lt_of_le hb6 HBF.out.1.1
    have hai : (a : Int) < (R.n : Int) := by omega
    have hbi : (b : Int) < (R.L a : Int) := by rw [(chk_good hc).L a ha]; omega
    by_cases hx : R.X a b = -1
    case neg =>
      have hxb : (R.X a b != -1) = true := by simp [hx]
      have HX : Hid (eAfter B R a b = (0, 1)) := by
        unfold Hid eAfter; rw [if_neg (by simp [hc]), if_neg (by simp [hin])]; exact if_pos hx
      clear hin hc ha hb hx
      go_enter Try.func36, Try.ntmps36
      go_wp2_with (go_at_call 19; refine (rCheck_any N _ _ B R _ (HBF.out.go HB0.out).1 (HBF.out.go HB0.out).2).mono ?_; rintro e w1 ⟨rfl, hb1⟩; (try clear c0); have HB1 := Lib.hid (bel HB0.out hb1); have c1 := (old_of HB1.out).1; clear hb1)
      clear hws c1
      have S1d := old_of HB1.out.drew; have HB1d := S1d.2
      go_region_held3 (fun w' => (∀ b o, b < ws.heap.size → w'.cell? ⟨b, o, none⟩ = ws.cell? ⟨b, o, none⟩) ∧ Hid (Below ws.heap.size ws w')) (assumption) (first
        | (go_at_call 49; refine (isPlace_any N _ _ B R _ _ _ (HBF.out.go HB1d.out).1 (HBF.out.go HB1d.out).2).mono ?_; rintro e w2 ⟨rfl, hb2⟩; rw [HIN.out]; have S2 := old_of (bel HB1d.out hb2); have HB2 := S2.2; clear hb2))
      have HB2 := S2.2; have c2 := S2.1; clear S2 S1d
      go_wp2
      go_ret2
      rw [HX.out]
      exact ⟨rfl, fin HB.out HB2.out⟩
    have hxb : (R.X a b != -1) = false := by simp [hx]
    have HK := Lib.hid (known_true hc)
    by_cases h0 : (sorts B R).length = 0
    · have HX : Hid (eAfter B R a b = (0, 3)) := by
        unfold Hid eAfter; rw [if_neg (by simp [hc]), if_neg (by simp [hin])]
        exact (if_neg (fun h => h hx)).trans (if_pos h0)
      have HZ : Hid ((if (sorts B R).length = 0 then (3 : Int) else 0) = 3) := if_pos h0
      clear hin hc ha hb hx h0
      go_enter Try.func36, Try.ntmps36
      go_wp2_with (go_at_call 19; refine (rCheck_any N _ _ B R _ (HBF.out.go HB0.out).1 (HBF.out.go HB0.out).2).mono ?_; rintro e w1 ⟨rfl, hb1⟩; (try clear c0); have HB1 := Lib.hid (bel HB0.out hb1); have c1 := (old_of HB1.out).1; clear hb1)
      clear hws
      have S1d := old_of HB1.out.drew; have HB1d := S1d.2
      go_region_held3 (fun w' => (∀ b o, b < ws.heap.size → w'.cell? ⟨b, o, none⟩ = ws.cell? ⟨b, o, none⟩) ∧ Hid (Below ws.heap.size ws w')) (assumption) (first
        | (go_at_call 49; refine (isPlace_any N _ _ B R _ _ _ (HBF.out.go HB1d.out).1 (HBF.out.go HB1d.out).2).mono ?_; rintro e w2 ⟨rfl, hb2⟩; rw [HIN.out]; have S2 := old_of (bel HB1d.out hb2); have HB2 := S2.2; clear hb2))
      clear c1
      have HB2 := S2.2; have c2 := S2.1; clear S2 S1d
      go_wp2_with (go_at_call 72; refine (known_any N _ _ B R _ _ (HBF.out.go HB2.out).1 (HBF.out.go HB2.out).2).mono ?_; rintro e w3 ⟨x3, rfl, ho3, hb3⟩; clear ho3; rw [HK.out]; dsimp only; rw [HZ.out]; (try clear c2); have HB3 := Lib.hid (bel HB2.out hb3); have c3 := (old_of HB3.out).1; clear hb3)
      go_ret2
      rw [HX.out]
      exact ⟨rfl, fin HB.out HB3.out⟩
    · have HX : Hid (eAfter B R a b = ((afterOf B R a b : Int), 0)) := by
        unfold Hid eAfter; rw [if_neg (by simp [hc]), if_neg (by simp [hin])]
        exact (if_neg (fun h => h hx)).trans (if_neg h0)
      have HZ : Hid ((if (sorts B R).length = 0 then (3 : Int) else 0) = 0) := if_neg h0
      clear hin hc ha hb hx h0
      go_enter Try.func36, Try.ntmps36
      go_wp2_with (go_at_call 19; refine (rCheck_any N _ _ B R _ (HBF.out.go HB0.out).1 (HBF.out.go HB0.out).2).mono ?_; rintro e w1 ⟨rfl, hb1⟩; (try clear c0); have HB1 := Lib.hid (bel HB0.out hb1); have c1 := (old_of HB1.out).1; clear hb1)
      clear hws
      have S1d := old_of HB1.out.drew; have HB1d := S1d.2
      go_region_held3 (fun w' => (∀ b o, b < ws.heap.size → w'.cell? ⟨b, o, none⟩ = ws.cell? ⟨b, o, none⟩) ∧ Hid (Below ws.heap.size ws w')) (assumption) (first
        | (go_at_call 49; refine (isPlace_any N _ _ B R _ _ _ (HBF.out.go HB1d.out).1 (HBF.out.go HB1d.out).2).mono ?_; rintro e w2 ⟨rfl, hb2⟩; rw [HIN.out]; have S2 := old_of (bel HB1d.out hb2); have HB2 := S2.2; clear hb2))
      clear c1
      have HB2 := S2.2; have c2 := S2.1; clear S2 S1d
      go_wp2_with (first
        | (go_at_call 72; refine (known_any N _ _ B R _ _ (HBF.out.go HB2.out).1 (HBF.out.go HB2.out).2).mono ?_; rintro e w3 ⟨x3, rfl, ho3, hb3⟩; clear ho3; rw [HK.out]; dsimp only; rw [HZ.out]; (try clear c2); have HB3 := Lib.hid (bel HB2.out hb3); have c3 := (old_of HB3.out).1; clear hb3)
        | (go_at_call 80; refine (afterOf_any N _ _ B R a b _ (HBF.out.go HB3.out).1 (HBF.out.go HB3.out).2 HG.out HA.out HB'.out).mono ?_; rintro e w4 ⟨rfl, hb4⟩; (try clear c3); have HB4 := Lib.hid (bel HB3.out hb4); have c4 := (old_of HB4.out).1; clear hb4))
      go_ret2
      rw [HX.out]
      exact ⟨rfl, fin HB.out HB4.out⟩

end Go.Proofs.Ytopajgnemeodeaa

namespace Go.Proofs.Ytopajgnemeodeaa
open Go.RowKit

theorem next_err {B : Bk} {R : Fr} {f : Int} (h : (eKnown B R (decide (0 ≤ f) && decide (f < R.n))).2 ≠ 0) : eNext B R f = (0, (eKnown B R (decide (0 ≤ f) && decide (f < R.n))).2) := by
  unfold eNext
  by_cases hc : chk B R = 0
  · rw [if_neg (by simp [hc])]
    cases hi : (decide (0 ≤ f) && decide (f < R.n)) with
    | false =>
      rw [if_pos rfl]
      unfold eKnown
      rw [ask_arg hc]; rfl
    | true =>
      rw [hi, known_true hc] at h
      rw [known_true hc, if_neg (by simp)]
      by_cases h0 : (sorts B R).length = 0
      · rw [if_pos (by omega), if_pos h0]
      · simp [h0] at h
  · rw [if_pos hc]
    unfold eKnown
    rw [ask_chk hc, if_pos hc]

/-- the best mark so far -/
def bst (B : Bk) (R : Fr) (f k : Nat) : Int := if (nx B R f k).2.2 = true then ((nx B R f k).1 : Int) else -1

theorem next_end {B : Bk} {R : Fr} {a : Nat} (hc : chk B R = 0) (hi : (decide (0 ≤ (a : Int)) && decide ((a : Int) < R.n)) = true) (h1 : 2 ≤ (sorts B R).length) :
    eNext B R a = if bst B R a B.nv < 0 then (0, 3) else (bst B R a B.nv, 0) := by
  unfold eNext bst
  rw [if_neg (by simp [hc]), if_neg (by rw [hi]; simp), if_neg (by omega)]
  show (if (nx B R a B.nv).2.2 = false then ((0 : Int), (3 : Int)) else ((nx B R a B.nv).1, 0)) = _
  cases h : (nx B R a B.nv).2.2 with
  | false => simp
  | true =>
    rw [if_neg (by simp), if_pos rfl, if_neg (by omega)]

set_option maxHeartbeats 4000000 in
set_option maxRecDepth 100000 in
theorem rNext_any (N : Nat) (v u : Value) (B : Bk) (R : Fr) (f : Int) (w : World) (h : BookAt N w v B) (hf : FruitsAt N w u R) :
    Calls Try.prog 39 #[v, u, .int .i64 f] w fun e w' => e = .returned (.tuple #[.int .i64 (eNext B R f).1, .int .i64 (eNext B R f).2]) ∧ Below w.heap.size w w' := by
  have h' := h
  obtain ⟨_, a1, c1, a2, c2, a3, c3, rfl, _⟩ := h'
  obtain ⟨ws, hws, HB, hsz, hblk⟩ := box1 w (.cells #[.slice a1 B.nv c1, .slice a2 B.nf c2, .slice a3 B.ns c3, .int .i64 B.wr] 25)
  have q0 := cell_blk hblk 0 rfl
  have q1 := cell_blk hblk 1 rfl
  have q2 := cell_blk hblk 2 rfl
  have q3 := cell_blk hblk 3 rfl
  obtain ⟨HBF, HB0⟩ := entry HB.out h hf
  clear hblk h hf
  obtain ⟨is, his⟩ : ∃ is, (decide (0 ≤ f) && decide (f < R.n)) = is := ⟨_, rfl⟩
  have HIS := Lib.hid his
  obtain ⟨er, her⟩ : ∃ er, (eKnown B R is).2 = er := ⟨_, rfl⟩
  have HE := Lib.hid her
  have S0d := old_of HB0.out.drew; have HB0d := S0d.2
  by_cases he : er = 0
  case neg =>
    have HX : Hid (eNext B R f = (0, er)) := by
      unfold Hid; rw [← her, ← his]; exact next_err (by rw [his, her]; exact he)
    have heb : (er != 0) = true := by simp [he]
    clear her he his
    go_enter Try.func39, Try.ntmps39
    go_wp2
    clear hws
    go_region_held3 (fun w' => (∀ b o, b < ws.heap.size → w'.cell? ⟨b, o, none⟩ = ws.cell? ⟨b, o, none⟩) ∧ Hid (Below ws.heap.size ws w')) (assumption) (first
      | (go_at_call 60; refine (isFruit_any N _ R f _ (HBF.out.go HB0d.out).2).mono ?_; rintro e w1 ⟨rfl, hw1⟩; rw [HIS.out]; have S1 := old_of (hw1 ▸ HB0d.out); have HB1 := S1.2; clear hw1)
      | (go_at_call 72; refine (known_any N _ _ B R _ _ (HBF.out.go HB1.out).1 (HBF.out.go HB1.out).2).mono ?_; rintro e w2 ⟨x2, rfl, ho2, hb2⟩; rw [HE.out]; clear ho2; have S2 := old_of (bel HB1.out hb2); have HB2 := S2.2; clear hb2))
    have HB2 := S2.2; have c2 := S2.1; clear S2 S0d
    clear S1
    go_wp2
    go_ret2
    rw [HX.out]
    exact ⟨rfl, fin HB.out HB2.out⟩
  have hk := known_err (her.trans he)
  subst he
  obtain ⟨hc, rfl, hl0⟩ := hk
  obtain ⟨a, rfl, ha⟩ : ∃ a : Nat, f = a ∧ a < R.n := ⟨f.toNat, by simp at his; omega, by simp at his; omega⟩
  have HG := Lib.hid (chk_good hc)
  have HK := Lib.hid (congrArg Prod.fst (known_true hc))
  have HA := Lib.hid ha
  have h8 := sorts_len (chk_good hc).ns R
  have heb : ((0 : Int) != 0) = false := rfl
  obtain ⟨af, cf, rfl, _, _⟩ := id HBF.out.2
  have hai : (a : Int) < (R.n : Int) := by omega
  by_cases h1 : (sorts B R).length < 2
  · have HX : Hid (eNext B R a = (0, 3)) := by
      unfold Hid eNext; rw [if_neg (by simp [hc]), if_neg (by rw [his]; simp), if_pos h1]
    obtain ⟨sl, hsl⟩ : ∃ l, sorts B R = l := ⟨_, rfl⟩
    rw [hsl] at h1 h8
    have HSL := Lib.hid hsl
    clear hc hl0 his her ha hsl
    go_enter Try.func39, Try.ntmps39
    go_wp2
    clear hws
    go_region_held3 (fun w' => (∀ b o, b < ws.heap.size → w'.cell? ⟨b, o, none⟩ = ws.cell? ⟨b, o, none⟩) ∧ Hid (Below ws.heap.size ws w')) (assumption) (first
      | (go_at_call 60; refine (isFruit_any N _ R _ _ (HBF.out.go HB0d.out).2).mono ?_; rintro e w1 ⟨rfl, hw1⟩; rw [HIS.out]; have S1 := old_of (hw1 ▸ HB0d.out); have HB1 := S1.2; clear hw1)
      | (go_at_call 72; refine (known_any N _ _ B R _ _ (HBF.out.go HB1.out).1 (HBF.out.go HB1.out).2).mono ?_; rintro e w2 ⟨x2, rfl, ho2, hb2⟩; rw [HE.out]; rw [HK.out, HSL.out] at ho2; obtain ⟨ao, co, rfl⟩ := ho2.form; clear ho2; have S2 := old_of (bel HB1.out hb2); have HB2 := S2.2; clear hb2))
    have HB2 := S2.2; have c2 := S2.1; clear S2 S0d
    clear S1
    go_wp2
    go_loopw [10, 11, 12] (fun t l i wr => i = .int .i64 0 ∧ t = .int .i64 (-1) ∧ l = .int .i64 0 ∧ Hid (Below ws.heap.size ws wr)) (fun _ _ _ _ => 0)
    case atStart => exact ⟨rfl, rfl, rfl, HB2⟩
    case round =>
      obtain ⟨rfl, rfl, rfl, HBr⟩ := hrel
      have cr := (old_of HBr.out).1
      have hszr := Nat.lt_of_lt_of_le hsz HBr.out.size
      have HBFr := HBF
      have HBF := Lib.hid (HBF.out.go HBr.out)
      clear HBFr
      have HB0 : Hid (Below wr.heap.size wr wr) := Below.refl _ _
      by_cases hnv : (0 : Int) < B.nv
      all_goals
        go_wp2
        go_ret2
        rw [HX.out]
        exact ⟨rfl, fin HB.out HBr.out⟩
  · have HX := Lib.hid (next_end (a := a) hc his (by omega))
    obtain ⟨sl, hsl⟩ : ∃ l, sorts B R = l := ⟨_, rfl⟩
    rw [hsl] at h1 h8
    have HSL := Lib.hid hsl
    have h1' : (1 : Int) < (sl.length : Int) := by omega
    have hnv6 := (chk_good hc).nv
    clear hc hl0 his her ha hsl
    go_enter Try.func39, Try.ntmps39
    go_wp2
    clear hws
    go_region_held3 (fun w' => (∀ b o, b < ws.heap.size → w'.cell? ⟨b, o, none⟩ = ws.cell? ⟨b, o, none⟩) ∧ Hid (Below ws.heap.size ws w')) (assumption) (first
      | (go_at_call 60; refine (isFruit_any N _ R _ _ (HBF.out.go HB0d.out).2).mono ?_; rintro e w1 ⟨rfl, hw1⟩; rw [HIS.out]; have S1 := old_of (hw1 ▸ HB0d.out); have HB1 := S1.2; clear hw1)
      | (go_at_call 72; refine (known_any N _ _ B R _ _ (HBF.out.go HB1.out).1 (HBF.out.go HB1.out).2).mono ?_; rintro e w2 ⟨x2, rfl, ho2, hb2⟩; rw [HE.out]; rw [HK.out, HSL.out] at ho2; obtain ⟨ao, co, rfl⟩ := ho2.form; clear ho2; have S2 := old_of (bel HB1.out hb2); have HB2 := S2.2; clear hb2))
    have HB2 := S2.2; have c2 := S2.1; clear S2 S0d
    clear S1
    go_wp2
    go_loopw [10, 11, 12] (fun t l i wr => ∃ k : Nat, k ≤ B.nv ∧ i = .int .i64 k ∧ t = .int .i64 (bst B R a k) ∧ l = .int .i64 ((nx B R a k).2.1 : Int) ∧ Hid (Below ws.heap.size ws wr)) (fun _ _ i _ => B.nv - (intOf i).toNat)
    case atStart => exact ⟨0, Nat.zero_le _, rfl, rfl, rfl, HB2⟩
    case round =>
      obtain ⟨k, hk, rfl, rfl, rfl, HBr⟩ := hrel
      have cr := (old_of HBr.out).1
      have hszr := Nat.lt_of_lt_of_le hsz HBr.out.size
      have HBFr := HBF
      have HBF := Lib.hid (HBF.out.go HBr.out)
      clear HBFr
      have HB0 : Hid (Below wr.heap.size wr wr) := Below.refl _ _
      by_cases hkn : k < B.nv
      · have hkL : k < R.L a := by rw [HG.out.L a HA.out]; exact hkn
        have hki : (k : Int) < (R.L a : Int) := by omega
        obtain ⟨b5, o5, b6, o6, cap6, rfl, hb5, hb6, hq5, hq6⟩ := fruit_at HBF.out.2 HA.out hkL
        have g5 : b5 < wr.heap.size := Nat.lt_of_lt_of_le hb5 HBF.out.1.1
        have g6 : b6 < wr.heap.size := Nat.lt_of_lt_of_le hb6 HBF.out.1.1
        have HKN := Lib.hid hkn
        have hn8 := nx_le HG.out a k
        have ha8 := afterOf_le HG.out a k
        by_cases hx : R.X a k = -1
        case neg =>
          have hxb : (R.X a k != -1) = true := by simp [hx]
          have HS : Hid (nx B R a (k + 1) = nx B R a k) := if_pos hx
          have HS2 : Hid (bst B R a (k + 1) = bst B R a k) := by unfold Hid bst; rw [HS.out]
          clear hx
          generalize bst B R a k = t at *
          go_wp2
          go_roundw
          case rel => exact ⟨k + 1, by omega, by go_num, by rw [HS2.out], by rw [HS.out], HBr.out⟩
          case measure => simp [intOf]; omega
        have hxb : (R.X a k != -1) = false := by simp [hx]
        have hcase : (bst B R a k < 0 ∨ (afterOf B R a k : Int) < ((nx B R a k).2.1 : Int)) ∧ nx B R a (k + 1) = (k, afterOf B R a k, true) ∨ (0 ≤ bst B R a k ∧ ((nx B R a k).2.1 : Int) ≤ (afterOf B R a k : Int)) ∧ nx B R a (k + 1) = nx B R a k := by
          have e : nx B R a (k + 1) = if (nx B R a k).2.2 = false ∨ afterOf B R a k < (nx B R a k).2.1 then (k, afterOf B R a k, true) else nx B R a k := if_neg (fun h => h hx)
          rw [e]
          unfold bst
          cases hfd : (nx B R a k).2.2 with
          | false => exact .inl ⟨.inl (by simp), if_pos (.inl rfl)⟩
          | true =>
            by_cases hlt : afterOf B R a k < (nx B R a k).2.1
            · exact .inl ⟨.inr (by omega), if_pos (.inr hlt)⟩
            · exact .inr ⟨⟨by simp, by omega⟩, if_neg (by simp; omega)⟩
        clear hx
        rcases hcase with ⟨hlt, hnx⟩ | ⟨⟨hle, hle2⟩, hnx⟩
        · have HS : Hid (bst B R a (k + 1) = (k : Int) ∧ (nx B R a (k + 1)).2.1 = afterOf B R a k) := by
            unfold Hid bst; rw [hnx]; exact ⟨if_pos rfl, rfl⟩
          clear hnx
          generalize hT : bst B R a k = t at *
          obtain ⟨l0, hl0⟩ : ∃ l0, (nx B R a k).2.1 = l0 := ⟨_, rfl⟩
          rw [hl0] at hlt hn8 ⊢
          clear hl0 hT
          by_cases ht : t < 0
          · clear hlt
            go_wp2_with (go_at_call 80; refine (afterOf_any N _ _ B R a k _ (HBF.out.go HB0.out).1 (HBF.out.go HB0.out).2 HG.out HA.out HKN.out).mono ?_; rintro e w4 ⟨rfl, hb4⟩; (try clear c0); have HB4 := Lib.hid (bel HB0.out hb4); have c4 := (old_of HB4.out).1; clear hb4)
            go_roundw
            case rel => exact ⟨k + 1, by omega, by go_num, by rw [HS.out.1], by rw [HS.out.2], bel HBr.out HB4.out⟩
            case measure => simp [intOf]; omega
          · have hlt' := hlt.resolve_left ht
            have ht' : 0 ≤ t := by omega
            clear hlt ht
            go_wp2_with (go_at_call 80; refine (afterOf_any N _ _ B R a k _ (HBF.out.go HB0.out).1 (HBF.out.go HB0.out).2 HG.out HA.out HKN.out).mono ?_; rintro e w4 ⟨rfl, hb4⟩; (try clear c0); have HB4 := Lib.hid (bel HB0.out hb4); have c4 := (old_of HB4.out).1; clear hb4)
            go_roundw
            case rel => exact ⟨k + 1, by omega, by go_num, by rw [HS.out.1], by rw [HS.out.2], bel HBr.out HB4.out⟩
            case measure => simp [intOf]; omega
        · have HS : Hid (bst B R a (k + 1) = bst B R a k ∧ (nx B R a (k + 1)).2.1 = (nx B R a k).2.1) := by
            unfold Hid bst; rw [hnx]; exact ⟨rfl, rfl⟩
          clear hnx
          generalize bst B R a k = t at *
          obtain ⟨l0, hl0⟩ : ∃ l0, (nx B R a k).2.1 = l0 := ⟨_, rfl⟩
          rw [hl0] at hle2 hn8 HS ⊢
          clear hl0
          go_wp2_with (go_at_call 80; refine (afterOf_any N _ _ B R a k _ (HBF.out.go HB0.out).1 (HBF.out.go HB0.out).2 HG.out HA.out HKN.out).mono ?_; rintro e w4 ⟨rfl, hb4⟩; (try clear c0); have HB4 := Lib.hid (bel HB0.out hb4); have c4 := (old_of HB4.out).1; clear hb4)
          go_roundw
          case rel => exact ⟨k + 1, by omega, by go_num, by rw [HS.out.1], by rw [HS.out.2], bel HBr.out HB4.out⟩
          case measure => simp [intOf]; omega
      · have Hk : k = B.nv := by omega
        subst Hk
        have HXo := HX.out
        generalize bst B R a B.nv = t at *
        by_cases ht : t < 0
        · rw [if_pos ht] at HXo
          have HY := Lib.hid HXo
          clear HXo HX
          go_wp2
          go_ret2
          rw [HY.out]
          exact ⟨rfl, fin HB.out HBr.out⟩
        · rw [if_neg ht] at HXo
          have HY := Lib.hid HXo
          have ht' : 0 ≤ t := by omega
          clear HXo HX
          go_wp2
          go_ret2
          rw [HY.out]
          exact ⟨rfl, fin HB.out HBr.out⟩

end Go.Proofs.Ytopajgnemeodeaa
