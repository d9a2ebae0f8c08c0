/-
  MarksTrue: where there is no truth; and the facts of a truth.
-/
import Derived.Test.YtmmadlpkolcgkaaTrue4
import Derived.Test.YtmmadlpkolcgkaaRefJ
import Derived.Test.YtmmadlpkolcgkaaCNext
namespace Go.Proofs.Ytmmadlpkolcgkaa
open Go.RowKit

set_option maxHeartbeats 4000000 in
set_option maxRecDepth 100000 in
theorem true_out (N : Nat) (v u : Value) (B : Bk) (R : Fr) (s : Int) (aq : Option Addr) (cq : Nat) (Q : Fr) (w : World) (h : BookAt N w v B) (hf : FruitsAt N w u R) (hq : FruitsAt N w (.slice aq Q.n cq) Q)
    (hn : rdy B R = false ∨ longB Q.n Q.L = true ∨ truthB B R s Q = false) :
    Calls Try.prog 7 #[v, u, .agg #[.int .i64 s, .slice aq Q.n cq]] w fun e w' => e = .returned (.bool true) ∧ Below w.heap.size w w' := by
  have h' := h
  obtain ⟨_, a1, c1, a2, c2, a3, c3, rfl, _⟩ := h'
  obtain ⟨ws, hws, HB, hsz, hsz1, hblk, hblk1⟩ := box2 w (.cells #[.slice a1 B.nv c1, .slice a2 B.nf c2, .slice a3 B.ns c3, .int .i64 B.wr] 25) (.cells #[.int .i64 s, .slice aq Q.n cq] 58)
  have q0 := cell_blk hblk 0 rfl
  have q1 := cell_blk hblk 1 rfl
  have q2 := cell_blk hblk 2 rfl
  have q3 := cell_blk hblk 3 rfl
  have p0 := cell_blk hblk1 0 rfl
  have p1 := cell_blk hblk1 1 rfl
  obtain ⟨HBQ, _⟩ := entry HB.out h hq
  obtain ⟨HBF, HB0⟩ := entry HB.out h hf
  clear hblk hblk1 h hf hq
  cases hr : rdy B R with
  | false =>
    have HR := Lib.hid hr
    clear hr hn
    go_enter Try.func7, Try.ntmps7
    go_wp2_with (first
      | (go_at_call 44; refine (ready_any N _ _ B R _ (HBF.out.go HB0.out).1 (HBF.out.go HB0.out).2).mono ?_; rintro e w1 ⟨rfl, hb1⟩; rw [HR.out]; (try clear c0); have HB1 := Lib.hid (bel HB0.out hb1); have c1 := (old_of HB1.out).1; clear hb1)
      | (go_at_call 15; refine (works_any _).mono ?_; rintro e w2 ⟨rfl, hb2⟩; (try clear c1); have HB2 := Lib.hid (bel HB1.out hb2); have c2 := (old_of HB2.out).1; clear hb2))
    go_ret
    exact ⟨rfl, fin HB.out HB2.out⟩
  | true =>
    have HR := Lib.hid hr
    have HG := Lib.hid (rdy_parts hr).2.2
    have HK := Lib.hid (rdy_parts hr).2.1
    cases hl : longB Q.n Q.L with
    | true =>
      have HL := Lib.hid hl
      clear hr hn hl
      go_enter Try.func7, Try.ntmps7
      go_wp2_with (first
        | (go_at_call 44; refine (ready_any N _ _ B R _ (HBF.out.go HB0.out).1 (HBF.out.go HB0.out).2).mono ?_; rintro e w1 ⟨rfl, hb1⟩; rw [HR.out]; (try clear c0); have HB1 := Lib.hid (bel HB0.out hb1); have c1 := (old_of HB1.out).1; clear hb1)
        | (go_at_call 45; refine (longLists_any N _ _ _ _ _ (HBQ.out.go HB1.out).2).mono ?_; rintro e w2 ⟨rfl, rfl⟩; rw [show (decide (40 < Q.n) || anyB Q.n fun i => decide (40 < Q.L i)) = true from HL.out])
        | (go_at_call 15; refine (works_any _).mono ?_; rintro e w3 ⟨rfl, hb3⟩; (try clear c1); have HB3 := Lib.hid (bel HB1.out hb3); have c3 := (old_of HB3.out).1; clear hb3))
      go_ret
      exact ⟨rfl, fin HB.out HB3.out⟩
    | false =>
      have HL := Lib.hid hl
      have HT : Hid (truthB B R s Q = false) := by
        rcases hn with hn | hn | hn
        · rw [hr] at hn; simp at hn
        · rw [hl] at hn; simp at hn
        · exact hn
      clear hr hn hl
      go_enter Try.func7, Try.ntmps7
      go_wp2_with (first
        | (go_at_call 44; refine (ready_any N _ _ B R _ (HBF.out.go HB0.out).1 (HBF.out.go HB0.out).2).mono ?_; rintro e w1 ⟨rfl, hb1⟩; rw [HR.out]; (try clear c0); have HB1 := Lib.hid (bel HB0.out hb1); have c1 := (old_of HB1.out).1; clear hb1)
        | (go_at_call 45; refine (longLists_any N _ _ _ _ _ (HBQ.out.go HB1.out).2).mono ?_; rintro e w2 ⟨rfl, rfl⟩; rw [show (decide (40 < Q.n) || anyB Q.n fun i => decide (40 < Q.L i)) = false from HL.out])
        | (go_at_call 46; refine (isTruth_any N _ _ B R s aq cq Q _ (HBF.out.go HB1.out).1 (HBF.out.go HB1.out).2 HG.out HK.out (HBQ.out.go HB1.out).2).mono ?_; rintro e w3 ⟨rfl, hb3⟩; rw [HT.out]; (try clear c1); have HB3 := Lib.hid (bel HB1.out hb3); have c3 := (old_of HB3.out).1; clear hb3)
        | (go_at_call 15; refine (works_any _).mono ?_; rintro e w4 ⟨rfl, hb4⟩; (try clear c3); have HB4 := Lib.hid (bel HB3.out hb4); have c4 := (old_of HB4.out).1; clear hb4))
      go_ret
      exact ⟨rfl, fin HB.out HB4.out⟩

/-- what the calls of MarksTrue return, for a truth -/
theorem truth_facts {B : Bk} {R Q : Fr} {k : Nat} (hc : chk B R = 0) (h : IsT B R Q k) (hw : (wrongIn R Q : Int) ≤ B.wr) :
    ∃ (ls : List Int) (wn fw : Nat) (kk : Int), eSorts B R = (ls, 0) ∧ ls.length ≤ B.ns ∧ (anyB ls.length fun i => decide (ls.getD i 0 = (k : Int))) = true ∧ eWrong B R (k : Int) = ((wn : Int), 0) ∧ wn ≤ wrongIn R Q ∧
      eFewest B R = ((fw : Int), 0) ∧ fw ≤ wn ∧ eIs B R (k : Int) = (kk, 0) ∧ kk = (if ls.length = 1 then 1 else 3) := by
  have hg := chk_good hc
  have h1 := wrong_truth hg h
  have hs := h.hs
  have hin : (anyB (sorts B R).length fun i => decide ((sorts B R).getD i 0 = (k : Int))) = true := sel_has (decide_eq_true (by omega)) hs
  have hlen : (sorts B R).length ≠ 0 := by
    obtain ⟨i, hi, _⟩ := anyB_true.1 hin
    omega
  refine ⟨sorts B R, wrong B R k, fewest B R, if (sorts B R).length = 1 then 1 else 3, ?_, sel_len _ _, hin, eWrong_ok hc hs, h1, ?_, ?_, ?_, rfl⟩
  · rw [eSorts_ok hc, if_neg hlen]
  · unfold eFewest; rw [if_neg (by simp [hc]), if_neg (by omega)]
  · exact minTo_le_at hs
  · unfold eIs
    have hin2 : (anyB (sorts B R).length fun i => decide ((k : Int) = (sorts B R).getD i 0)) = true := by
      rw [← hin]; congr 1; funext i; rw [Bool.eq_iff_iff]; simp [eq_comm]
    rw [if_neg (by simp [hc]), if_neg (by simp; omega), if_neg hlen, if_neg (by rw [hin2]; simp)]
    split <;> rfl

theorem values_facts {B : Bk} {R Q : Fr} {k f m : Nat} (hc : chk B R = 0) (h : IsT B R Q k) (hw : (wrongIn R Q : Int) ≤ B.wr) (hf : f < R.n) (hm : m < B.nv) :
    ∃ lv : List Int, eValues B R (f : Int) (m : Int) = (lv, 0) ∧ lv.length ≤ 5 ∧ (anyB lv.length fun i => decide (lv.getD i 0 = Q.X f m)) = true := by
  have hg := chk_good hc
  have hin := vals_truth hg h hf hm hw
  have hlen : (vals B R f m).length ≠ 0 := by
    obtain ⟨i, hi, _⟩ := anyB_true.1 hin
    omega
  refine ⟨vals B R f m, ?_, ?_, hin⟩
  · unfold eValues
    rw [if_neg (by simp [hc]), if_neg (by simp [inPlace]; omega), Int.toNat_natCast, Int.toNat_natCast, if_neg hlen]
  · have := sel_len (fun x => exAny B R f m x) (B.V m).toNat
    have := (hg.V m hm).2
    unfold vals; omega

theorem mistakes_facts {B : Bk} {R Q : Fr} {k : Nat} (hc : chk B R = 0) (h : IsT B R Q k) (hw : (wrongIn R Q : Int) ≤ B.wr) :
    ∃ l : List (Nat × Nat), eMistakes B R = (l, 0) ∧ l.length ≤ wrongIn R Q ∧ ∀ i, i < l.length → (l.getD i (0, 0)).1 < R.n ∧ (l.getD i (0, 0)).2 < B.nv ∧ offB R Q (l.getD i (0, 0)).1 (l.getD i (0, 0)).2 = true := by
  have hg := chk_good hc
  obtain ⟨h1, h2⟩ := mistakes_truth hg h hw
  have h3 := wrong_truth hg h
  have hlen : (sorts B R).length ≠ 0 := by have := sel_pos (p := fun s => decide ((wrong B R s : Int) ≤ B.wr)) (k := k) (decide_eq_true (by omega)) h.hs; unfold sorts; omega
  exact ⟨mistakes B R, by unfold eMistakes; rw [if_neg (by simp [hc]), if_neg hlen], h1, h2⟩

end Go.Proofs.Ytmmadlpkolcgkaa
