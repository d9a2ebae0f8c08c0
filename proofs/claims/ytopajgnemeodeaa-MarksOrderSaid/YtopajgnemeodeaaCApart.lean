/-
  MarksApart says true, of any book and two sorts.
-/
import Derived.Test.YtopajgnemeodeaaSame
import Derived.Test.YtopajgnemeodeaaRefE
import Derived.Test.YtopajgnemeodeaaWorks
import Derived.Test.YtopajgnemeodeaaFar
namespace Go.Proofs.Ytopajgnemeodeaa
open Go.RowKit

structure Near (B : Bk) (R : Fr) : Prop where
  nv : B.nv ≤ 40
  nf : B.nf ≤ 40
  ns : B.ns ≤ 40
  c : ∀ s, s < B.ns → B.nc s ≤ 40 ∧ ∀ i, i < B.nc s → B.ncc s i ≤ 40
  n : R.n ≤ 40
  L : ∀ f, f < R.n → R.L f ≤ 40
theorem near_of {B : Bk} {R : Fr} (h : far B R = false) : Near B R := by
  simp only [far, longB, Bool.or_eq_false_iff, decide_eq_false_iff_not, anyB_false] at h
  obtain ⟨⟨⟨⟨h1, h2⟩, h3⟩, h4, h5⟩, h6⟩ := h
  refine ⟨by omega, by omega, by omega, fun s hs => ?_, by omega, fun f hf => by have := h5 f hf; omega⟩
  have := h6 s hs
  exact ⟨by omega, fun i hi => by have := this.2 i hi; omega⟩

theorem Near.big {B : Bk} {R : Fr} (h : Near B R) : B.nv ≤ 1000000 ∧ B.nf ≤ 1000000 ∧ B.ns ≤ 1000000 ∧ ∀ s, s < B.ns → B.nc s ≤ 1000 ∧ ∀ i, i < B.nc s → B.ncc s i ≤ 1000 := by
  have h1 := h.nv
  have h2 := h.nf
  have h3 := h.ns
  exact ⟨by omega, by omega, by omega, fun s hs => by
    have := h.c s hs
    exact ⟨by omega, fun i hi => by have := this.2 i hi; omega⟩⟩

theorem apart_len (B : Bk) (s t : Int) : (eApart B s t).1.length ≤ B.nv := by
  unfold eApart
  split
  · simp
  · split
    · exact sel_len _ _
    · simp
theorem twins_len (B : Bk) (s : Int) : (eTwins B s).1.length ≤ B.ns := by
  unfold eTwins
  split
  · simp
  · split
    · simp
    · exact sel_len _ _

theorem OwnI.at_ {N : Nat} {wj wk : World} {v : Value} {l : List Int} (h : OwnI N wj v l) (hl : l.length ≤ 140737488351232) (k : Below wj.heap.size wj wk) : IntsAt wj.heap.size wk v l.length (fun i => l.getD i 0) :=
  (h.ints hl).mono k (Nat.le_refl _)

set_option maxHeartbeats 4000000 in
set_option maxRecDepth 100000 in
theorem capart_any (N : Nat) (v : Value) (B : Bk) (s pf pm t : Int) (w : World) (h : BookAt N w v B) :
    Calls Try.prog 6 #[v, .agg #[.int .i64 s, .int .i64 pf, .int .i64 pm, .int .i64 t]] w fun e w' => e = .returned (.bool true) ∧ Below w.heap.size w w' := by
  have hf := nil_fruits N w
  have h' := h
  obtain ⟨_, a1, c1, a2, c2, a3, c3, rfl, _⟩ := h'
  obtain ⟨ws, hws, HB, hsz, hsz1, hblk, hblk1⟩ := box2 w (.cells #[.slice a1 B.nv c1, .slice a2 B.nf c2, .slice a3 B.ns c3, .int .i64 B.wr] 25) (.cells #[.int .i64 s, .int .i64 pf, .int .i64 pm, .int .i64 t] 42)
  have q0 := cell_blk hblk 0 rfl
  have q1 := cell_blk hblk 1 rfl
  have q2 := cell_blk hblk 2 rfl
  have q3 := cell_blk hblk 3 rfl
  have p0 := cell_blk hblk1 0 rfl
  have p3 := cell_blk hblk1 3 rfl
  obtain ⟨HBF, HB0⟩ := entry HB.out h hf
  clear hblk hblk1 h hf
  cases hfar : far B R0 with
  | true =>
    have HFA : Hid _ := Lib.hid hfar
    clear hfar
    go_enter Try.func6, Try.ntmps6
    go_wp2_with (first
      | (go_at_call 14; refine (far_any N _ _ B R0 _ (HBF.out.go HB0.out).1 (HBF.out.go HB0.out).2).mono ?_; rintro e w1 ⟨rfl, hb1⟩; rw [HFA.out]; (try clear c0); have HB1 := Lib.hid (bel HB0.out hb1); have c1 := (old_of HB1.out).1; clear hb1)
      | (go_at_call 15; refine (works_any _).mono ?_; rintro e w2 ⟨rfl, hb2⟩; (try clear c1); have HB2 := Lib.hid (bel HB1.out hb2); have c2 := (old_of HB2.out).1; clear hb2))
    go_ret
    exact ⟨rfl, fin HB.out HB2.out⟩
  | false =>
    have HFA : Hid _ := Lib.hid hfar
    have HNE := Lib.hid (near_of hfar)
    obtain ⟨la, hla⟩ : ∃ l, (eApart B s t).1 = l := ⟨_, rfl⟩
    obtain ⟨ea, hea⟩ : ∃ l, (eApart B s t).2 = l := ⟨_, rfl⟩
    obtain ⟨lt, hlt⟩ : ∃ l, (eTwins B s).1 = l := ⟨_, rfl⟩
    obtain ⟨et, het⟩ : ∃ l, (eTwins B s).2 = l := ⟨_, rfl⟩
    have HL : Hid (la.length ≤ 140737488351232 ∧ lt.length ≤ 140737488351232) := by
      have := apart_len B s t
      have := twins_len B s
      have h1 := (near_of hfar).nv
      have h2 := (near_of hfar).ns
      rw [hla] at *
      rw [hlt] at *
      exact ⟨by omega, by omega⟩
    have HA : Hid (eApart B s t = (la, ea)) := by unfold Hid; rw [← hla, ← hea]
    have HT : Hid (eTwins B s = (lt, et)) := by unfold Hid; rw [← hlt, ← het]
    have HSA : Hid (sameI la.length (fun i => la.getD i 0) la.length (fun i => la.getD i 0) = true) := sameI_self _ _
    have HST : Hid (sameI lt.length (fun i => lt.getD i 0) lt.length (fun i => lt.getD i 0) = true) := sameI_self _ _
    clear hfar hla hea hlt het
    go_enter Try.func6, Try.ntmps6
    go_wp2_with (first
      | (go_at_call 14; refine (far_any N _ _ B R0 _ (HBF.out.go HB0.out).1 (HBF.out.go HB0.out).2).mono ?_; rintro e w1 ⟨rfl, hb1⟩; rw [HFA.out]; (try clear c0); have HB1 := Lib.hid (bel HB0.out hb1); have c1 := (old_of HB1.out).1; clear hb1)
      | (go_at_call 16; refine (copy_any N _ B _ (HBF.out.go HB1.out).1 HNE.out.big.1 HNE.out.big.2.1 HNE.out.big.2.2.1 HNE.out.big.2.2.2).mono ?_; rintro e w2 ⟨v2, rfl, how2, hb2⟩; have hbk2 := how2.book HNE.out.big.1 HNE.out.big.2.1 HNE.out.big.2.2.1 HNE.out.big.2.2.2; clear how2; obtain ⟨_, b1, d1, b2, d2, b3, d3, rfl, _⟩ := id hbk2; obtain ⟨wv, hwv, HBv, hszv, hblkv⟩ := box1 w2 (.cells #[.slice b1 B.nv d1, .slice b2 B.nf d2, .slice b3 B.ns d3, .int .i64 B.wr] 25); clear hws c1; have x0 := cell_blk hblkv 0 rfl; have x1 := cell_blk hblkv 1 rfl; have x2 := cell_blk hblkv 2 rfl; have x3 := cell_blk hblkv 3 rfl; have HBs := Lib.hid (bel (bel HB1.out hb2) HBv.out); have cs := (old_of HBs.out).1; have hszs := Nat.lt_of_lt_of_le hsz HBs.out.size; have hszs1 := Nat.lt_of_lt_of_le hsz1 HBs.out.size; have HBG : Hid (BF w2.heap.size wv _ (.slice none 0 0) B R0) := ⟨hbk2.go HBv.out, nil_fruits _ _⟩; have HBFo := HBF; have HBF := Lib.hid (HBF.out.go HBs.out); clear HBFo hb2 hbk2 hblkv; have HBz : Hid (Below wv.heap.size wv wv) := Below.refl _ _)
      | (go_at_call 40; refine (mApart_any _ _ B s t _ (HBG.out.go HBz.out).1).mono ?_; rintro e w3 ⟨u3, rfl, hu3, hb3⟩; rw [HA.out] at hu3; rw [HA.out]; obtain ⟨ao3, co3, rfl⟩ := hu3.form; have HU3 := Lib.hid hu3; clear hu3; have HC3 := Lib.hid hb3; (try clear cz); have HB3 := Lib.hid (bel HBz.out hb3); have c3 := (old_of HB3.out).1; clear hb3)
      | (go_at_call 41; refine (rApart_any _ _ B s t _ (HBF.out.go HB3.out).1).mono ?_; rintro e w4 ⟨u4, rfl, hu4, hb4⟩; rw [HA.out] at hu4; rw [HA.out]; obtain ⟨ao4, co4, rfl⟩ := hu4.form; have HU4 := Lib.hid hu4; clear hu4; have HC4 := Lib.hid hb4; (try clear c3); have HB4 := Lib.hid (bel HB3.out hb4); have c4 := (old_of HB4.out).1; clear hb4)
      | (go_at_call 42; refine (mTwins_any _ _ B s _ (HBG.out.go HB4.out).1).mono ?_; rintro e w5 ⟨u5, rfl, hu5, hb5⟩; rw [HT.out] at hu5; rw [HT.out]; obtain ⟨ao5, co5, rfl⟩ := hu5.form; have HU5 := Lib.hid hu5; clear hu5; have HC5 := Lib.hid hb5; (try clear c4); have HB5 := Lib.hid (bel HB4.out hb5); have c5 := (old_of HB5.out).1; clear hb5)
      | (go_at_call 43; refine (rTwins_any _ _ B s _ (HBF.out.go HB5.out).1).mono ?_; rintro e w6 ⟨u6, rfl, hu6, hb6⟩; rw [HT.out] at hu6; rw [HT.out]; obtain ⟨ao6, co6, rfl⟩ := hu6.form; have HU6 := Lib.hid hu6; clear hu6; have HC6 := Lib.hid hb6; (try clear c5); have HB6 := Lib.hid (bel HB5.out hb6); have c6 := (old_of HB6.out).1; clear hb6)
      | (go_at_call 30; have _t := HB7; refine (sameInts_any _ _ _ _ _ _ _ _ (IntsAt.wider (HU5.out.at_ HL.out.2 (bel HC6.out HC7.out)) (bel HC6.out HC7.out).size) (IntsAt.wider (HU6.out.at_ HL.out.2 HC7.out) HC7.out.size)).mono ?_; rintro e w8 ⟨rfl, hb8⟩; rw [HST.out]; replace hb8 := drawn_below hb8; have HC8 := Lib.hid hb8; (try clear c7); have HB8 := Lib.hid (bel HB7.out hb8); have c8 := (old_of HB8.out).1; clear hb8)
      | (go_at_call 30; refine (sameInts_any _ _ _ _ _ _ _ _ (IntsAt.wider (HU3.out.at_ HL.out.1 (bel (bel HC4.out HC5.out) HC6.out)) (bel (bel HC4.out HC5.out) HC6.out).size) (IntsAt.wider (HU4.out.at_ HL.out.1 (bel HC5.out HC6.out)) (bel HC5.out HC6.out).size)).mono ?_; rintro e w7 ⟨rfl, hb7⟩; rw [HSA.out]; replace hb7 := drawn_below hb7; have HC7 := Lib.hid hb7; (try clear c6); have HB7 := Lib.hid (bel HB6.out hb7); have c7 := (old_of HB7.out).1; clear hb7)
      | (go_at_call 24; refine (same_any _ _ _ _ B _ (HBG.out.go HB8.out).1 (HBF.out.go HB8.out).1).mono ?_; rintro e w9 ⟨rfl, hb9⟩; (try clear c8); have HB9 := Lib.hid (bel HB8.out hb9); have c9 := (old_of HB9.out).1; clear hb9)
      | (go_at_call 15; refine (works_any _).mono ?_; rintro e wA ⟨rfl, hbA⟩; (try clear c9); have HBA := Lib.hid (bel HB9.out hbA); have cA := (old_of HBA.out).1; clear hbA))
    go_ret
    exact ⟨rfl, fin HB.out (fin HBs.out HBA.out)⟩

end Go.Proofs.Ytopajgnemeodeaa
