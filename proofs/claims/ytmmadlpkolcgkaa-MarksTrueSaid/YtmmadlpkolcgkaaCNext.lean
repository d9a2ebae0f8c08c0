/-
  MarksNext says true, of any book, fruits and place.
-/
import Derived.Test.YtmmadlpkolcgkaaCWrong
import Derived.Test.YtmmadlpkolcgkaaRefK
namespace Go.Proofs.Ytmmadlpkolcgkaa
open Go.RowKit

theorem mistakes_len (B : Bk) (R : Fr) : (eMistakes B R).1.length ≤ 140737488351232 := by
  unfold eMistakes
  by_cases hc : chk B R = 0
  · rw [if_neg (by simp [hc])]
    split
    · simp
    · have h1 := allP_len (misB B R) B.nv R.n
      have h2 := (chk_good hc).nv
      have h3 := (chk_good hc).n
      have h4 : R.n * B.nv ≤ 5 * 8 := Nat.mul_le_mul (by omega) (by omega)
      show (mistakes B R).length ≤ _
      unfold mistakes; omega
  · rw [if_pos hc]; simp

theorem OwnP.form {N : Nat} {w : World} {v : Value} {l : List (Nat × Nat)} (h : OwnP N w v l) : ∃ ao cap, v = .slice ao l.length cap := by
  obtain ⟨h1, ⟨rfl, h2⟩ | ⟨g, cap, cur, rfl, _⟩⟩ := h
  · exact ⟨none, 0, by rw [h2]⟩
  · exact ⟨_, _, rfl⟩

set_option maxHeartbeats 4000000 in
set_option maxRecDepth 100000 in
theorem cnext_any (N : Nat) (v u : Value) (B : Bk) (R : Fr) (f m : Int) (w : World) (h : BookAt N w v B) (hf : FruitsAt N w u R) :
    Calls Try.prog 5 #[v, u, .agg #[.int .i64 f, .int .i64 m]] w fun e w' => e = .returned (.bool true) ∧ Below w.heap.size w w' := by
  have h' := h
  obtain ⟨_, a1, c1, a2, c2, a3, c3, rfl, _⟩ := h'
  obtain ⟨ws, hws, HB, hsz, hsz1, hblk, hblk1⟩ := box2 w (.cells #[.slice a1 B.nv c1, .slice a2 B.nf c2, .slice a3 B.ns c3, .int .i64 B.wr] 25) (.cells #[.int .i64 f, .int .i64 m] 40)
  have q0 := cell_blk hblk 0 rfl
  have q1 := cell_blk hblk 1 rfl
  have q2 := cell_blk hblk 2 rfl
  have q3 := cell_blk hblk 3 rfl
  have p0 := cell_blk hblk1 0 rfl
  have p1 := cell_blk hblk1 1 rfl
  obtain ⟨HBF, HB0⟩ := entry HB.out h hf
  clear hblk hblk1 h hf
  cases hfar : far B R with
  | true =>
    have HFA : Hid _ := Lib.hid hfar
    clear hfar
    go_enter Try.func5, Try.ntmps5
    go_wp2_with (first
      | (go_at_call 14; refine (far_any N _ _ B R _ (HBF.out.go HB0.out).1 (HBF.out.go HB0.out).2).mono ?_; rintro e w1 ⟨rfl, hb1⟩; rw [HFA.out]; (try clear c0); have HB1 := Lib.hid (bel HB0.out hb1); have c1 := (old_of HB1.out).1; clear hb1)
      | (go_at_call 15; refine (works_any _).mono ?_; rintro e w2 ⟨rfl, hb2⟩; (try clear c1); have HB2 := Lib.hid (bel HB1.out hb2); have c2 := (old_of HB2.out).1; clear hb2))
    go_ret
    exact ⟨rfl, fin HB.out HB2.out⟩
  | false =>
    have HFA : Hid _ := Lib.hid hfar
    have HNE := Lib.hid (near_of hfar)
    have HSL : Hid (sameL R.n R.L R.X R.n R.L R.X = true) := sameL_self _ _ _
    obtain ⟨la, hla⟩ : ∃ l, (eMistakes B R).1 = l := ⟨_, rfl⟩
    obtain ⟨ea, hea⟩ : ∃ l, (eMistakes B R).2 = l := ⟨_, rfl⟩
    obtain ⟨n1, hn1⟩ : ∃ l, (eAfter B R f m).1 = l := ⟨_, rfl⟩
    obtain ⟨e1, he1⟩ : ∃ l, (eAfter B R f m).2 = l := ⟨_, rfl⟩
    obtain ⟨n2, hn2⟩ : ∃ l, (eNext B R f).1 = l := ⟨_, rfl⟩
    obtain ⟨e2, he2⟩ : ∃ l, (eNext B R f).2 = l := ⟨_, rfl⟩
    have HL : Hid (la.length ≤ 140737488351232) := by
      have h1 := mistakes_len B R
      rw [hla] at h1
      exact h1
    have HA : Hid (eMistakes B R = (la, ea)) := by unfold Hid; rw [← hla, ← hea]
    have HM : Hid (eAfter B R f m = (n1, e1)) := by unfold Hid; rw [← hn1, ← he1]
    have HX : Hid (eNext B R f = (n2, e2)) := by unfold Hid; rw [← hn2, ← he2]
    clear hfar hla hea hn1 he1 hn2 he2
    go_enter Try.func5, Try.ntmps5
    go_wp2_with (first
      | (go_at_call 14; refine (far_any N _ _ B R _ (HBF.out.go HB0.out).1 (HBF.out.go HB0.out).2).mono ?_; rintro e w1 ⟨rfl, hb1⟩; rw [HFA.out]; (try clear c0); have HB1 := Lib.hid (bel HB0.out hb1); have c1 := (old_of HB1.out).1; clear hb1)
      | (go_at_call 16; refine (copy_any N _ B _ (HBF.out.go HB1.out).1 HNE.out.big.1 HNE.out.big.2.1 HNE.out.big.2.2.1 HNE.out.big.2.2.2).mono ?_; rintro e w2 ⟨v2, rfl, how2, hb2⟩; have hbk2 := how2.book HNE.out.big.1 HNE.out.big.2.1 HNE.out.big.2.2.1 HNE.out.big.2.2.2; clear how2; obtain ⟨_, b1, d1, b2, d2, b3, d3, rfl, _⟩ := id hbk2; have HBK2 := Lib.hid hbk2; clear hbk2; (try clear c1); have HB2 := Lib.hid (bel HB1.out hb2); have c2 := (old_of HB2.out).1; clear hb2)
      | (go_at_call 17; refine (copyFruits_any N _ R _ (HBF.out.go HB2.out).2 (Nat.le_trans HBF.out.1.1 HB2.out.size) (by have := HNE.out.n; omega) (fun f hf => by have := HNE.out.L f hf; omega)).mono ?_; rintro e w3 ⟨v3, rfl, hro3, hb3⟩; obtain ⟨af3, cf3, rfl⟩ := hro3.form; have hfr3 := hro3.rows (Nat.le_refl _) (by have := HNE.out.n; omega) (fun f hf => by have := HNE.out.L f hf; omega); have hbk3 := (HBK2.out.go hb3).raise hb3.size (Nat.le_refl _); obtain ⟨wv, hwv, HBv, hszv, hblkv⟩ := box1 w3 (.cells #[.slice b1 B.nv d1, .slice b2 B.nf d2, .slice b3 B.ns d3, .int .i64 B.wr] 25); (try clear hws); clear c2 hro3; have x0 := cell_blk hblkv 0 rfl; have x1 := cell_blk hblkv 1 rfl; have x2 := cell_blk hblkv 2 rfl; have x3 := cell_blk hblkv 3 rfl; have HBs := Lib.hid (bel (bel HB2.out hb3) HBv.out); have cs := (old_of HBs.out).1; have hszs := Nat.lt_of_lt_of_le hsz HBs.out.size; (try have hszs1 := Nat.lt_of_lt_of_le hsz1 HBs.out.size); have HBG : Hid (BF w3.heap.size wv _ (.slice af3 R.n cf3) B R) := BF.go ⟨hbk3, hfr3⟩ HBv.out; have HBFo := HBF; have HBF := Lib.hid (HBF.out.go HBs.out); clear HBFo hb3 hbk3 hfr3 hblkv; have HBz : Hid (Below wv.heap.size wv wv) := Below.refl _ _)
      | (go_at_call 33; refine (mMistakes_any _ _ _ B R _ (HBG.out.go HBz.out).1 (HBG.out.go HBz.out).2).mono ?_; rintro e w4 ⟨u4, rfl, hu4, hb4⟩; rw [HA.out] at hu4; rw [HA.out]; obtain ⟨ao4, co4, rfl⟩ := hu4.form; have HU4 := Lib.hid (hu4.places HL.out); clear hu4; have HC4 := Lib.hid hb4; (try clear cz); have HB4 := Lib.hid (bel HBz.out hb4); have c4 := (old_of HB4.out).1; clear hb4)
      | (go_at_call 34; refine (rMistakes_any _ _ _ B R _ (HBF.out.go HB4.out).1 (HBF.out.go HB4.out).2).mono ?_; rintro e w5 ⟨u5, rfl, hu5, hb5⟩; rw [HA.out] at hu5; rw [HA.out]; obtain ⟨ao5, co5, rfl⟩ := hu5.form; have HU5 := Lib.hid (hu5.places HL.out); clear hu5; have HC5 := Lib.hid hb5; (try clear c4); have HB5 := Lib.hid (bel HB4.out hb5); have c5 := (old_of HB5.out).1; clear hb5)
      | (go_at_call 35; refine (mAfter_any _ _ _ B R f m _ (HBG.out.go HB5.out).1 (HBG.out.go HB5.out).2).mono ?_; rintro e w6 ⟨rfl, hb6⟩; rw [HM.out]; have HC6 := Lib.hid hb6; (try clear c5); have HB6 := Lib.hid (bel HB5.out hb6); have c6 := (old_of HB6.out).1; clear hb6)
      | (go_at_call 36; refine (rAfter_any _ _ _ B R f m _ (HBF.out.go HB6.out).1 (HBF.out.go HB6.out).2).mono ?_; rintro e w7 ⟨rfl, hb7⟩; rw [HM.out]; have HC7 := Lib.hid hb7; (try clear c6); have HB7 := Lib.hid (bel HB6.out hb7); have c7 := (old_of HB7.out).1; clear hb7)
      | (go_at_call 37; refine (samePlaces_any _ _ _ _ _ (HU4.out.mono (bel (bel HC5.out HC6.out) HC7.out) (bel (bel HC5.out HC6.out) HC7.out).size) (HU5.out.mono (bel HC6.out HC7.out) (bel HC6.out HC7.out).size)).mono ?_; rintro e w8 ⟨rfl, hb8⟩; replace hb8 := drawn_below hb8; have HC8 := Lib.hid hb8; (try clear c7); have HB8 := Lib.hid (bel HB7.out hb8); have c8 := (old_of HB8.out).1; clear hb8)
      | (go_at_call 38; refine (mNext_any _ _ _ B R f _ (HBG.out.go HB8.out).1 (HBG.out.go HB8.out).2).mono ?_; rintro e w9 ⟨rfl, hb9⟩; rw [HX.out]; have HC9 := Lib.hid hb9; (try clear c8); have HB9 := Lib.hid (bel HB8.out hb9); have c9 := (old_of HB9.out).1; clear hb9)
      | (go_at_call 39; refine (rNext_any _ _ _ B R f _ (HBF.out.go HB9.out).1 (HBF.out.go HB9.out).2).mono ?_; rintro e wa ⟨rfl, hba⟩; rw [HX.out]; have HCa := Lib.hid hba; (try clear c9); have HBa := Lib.hid (bel HB9.out hba); have ca := (old_of HBa.out).1; clear hba)
      | (go_at_call 24; refine (same_any _ _ _ _ B _ (HBG.out.go HBa.out).1 (HBF.out.go HBa.out).1).mono ?_; rintro e wA ⟨rfl, hbA⟩; (try clear ca); have HBA := Lib.hid (bel HBa.out hbA); have cA := (old_of HBA.out).1; clear hbA)
      | (go_at_call 25; refine (sameLists_any _ _ _ _ _ _ _ _ _ _ (RowsAt.mono (HBG.out.go HBA.out).2 (Below.refl _ _) (Nat.le_max_left _ _)) (RowsAt.mono (HBF.out.go HBA.out).2 (Below.refl _ _) (Nat.le_max_right _ _))).mono ?_; rintro e wB ⟨rfl, hbB⟩; rw [HSL.out]; replace hbB := drawn_below hbB; (try clear cA); have HBB := Lib.hid (bel HBA.out hbB); have cB := (old_of HBB.out).1; clear hbB)
      | (go_at_call 15; refine (works_any _).mono ?_; rintro e wC ⟨rfl, hbC⟩; (try clear cB); have HBC := Lib.hid (bel HBB.out hbC); have cC := (old_of HBC.out).1; clear hbC))
    go_ret
    exact ⟨rfl, fin HB.out (fin HBs.out HBC.out)⟩

end Go.Proofs.Ytmmadlpkolcgkaa
