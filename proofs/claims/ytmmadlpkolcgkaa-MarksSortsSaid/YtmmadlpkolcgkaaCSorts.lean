/-
  MarksSorts says true, of any book, fruits and Ask.
-/
import Derived.Test.YtmmadlpkolcgkaaCWrong
import Derived.Test.YtmmadlpkolcgkaaRefG
import Derived.Test.YtmmadlpkolcgkaaMarks
namespace Go.Proofs.Ytmmadlpkolcgkaa
open Go.RowKit

theorem sorts_len40 {B : Bk} {R : Fr} (h : B.ns ≤ 40) : (eSorts B R).1.length ≤ 40 := by
  unfold eSorts
  split
  · simp
  · split
    · simp
    · have := sel_len (fun s => decide ((wrong B R s : Int) ≤ B.wr)) B.ns
      show (sorts B R).length ≤ 40; unfold sorts; omega
theorem values_len {B : Bk} {R : Fr} {f m : Int} : (eValues B R f m).1.length ≤ 40 := by
  unfold eValues
  by_cases hc : chk B R = 0
  · cases hp : inPlace B R f m with
    | false => simp [hc]
    | true =>
      obtain ⟨a, b, rfl, rfl, ha, hb⟩ := in_place hp
      have h1 : (vals B R a b).length ≤ (B.V b).toNat := sel_len _ _
      have h2 := ((chk_good hc).V b hb).2
      have e1 : ((a : Int)).toNat = a := rfl
      have e2 : ((b : Int)).toNat = b := rfl
      rw [if_neg (by simp [hc]), if_neg (by simp), e1, e2]
      split
      · simp
      · show (vals B R a b).length ≤ 40; omega
  · simp [hc]

set_option maxHeartbeats 4000000 in
set_option maxRecDepth 100000 in
theorem csorts_any (N : Nat) (v u : Value) (B : Bk) (R : Fr) (s pf pm t : Int) (w : World) (h : BookAt N w v B) (hf : FruitsAt N w u R) :
    Calls Try.prog 4 #[v, u, .agg #[.int .i64 s, .int .i64 pf, .int .i64 pm, .int .i64 t]] w fun e w' => e = .returned (.bool true) ∧ Below w.heap.size w w' := by
  have h' := h
  obtain ⟨_, a1, c1, a2, c2, a3, c3, rfl, _⟩ := h'
  obtain ⟨ws, hws, HB, hsz, hsz1, hblk, hblk1⟩ := box2 w (.cells #[.slice a1 B.nv c1, .slice a2 B.nf c2, .slice a3 B.ns c3, .int .i64 B.wr] 25) (.cells #[.int .i64 s, .int .i64 pf, .int .i64 pm, .int .i64 t] 42)
  have q0 := cell_blk hblk 0 rfl
  have q1 := cell_blk hblk 1 rfl
  have q2 := cell_blk hblk 2 rfl
  have q3 := cell_blk hblk 3 rfl
  have p0 := cell_blk hblk1 0 rfl
  have p1 := cell_blk hblk1 1 rfl
  have p2 := cell_blk hblk1 2 rfl
  have p3 := cell_blk hblk1 3 rfl
  obtain ⟨HBF, HB0⟩ := entry HB.out h hf
  clear hblk hblk1 h hf
  cases hfar : far B R with
  | true =>
    have HFA : Hid _ := Lib.hid hfar
    clear hfar
    go_enter Try.func4, Try.ntmps4
    go_wp2_with (first
      | (go_at_call 14; refine (far_any N _ _ B R _ (HBF.out.go HB0.out).1 (HBF.out.go HB0.out).2).mono ?_; rintro e w1 ⟨rfl, hb1⟩; rw [HFA.out]; (try clear c0); have HB1 := Lib.hid (bel HB0.out hb1); have c1 := (old_of HB1.out).1; clear hb1)
      | (go_at_call 15; refine (works_any _).mono ?_; rintro e w2 ⟨rfl, hb2⟩; (try clear c1); have HB2 := Lib.hid (bel HB1.out hb2); have c2 := (old_of HB2.out).1; clear hb2))
    go_ret
    exact ⟨rfl, fin HB.out HB2.out⟩
  | false =>
    have HFA : Hid _ := Lib.hid hfar
    have HNE := Lib.hid (near_of hfar)
    have HSL : Hid (sameL R.n R.L R.X R.n R.L R.X = true) := sameL_self _ _ _
    obtain ⟨la, hla⟩ : ∃ l, (eSorts B R).1 = l := ⟨_, rfl⟩
    obtain ⟨ea, hea⟩ : ∃ l, (eSorts B R).2 = l := ⟨_, rfl⟩
    obtain ⟨lt, hlt⟩ : ∃ l, (eValues B R pf pm).1 = l := ⟨_, rfl⟩
    obtain ⟨et, het⟩ : ∃ l, (eValues B R pf pm).2 = l := ⟨_, rfl⟩
    have HL : Hid (la.length ≤ 140737488351232 ∧ lt.length ≤ 140737488351232) := by
      have h1 := sorts_len40 (R := R) (near_of hfar).ns
      have h2 := values_len (B := B) (R := R) (f := pf) (m := pm)
      rw [hla] at h1
      rw [hlt] at h2
      exact ⟨by omega, by omega⟩
    have HA : Hid (eSorts B R = (la, ea)) := by unfold Hid; rw [← hla, ← hea]
    have HT : Hid (eValues B R pf pm = (lt, et)) := by unfold Hid; rw [← hlt, ← het]
    have HSA : Hid (sameI la.length (fun i => la.getD i 0) la.length (fun i => la.getD i 0) = true) := sameI_self _ _
    have HST : Hid (sameI lt.length (fun i => lt.getD i 0) lt.length (fun i => lt.getD i 0) = true) := sameI_self _ _
    clear hfar hla hea hlt het
    go_enter Try.func4, Try.ntmps4
    go_wp2_with (first
      | (go_at_call 14; refine (far_any N _ _ B R _ (HBF.out.go HB0.out).1 (HBF.out.go HB0.out).2).mono ?_; rintro e w1 ⟨rfl, hb1⟩; rw [HFA.out]; (try clear c0); have HB1 := Lib.hid (bel HB0.out hb1); have c1 := (old_of HB1.out).1; clear hb1)
      | (go_at_call 16; refine (copy_any N _ B _ (HBF.out.go HB1.out).1 HNE.out.big.1 HNE.out.big.2.1 HNE.out.big.2.2.1 HNE.out.big.2.2.2).mono ?_; rintro e w2 ⟨v2, rfl, how2, hb2⟩; have hbk2 := how2.book HNE.out.big.1 HNE.out.big.2.1 HNE.out.big.2.2.1 HNE.out.big.2.2.2; clear how2; obtain ⟨_, b1, d1, b2, d2, b3, d3, rfl, _⟩ := id hbk2; have HBK2 := Lib.hid hbk2; clear hbk2; (try clear c1); have HB2 := Lib.hid (bel HB1.out hb2); have c2 := (old_of HB2.out).1; clear hb2)
      | (go_at_call 17; refine (copyFruits_any N _ R _ (HBF.out.go HB2.out).2 (Nat.le_trans HBF.out.1.1 HB2.out.size) (by have := HNE.out.n; omega) (fun f hf => by have := HNE.out.L f hf; omega)).mono ?_; rintro e w3 ⟨v3, rfl, hro3, hb3⟩; obtain ⟨af3, cf3, rfl⟩ := hro3.form; have hfr3 := hro3.rows (Nat.le_refl _) (by have := HNE.out.n; omega) (fun f hf => by have := HNE.out.L f hf; omega); have hbk3 := (HBK2.out.go hb3).raise hb3.size (Nat.le_refl _); obtain ⟨wv, hwv, HBv, hszv, hblkv⟩ := box1 w3 (.cells #[.slice b1 B.nv d1, .slice b2 B.nf d2, .slice b3 B.ns d3, .int .i64 B.wr] 25); (try clear hws); clear c2 hro3; have x0 := cell_blk hblkv 0 rfl; have x1 := cell_blk hblkv 1 rfl; have x2 := cell_blk hblkv 2 rfl; have x3 := cell_blk hblkv 3 rfl; have HBs := Lib.hid (bel (bel HB2.out hb3) HBv.out); have cs := (old_of HBs.out).1; have hszs := Nat.lt_of_lt_of_le hsz HBs.out.size; (try have hszs1 := Nat.lt_of_lt_of_le hsz1 HBs.out.size); have HBG : Hid (BF w3.heap.size wv _ (.slice af3 R.n cf3) B R) := BF.go ⟨hbk3, hfr3⟩ HBv.out; have HBFo := HBF; have HBF := Lib.hid (HBF.out.go HBs.out); clear HBFo hb3 hbk3 hfr3 hblkv; have HBz : Hid (Below wv.heap.size wv wv) := Below.refl _ _)
      | (go_at_call 26; refine (mSorts_any _ _ _ B R _ (HBG.out.go HBz.out).1 (HBG.out.go HBz.out).2).mono ?_; rintro e w4 ⟨u4, rfl, hu4, hb4⟩; rw [HA.out] at hu4; rw [HA.out]; obtain ⟨ao4, co4, rfl⟩ := hu4.form; have HU4 := Lib.hid hu4; clear hu4; have HC4 := Lib.hid hb4; (try clear cz); have HB4 := Lib.hid (bel HBz.out hb4); have c4 := (old_of HB4.out).1; clear hb4)
      | (go_at_call 27; refine (rSorts_any _ _ _ B R _ (HBF.out.go HB4.out).1 (HBF.out.go HB4.out).2).mono ?_; rintro e w5 ⟨u5, rfl, hu5, hb5⟩; rw [HA.out] at hu5; rw [HA.out]; obtain ⟨ao5, co5, rfl⟩ := hu5.form; have HU5 := Lib.hid hu5; clear hu5; have HC5 := Lib.hid hb5; (try clear c4); have HB5 := Lib.hid (bel HB4.out hb5); have c5 := (old_of HB5.out).1; clear hb5)
      | (go_at_call 28; refine (mIs_any _ _ _ B R s _ (HBG.out.go HB5.out).1 (HBG.out.go HB5.out).2).mono ?_; rintro e w6 ⟨rfl, hb6⟩; have HC6 := Lib.hid hb6; (try clear c5); have HB6 := Lib.hid (bel HB5.out hb6); have c6 := (old_of HB6.out).1; clear hb6)
      | (go_at_call 29; refine (rIs_any _ _ _ B R s _ (HBF.out.go HB6.out).1 (HBF.out.go HB6.out).2).mono ?_; rintro e w7 ⟨rfl, hb7⟩; have HC7 := Lib.hid hb7; (try clear c6); have HB7 := Lib.hid (bel HB6.out hb7); have c7 := (old_of HB7.out).1; clear hb7)
      | (go_at_call 30; have _t := HBa; refine (sameInts_any _ _ _ _ _ _ _ _ (IntsAt.wider (HU9.out.at_ HL.out.2 HCa.out) HCa.out.size) (IntsAt.wider (HUa.out.at_ HL.out.2 (Below.refl _ _)) (Nat.le_refl _))).mono ?_; rintro e wb ⟨rfl, hbb⟩; rw [HST.out]; replace hbb := drawn_below hbb; have HCb := Lib.hid hbb; (try clear ca); have HBb := Lib.hid (bel HBa.out hbb); have cb := (old_of HBb.out).1; clear hbb)
      | (go_at_call 30; refine (sameInts_any _ _ _ _ _ _ _ _ (IntsAt.wider (HU4.out.at_ HL.out.1 (bel (bel HC5.out HC6.out) HC7.out)) (bel (bel HC5.out HC6.out) HC7.out).size) (IntsAt.wider (HU5.out.at_ HL.out.1 (bel HC6.out HC7.out)) (bel HC6.out HC7.out).size)).mono ?_; rintro e w8 ⟨rfl, hb8⟩; rw [HSA.out]; replace hb8 := drawn_below hb8; have HC8 := Lib.hid hb8; (try clear c7); have HB8 := Lib.hid (bel HB7.out hb8); have c8 := (old_of HB8.out).1; clear hb8)
      | (go_at_call 31; refine (mValues_any _ _ _ B R pf pm _ (HBG.out.go HB8.out).1 (HBG.out.go HB8.out).2).mono ?_; rintro e w9 ⟨u9, rfl, hu9, hb9⟩; rw [HT.out] at hu9; rw [HT.out]; obtain ⟨ao9, co9, rfl⟩ := hu9.form; have HU9 := Lib.hid hu9; clear hu9; have HC9 := Lib.hid hb9; (try clear c8); have HB9 := Lib.hid (bel HB8.out hb9); have c9 := (old_of HB9.out).1; clear hb9)
      | (go_at_call 32; refine (rValues_any _ _ _ B R pf pm _ (HBF.out.go HB9.out).1 (HBF.out.go HB9.out).2).mono ?_; rintro e wa ⟨ua, rfl, hua, hba⟩; rw [HT.out] at hua; rw [HT.out]; obtain ⟨aoa, coa, rfl⟩ := hua.form; have HUa := Lib.hid hua; clear hua; have HCa := Lib.hid hba; (try clear c9); have HBa := Lib.hid (bel HB9.out hba); have ca := (old_of HBa.out).1; clear hba)
      | (go_at_call 24; refine (same_any _ _ _ _ B _ (HBG.out.go HBb.out).1 (HBF.out.go HBb.out).1).mono ?_; rintro e wA ⟨rfl, hbA⟩; (try clear cb); have HBA := Lib.hid (bel HBb.out hbA); have cA := (old_of HBA.out).1; clear hbA)
      | (go_at_call 25; refine (sameLists_any _ _ _ _ _ _ _ _ _ _ (RowsAt.mono (HBG.out.go HBA.out).2 (Below.refl _ _) (Nat.le_max_left _ _)) (RowsAt.mono (HBF.out.go HBA.out).2 (Below.refl _ _) (Nat.le_max_right _ _))).mono ?_; rintro e wB ⟨rfl, hbB⟩; rw [HSL.out]; replace hbB := drawn_below hbB; (try clear cA); have HBB := Lib.hid (bel HBA.out hbB); have cB := (old_of HBB.out).1; clear hbB)
      | (go_at_call 15; refine (works_any _).mono ?_; rintro e wC ⟨rfl, hbC⟩; (try clear cB); have HBC := Lib.hid (bel HBB.out hbC); have cC := (old_of HBC.out).1; clear hbC))
    go_ret
    exact ⟨rfl, fin HB.out (fin HBs.out HBC.out)⟩

end Go.Proofs.Ytmmadlpkolcgkaa
