/-
  MarksWrong says true, of any book, fruits and sort.
-/
import Derived.Test.YtopajgnemeodeaaCApart
namespace Go.Proofs.Ytopajgnemeodeaa
open Go.RowKit

set_option maxHeartbeats 4000000 in
set_option maxRecDepth 100000 in
theorem cwrong_any (N : Nat) (v u : Value) (B : Bk) (R : Fr) (s : Int) (w : World) (h : BookAt N w v B) (hf : FruitsAt N w u R) :
    Calls Try.prog 3 #[v, u, .int .i64 s] w fun e w' => e = .returned (.bool true) ∧ Below w.heap.size w w' := by
  have h' := h
  obtain ⟨_, a1, c1, a2, c2, a3, c3, rfl, _⟩ := h'
  obtain ⟨ws, hws, HB, hsz, hblk⟩ := box1 w (.cells #[.slice a1 B.nv c1, .slice a2 B.nf c2, .slice a3 B.ns c3, .int .i64 B.wr] 25)
  have q0 := cell_blk hblk 0 rfl
  have q1 := cell_blk hblk 1 rfl
  have q2 := cell_blk hblk 2 rfl
  have q3 := cell_blk hblk 3 rfl
  obtain ⟨HBF, HB0⟩ := entry HB.out h hf
  clear hblk h hf
  cases hfar : far B R with
  | true =>
    have HFA : Hid _ := Lib.hid hfar
    clear hfar
    go_enter Try.func3, Try.ntmps3
    go_wp2_with (first
      | (go_at_call 14; refine (far_any N _ _ B R _ (HBF.out.go HB0.out).1 (HBF.out.go HB0.out).2).mono ?_; rintro e w1 ⟨rfl, hb1⟩; rw [HFA.out]; (try clear c0); have HB1 := Lib.hid (bel HB0.out hb1); have c1 := (old_of HB1.out).1; clear hb1)
      | (go_at_call 15; refine (works_any _).mono ?_; rintro e w2 ⟨rfl, hb2⟩; (try clear c1); have HB2 := Lib.hid (bel HB1.out hb2); have c2 := (old_of HB2.out).1; clear hb2))
    go_ret
    exact ⟨rfl, fin HB.out HB2.out⟩
  | false =>
    have HFA : Hid _ := Lib.hid hfar
    have HNE := Lib.hid (near_of hfar)
    have HSL : Hid (sameL R.n R.L R.X R.n R.L R.X = true) := sameL_self _ _ _
    clear hfar
    go_enter Try.func3, Try.ntmps3
    go_wp2_with (first
      | (go_at_call 14; refine (far_any N _ _ B R _ (HBF.out.go HB0.out).1 (HBF.out.go HB0.out).2).mono ?_; rintro e w1 ⟨rfl, hb1⟩; rw [HFA.out]; (try clear c0); have HB1 := Lib.hid (bel HB0.out hb1); have c1 := (old_of HB1.out).1; clear hb1)
      | (go_at_call 16; refine (copy_any N _ B _ (HBF.out.go HB1.out).1 HNE.out.big.1 HNE.out.big.2.1 HNE.out.big.2.2.1 HNE.out.big.2.2.2).mono ?_; rintro e w2 ⟨v2, rfl, how2, hb2⟩; have hbk2 := how2.book HNE.out.big.1 HNE.out.big.2.1 HNE.out.big.2.2.1 HNE.out.big.2.2.2; clear how2; obtain ⟨_, b1, d1, b2, d2, b3, d3, rfl, _⟩ := id hbk2; have HBK2 := Lib.hid hbk2; clear hbk2; (try clear c1); have HB2 := Lib.hid (bel HB1.out hb2); have c2 := (old_of HB2.out).1; clear hb2)
      | (go_at_call 17; refine (copyFruits_any N _ R _ (HBF.out.go HB2.out).2 (Nat.le_trans HBF.out.1.1 HB2.out.size) (by have := HNE.out.n; omega) (fun f hf => by have := HNE.out.L f hf; omega)).mono ?_; rintro e w3 ⟨v3, rfl, hro3, hb3⟩; obtain ⟨af3, cf3, rfl⟩ := hro3.form; have hfr3 := hro3.rows (Nat.le_refl _) (by have := HNE.out.n; omega) (fun f hf => by have := HNE.out.L f hf; omega); have hbk3 := (HBK2.out.go hb3).raise hb3.size (Nat.le_refl _); obtain ⟨wv, hwv, HBv, hszv, hblkv⟩ := box1 w3 (.cells #[.slice b1 B.nv d1, .slice b2 B.nf d2, .slice b3 B.ns d3, .int .i64 B.wr] 25); (try clear hws); clear c2 hro3; have x0 := cell_blk hblkv 0 rfl; have x1 := cell_blk hblkv 1 rfl; have x2 := cell_blk hblkv 2 rfl; have x3 := cell_blk hblkv 3 rfl; have HBs := Lib.hid (bel (bel HB2.out hb3) HBv.out); have cs := (old_of HBs.out).1; have hszs := Nat.lt_of_lt_of_le hsz HBs.out.size; (try have hszs1 := Nat.lt_of_lt_of_le hsz1 HBs.out.size); have HBG : Hid (BF w3.heap.size wv _ (.slice af3 R.n cf3) B R) := BF.go ⟨hbk3, hfr3⟩ HBv.out; have HBFo := HBF; have HBF := Lib.hid (HBF.out.go HBs.out); clear HBFo hb3 hbk3 hfr3 hblkv; have HBz : Hid (Below wv.heap.size wv wv) := Below.refl _ _))
    have Szd := old_of HBz.out.drew; have HBzd := Szd.2
    go_region_held3 (fun w' => (∀ b o, b < wv.heap.size → w'.cell? ⟨b, o, none⟩ = wv.cell? ⟨b, o, none⟩) ∧ Hid (Below wv.heap.size wv w')) (assumption) (first
      | (go_at_call 18; refine (mCheck_any _ _ _ B R _ (HBG.out.go HBzd.out).1 (HBG.out.go HBzd.out).2).mono ?_; rintro e w4 ⟨rfl, hb4⟩; have S4 := old_of (bel HBzd.out hb4); have HB4 := S4.2; clear hb4)
      | (go_at_call 19; refine (rCheck_any _ _ _ B R _ (HBF.out.go HB4.out).1 (HBF.out.go HB4.out).2).mono ?_; rintro e w5 ⟨rfl, hb5⟩; have S5 := old_of (bel HB4.out hb5); have HB5 := S5.2; clear hb5))
    have HB5 := S5.2; have c5 := S5.1; clear S5 Szd
    clear S4
    go_wp2_with (first
      | (go_at_call 20; refine (mWrong_any _ _ _ B R s _ (HBG.out.go HB5.out).1 (HBG.out.go HB5.out).2).mono ?_; rintro e w6 ⟨rfl, hb6⟩; (try clear c5); have HB6 := Lib.hid (bel HB5.out hb6); have c6 := (old_of HB6.out).1; clear hb6)
      | (go_at_call 21; refine (rWrong_any _ _ _ B R s _ (HBF.out.go HB6.out).1 (HBF.out.go HB6.out).2).mono ?_; rintro e w7 ⟨rfl, hb7⟩; (try clear c6); have HB7 := Lib.hid (bel HB6.out hb7); have c7 := (old_of HB7.out).1; clear hb7)
      | (go_at_call 22; refine (mFewest_any _ _ _ B R _ (HBG.out.go HB7.out).1 (HBG.out.go HB7.out).2).mono ?_; rintro e w8 ⟨rfl, hb8⟩; (try clear c7); have HB8 := Lib.hid (bel HB7.out hb8); have c8 := (old_of HB8.out).1; clear hb8)
      | (go_at_call 23; refine (rFewest_any _ _ _ B R _ (HBF.out.go HB8.out).1 (HBF.out.go HB8.out).2).mono ?_; rintro e w9 ⟨rfl, hb9⟩; (try clear c8); have HB9 := Lib.hid (bel HB8.out hb9); have c9 := (old_of HB9.out).1; clear hb9)
      | (go_at_call 24; refine (same_any _ _ _ _ B _ (HBG.out.go HB9.out).1 (HBF.out.go HB9.out).1).mono ?_; rintro e wA ⟨rfl, hbA⟩; (try clear c9); have HBA := Lib.hid (bel HB9.out hbA); have cA := (old_of HBA.out).1; clear hbA)
      | (go_at_call 25; refine (sameLists_any _ _ _ _ _ _ _ _ _ _ (RowsAt.mono (HBG.out.go HBA.out).2 (Below.refl _ _) (Nat.le_max_left _ _)) (RowsAt.mono (HBF.out.go HBA.out).2 (Below.refl _ _) (Nat.le_max_right _ _))).mono ?_; rintro e wB ⟨rfl, hbB⟩; rw [HSL.out]; replace hbB := drawn_below hbB; (try clear cA); have HBB := Lib.hid (bel HBA.out hbB); have cB := (old_of HBB.out).1; clear hbB)
      | (go_at_call 15; refine (works_any _).mono ?_; rintro e wC ⟨rfl, hbC⟩; (try clear cB); have HBC := Lib.hid (bel HBB.out hbC); have cC := (old_of HBC.out).1; clear hbC))
    go_ret
    exact ⟨rfl, fin HB.out (fin HBs.out HBC.out)⟩

end Go.Proofs.Ytopajgnemeodeaa
