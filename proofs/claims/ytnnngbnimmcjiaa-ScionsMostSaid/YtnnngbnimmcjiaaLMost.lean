/-
  LMost: ScionsMost returns true.
-/
import Derived.Test.YtnnngbnimmcjiaaLFits
import Derived.Test.YtnnngbnimmcjiaaRPlace
namespace Go.Proofs.Ytnnngbnimmcjiaa
open Go.RowKit

set_option maxHeartbeats 4000000 in
set_option maxRecDepth 100000 in
theorem cmost_any (N : Nat) (v : Value) (B : SB) (y z : Int) (w : World) (h : BookAt N w v B) :
    Calls Try.prog 9 #[v, .int .i64 y, .int .i64 z] w fun e w' => e = .returned (.bool true) ∧ Below w.heap.size w w' := by
  have h' := h
  obtain ⟨_, a1, z1, a2, z2, a3, z3, rfl, _⟩ := h'
  obtain ⟨ws, hws, HB, hsz, hblk⟩ := box1 w (.cells #[.slice a1 B.ns z1, .slice a2 B.ng z2, .slice a3 B.nw z3] 26)
  have q0 := cell_blk hblk 0 rfl
  have q1 := cell_blk hblk 1 rfl
  have q2 := cell_blk hblk 2 rfl
  have HBK := Lib.hid (h.go HB.out)
  have HB0 : Hid (Below ws.heap.size ws ws) := Below.refl _ _
  have HNS : Hid (N ≤ ws.heap.size) := HBK.out.1
  have hlens := h.lens
  obtain ⟨hlv, hls, hln⟩ := hlens
  clear hblk h
  cases hfar : farL B with
  | true =>
    have HFA := Lib.hid hfar
    clear hfar
    go_enter Try.func9, Try.ntmps9
    go_wp2_with (first
      | (go_at_call 33; refine (Far_any N _ B _ (HBK.out.go HB0.out)).mono ?_; rintro e w1 ⟨rfl, hb1⟩; rw [HFA.out]; (try clear c0); have HB1 := Lib.hid (bel HB0.out hb1); have c1 := (old_of HB1.out).1; clear hb1)
      | (go_at_call 14; refine (works_any _).mono ?_; rintro e w2 ⟨rfl, hb2⟩; (try clear c1); have HB2 := Lib.hid (bel HB1.out hb2); have c2 := (old_of HB2.out).1; clear hb2))
    go_ret
    exact ⟨rfl, fin HB.out HB2.out⟩
  | false =>
    have HFA := Lib.hid hfar
    obtain ⟨l1, l2, l3, _⟩ := farL_le hfar
    have HNE := Lib.hid (And.intro l1 (And.intro l2 l3))
    clear hfar l1 l2 l3
    obtain ⟨m1, hm1⟩ : ∃ x, (eNum B (sumN B)).1 = x := ⟨_, rfl⟩
    obtain ⟨m2, hm2⟩ : ∃ x, (eNum B (sumN B)).2 = x := ⟨_, rfl⟩
    obtain ⟨t1, ht1⟩ : ∃ x, (eAlone B y).1 = x := ⟨_, rfl⟩
    obtain ⟨t2, ht2⟩ : ∃ x, (eAlone B y).2 = x := ⟨_, rfl⟩
    obtain ⟨p1, hp1⟩ : ∃ x, (ePlace B z).1 = x := ⟨_, rfl⟩
    obtain ⟨p2, hp2⟩ : ∃ x, (ePlace B z).2 = x := ⟨_, rfl⟩
    have HM1 := Lib.hid hm1
    have HM2 := Lib.hid hm2
    have HT1 := Lib.hid ht1
    have HT2 := Lib.hid ht2
    have HP1 := Lib.hid hp1
    have HP2 := Lib.hid hp2
    clear hm1 hm2 ht1 ht2 hp1 hp2
    go_enter Try.func9, Try.ntmps9
    go_wp2_with (first
      | (go_at_call 33; refine (Far_any N _ B _ (HBK.out.go HB0.out)).mono ?_; rintro e w1 ⟨rfl, hb1⟩; rw [HFA.out]; (try clear c0); have HB1 := Lib.hid (bel HB0.out hb1); have c1 := (old_of HB1.out).1; clear hb1)
      | (go_at_call 26; refine (copy_near N _ B _ (HBK.out.go HB1.out) HNE.out.1 HNE.out.2.1 HNE.out.2.2).mono ?_; rintro e w2 ⟨b1, d1, b2, d2, b3, d3, rfl, how2, hbk2, hb2⟩; clear how2; have HBK2 := Lib.hid hbk2; clear hbk2; (try clear c1); have HB2 := Lib.hid (bel HB1.out hb2); have c2 := (old_of HB2.out).1; clear hb2; clear c2; obtain ⟨w4, hw4, HB34, hsz4, hblk4⟩ := box1 w2 (.cells #[.slice b1 B.ns d1, .slice b2 B.ng d2, .slice b3 B.nw d3] 26); have x0 := cell_blk hblk4 0 rfl; have x1 := cell_blk hblk4 1 rfl; have x2 := cell_blk hblk4 2 rfl; have HB4 : Hid (Below ws.heap.size ws w4) := bel HB2.out HB34.out; have HBK4 := Lib.hid (HBK2.out.mono HB34.out HB34.out.size (Nat.le_refl _)); have HBF4 : Hid (BookAt w4.heap.size w4 _ B) := Lib.hid ((HBK.out.go HB4.out).mono (Below.refl _ _) (Nat.le_trans HNS.out HB4.out.size) (Nat.le_refl _)); have q0 := (HB4.out.cell (p := ⟨w.heap.size, 0, none⟩) hsz).trans q0; have q1 := (HB4.out.cell (p := ⟨w.heap.size, 1, none⟩) hsz).trans q1; have q2 := (HB4.out.cell (p := ⟨w.heap.size, 2, none⟩) hsz).trans q2; have hsz4b : w.heap.size < w4.heap.size := Nat.lt_of_lt_of_le hsz HB4.out.size; have HBz : Hid (Below w4.heap.size w4 w4) := Below.refl _ _; clear hblk4 hws)
      | (go_at_call 15; refine (kMost_any w4.heap.size _ B _ (HBK4.out.go HBz.out)).mono ?_; rw [HM1.out, HM2.out]; rintro e w5 ⟨rfl, hb5⟩; (try clear cz); have HB5 := Lib.hid (bel HBz.out hb5); have c5 := (old_of HB5.out).1; clear hb5)
      | (go_at_call 39; refine (rMostE_any w4.heap.size _ B _ (HBF4.out.go HB5.out)).mono ?_; rw [HM1.out, HM2.out]; rintro e w6 ⟨rfl, hb6⟩; (try clear c5); have HB6 := Lib.hid (bel HB5.out hb6); have c6 := (old_of HB6.out).1; clear hb6)
      | (go_at_call 22; refine (kAlone_any w4.heap.size _ B y _ (HBK4.out.go HB6.out)).mono ?_; rw [HT1.out, HT2.out]; rintro e w7 ⟨rfl, hb7⟩; (try clear c6); have HB7 := Lib.hid (bel HB6.out hb7); have c7 := (old_of HB7.out).1; clear hb7)
      | (go_at_call 40; refine (rAlone_any w4.heap.size _ B y _ (HBF4.out.go HB7.out)).mono ?_; rw [HT1.out, HT2.out]; rintro e w8 ⟨rfl, hb8⟩; (try clear c7); have HB8 := Lib.hid (bel HB7.out hb8); have c8 := (old_of HB8.out).1; clear hb8)
      | (go_at_call 25; refine (kPlace_any w4.heap.size _ B z _ (HBK4.out.go HB8.out)).mono ?_; rw [HP1.out, HP2.out]; rintro e w9 ⟨rfl, hb9⟩; (try clear c8); have HB9 := Lib.hid (bel HB8.out hb9); have c9 := (old_of HB9.out).1; clear hb9)
      | (go_at_call 41; refine (rPlace_any w4.heap.size _ B z _ (HBF4.out.go HB9.out)).mono ?_; rw [HP1.out, HP2.out]; rintro e wA ⟨rfl, hbA⟩; (try clear c9); have HBA := Lib.hid (bel HB9.out hbA); have cA := (old_of HBA.out).1; clear hbA)
      | (go_at_call 38; refine (same_any _ _ _ _ B _ (HBK4.out.go HBA.out) (HBF4.out.go HBA.out)).mono ?_; rintro e wF ⟨rfl, hbF⟩; (try clear cA); have HBF := Lib.hid (bel HBA.out hbF); have cF := (old_of HBF.out).1; clear hbF)
      | (go_at_call 14; refine (works_any _).mono ?_; rintro e wH ⟨rfl, hbH⟩; (try clear cF); have HBH := Lib.hid (bel HBF.out hbH); have cH := (old_of HBH.out).1; clear hbH))
    go_ret
    exact ⟨rfl, fin HB.out (fin HB4.out HBH.out)⟩

end Go.Proofs.Ytnnngbnimmcjiaa
