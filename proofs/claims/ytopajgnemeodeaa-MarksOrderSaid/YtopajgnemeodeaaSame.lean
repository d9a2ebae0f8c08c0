/-
  A book in memory of the call's own reads as a book.
-/
import Derived.Test.YtopajgnemeodeaaCopy3
import Derived.Test.YtopajgnemeodeaaLaw1
namespace Go.Proofs.Ytopajgnemeodeaa
open Go.RowKit

theorem IntsAt.wider {N N' : Nat} {w : World} {v : Value} {n : Nat} {x : Nat → Int} (h : IntsAt N w v n x) (hN : N ≤ N') : IntsAt N' w v n x :=
  h.mono (Below.refl _ _) hN

theorem SortsIn.sorts {w : World} {lo hi : Nat} {v : Value} {k : Nat} {B : Bk} (h : SortsIn w lo hi v k B) (hh : hi ≤ w.heap.size) (hk : k ≤ 1000000) (hl : ∀ s, s < k → B.nc s ≤ 1000 ∧ ∀ i, i < B.nc s → B.ncc s i ≤ 1000) : SortsAt w.heap.size w v k B.nc B.ncc B.can := by
  obtain ⟨rows, M, ho, hb, hlen, h0, hM, hm, hr⟩ := h
  have hMm := mono_M hm
  obtain ⟨h1, ⟨rfl, h2⟩ | ⟨g, cap, cur, rfl, h3, h4, h5⟩⟩ := id ho
  · exact ⟨none, 0, by rw [h2], by omega, fun h0 => by omega⟩
  · refine ⟨_, cap, rfl, by omega, fun _ => ⟨g, 0, rfl, (Array.getElem?_eq_some_iff.1 h4).1, fun j hj => ?_⟩⟩
    obtain ⟨r, hr1, hr2⟩ := hr j hj
    have e2 := hMm (j + 1) k (by omega) (Nat.le_refl _)
    have hlj := hl j hj
    exact ⟨r, by rw [Nat.zero_add]; exact own_cell ho j hr1, hr2.rows (by omega) (by omega) (fun i hi => by have := hlj.2 i hi; omega)⟩

theorem OwnBook.book {w : World} {lo : Nat} {v : Value} {B : Bk} (h : OwnBook w lo w.heap.size v B) (h40v : B.nv ≤ 1000000) (h40f : B.nf ≤ 1000000) (h40s : B.ns ≤ 1000000) (hl : ∀ s, s < B.ns → B.nc s ≤ 1000 ∧ ∀ i, i < B.nc s → B.ncc s i ≤ 1000) : BookAt w.heap.size w v B := by
  obtain ⟨v1, v2, v3, m, rfl, ⟨mid, h1, h2⟩, h3⟩ := h
  obtain ⟨g1, p1, rfl⟩ := h1.form
  obtain ⟨g2, p2, rfl⟩ := h2.form
  obtain ⟨a3, p3, rfl⟩ := h3.form
  have i1 := h1.ints (by omega)
  have i2 := h2.ints (by omega)
  have i3 := h3.sorts (Nat.le_refl _) h40s hl
  refine ⟨Nat.le_refl _, _, _, _, _, _, _, rfl, ?_, ?_, i3⟩
  · obtain ⟨_, _, e, hn, hc⟩ := i1
    cases e
    refine ⟨_, _, rfl, hn, fun h0 => ?_⟩
    obtain ⟨b, off, e, hb, hr⟩ := hc h0
    cases e
    refine ⟨_, _, rfl, ?_, hr⟩
    obtain ⟨r, hr1, _⟩ := hr 0 h0
    exact World.block_lt_of_cell? w _ hr1
  · obtain ⟨_, _, e, hn, hc⟩ := i2
    cases e
    refine ⟨_, _, rfl, hn, fun h0 => ?_⟩
    obtain ⟨b, off, e, hb, hr⟩ := hc h0
    cases e
    refine ⟨_, _, rfl, ?_, hr⟩
    obtain ⟨r, hr1, _⟩ := hr 0 h0
    exact World.block_lt_of_cell? w _ hr1

end Go.Proofs.Ytopajgnemeodeaa

namespace Go.Proofs.Ytopajgnemeodeaa
open Go.RowKit

theorem sameI_self (n : Nat) (x : Nat → Int) : sameI n x n x = true := by
  unfold sameI; rw [allB_true.2 fun i _ => by simp]; simp
theorem sameL_self (n : Nat) (L : Nat → Nat) (x : Nat → Nat → Int) : sameL n L x n L x = true := by
  unfold sameL; rw [allB_true.2 fun i _ => sameI_self _ _]; simp
theorem drawn_below {w w' : World} (h : ∃ q, w' = w.drewN q) : Below w.heap.size w w' := Drawn.below h _

set_option maxHeartbeats 4000000 in
theorem same_any (N M : Nat) (v u : Value) (B : Bk) (w : World) (h : BookAt N w v B) (h2 : BookAt M w u B) :
    Calls Try.prog 24 #[v, u] w fun e w' => e = .returned (.bool true) ∧ Below w.heap.size w w' := by
  have hf := nil_fruits N w
  have hf2 := nil_fruits M w
  have h' := h
  have h2' := h2
  obtain ⟨_, a1, c1, a2, c2, a3, c3, rfl, _⟩ := h'
  obtain ⟨_, b1, d1, b2, d2, b3, d3, rfl, _⟩ := h2'
  obtain ⟨ws, hws, HB, hsz, hsz1, hblk, hblk1⟩ := box2 w (.cells #[.slice a1 B.nv c1, .slice a2 B.nf c2, .slice a3 B.ns c3, .int .i64 B.wr] 25) (.cells #[.slice b1 B.nv d1, .slice b2 B.nf d2, .slice b3 B.ns d3, .int .i64 B.wr] 25)
  have q0 := cell_blk hblk 0 rfl
  have q1 := cell_blk hblk 1 rfl
  have q2 := cell_blk hblk 2 rfl
  have q3 := cell_blk hblk 3 rfl
  have p0 := cell_blk hblk1 0 rfl
  have p1 := cell_blk hblk1 1 rfl
  have p2 := cell_blk hblk1 2 rfl
  have p3 := cell_blk hblk1 3 rfl
  obtain ⟨HBF, HB0⟩ := entry HB.out h hf
  obtain ⟨HBG, _⟩ := entry HB.out h2 hf2
  have hN : N ≤ ws.heap.size := HBF.out.1.1
  have hM : M ≤ ws.heap.size := HBG.out.1.1
  clear hblk hblk1 h hf h2 hf2
  have HE1 : Hid (sameI B.nv B.V B.nv B.V = true) := sameI_self _ _
  have HE2 : Hid (sameI B.nf B.F B.nf B.F = true) := sameI_self _ _
  have hns : B.ns ≤ 140737488351232 := by
    obtain ⟨_, _, _, _, _, _, _, _, _, _, h3⟩ := HBF.out.1
    exact h3.len
  go_enter Try.func24, Try.ntmps24
  go_wp2_with (first
    | (go_at_call 30; have _t := HB1; refine (sameInts_any _ _ _ _ _ _ _ _ (IntsAt.wider (ints_f (HBF.out.go HB1.out).1) hN) (IntsAt.wider (ints_f (HBG.out.go HB1.out).1) hM)).mono ?_; rintro e w2 ⟨rfl, hb2⟩; rw [HE2.out]; replace hb2 := drawn_below hb2; (try clear c1); have HB2 := Lib.hid (bel HB1.out hb2); have c2 := (old_of HB2.out).1; clear hb2)
    | (go_at_call 30; refine (sameInts_any _ _ _ _ _ _ _ _ (IntsAt.wider (ints_v (HBF.out.go HB0.out).1) hN) (IntsAt.wider (ints_v (HBG.out.go HB0.out).1) hM)).mono ?_; rintro e w1 ⟨rfl, hb1⟩; rw [HE1.out]; replace hb1 := drawn_below hb1; (try clear c0); have HB1 := Lib.hid (bel HB0.out hb1); have c1 := (old_of HB1.out).1; clear hb1))
  clear hws
  go_loopw [5] (fun i wr => ∃ k : Nat, k ≤ B.ns ∧ i = .int .i64 k ∧ Hid (Below ws.heap.size ws wr)) (fun i _ => B.ns - (intOf i).toNat)
  case atStart => exact ⟨0, Nat.zero_le _, rfl, HB2.out⟩
  clear c2 HB1 HB2
  case round =>
  obtain ⟨k, hk, rfl, HBr⟩ := hrel
  have cr := (old_of HBr.out).1
  have hszr := Nat.lt_of_lt_of_le hsz HBr.out.size
  have hszr1 := Nat.lt_of_lt_of_le hsz1 HBr.out.size
  by_cases hkn : k < B.ns
  · obtain ⟨b5, o5, ao, cap, rfl, hb5, hq5, HR1⟩ := sort_at HBF.out.1 hkn
    obtain ⟨b6, o6, ao', cap', rfl, hb6, hq6, HR2⟩ := sort_at HBG.out.1 hkn
    have g5 : b5 < ws.heap.size := by omega
    have g6 : b6 < ws.heap.size := by omega
    have g5' := Nat.lt_of_lt_of_le g5 HBr.out.size
    have g6' := Nat.lt_of_lt_of_le g6 HBr.out.size
    have hkni : (k : Int) < (B.ns : Int) := by omega
    have HE : Hid (sameL (B.nc k) (B.ncc k) (B.can k) (B.nc k) (B.ncc k) (B.can k) = true) := sameL_self _ _ _
    have HB0 : Hid (Below wr.heap.size wr wr) := Below.refl _ _
    have hS0d := old_of HB0.out.drew
    have X1 : Hid (RowsAt ws.heap.size wr.drew (.slice ao (B.nc k) cap) (B.nc k) (B.ncc k) (B.can k)) := RowsAt.mono HR1.out (HBr.out.drew.mono hN) hN
    have X2 : Hid (RowsAt ws.heap.size wr.drew (.slice ao' (B.nc k) cap') (B.nc k) (B.ncc k) (B.can k)) := RowsAt.mono HR2.out (HBr.out.drew.mono hM) hM
    go_wp2
    go_region_held3 (fun w' => (∀ b o, b < wr.heap.size → w'.cell? ⟨b, o, none⟩ = wr.cell? ⟨b, o, none⟩) ∧ Hid (Below wr.heap.size wr w')) (assumption) (first
      | (go_at_call 25; refine (sameLists_any _ _ _ _ _ _ _ _ _ _ X1.out X2.out).mono ?_; rintro e w1 ⟨rfl, hb1⟩; rw [HE.out]; replace hb1 := drawn_below hb1; have S1 := old_of (bel hS0d.2.out hb1); have HB1 := S1.2; clear hb1))
    clear S1 hS0d
    go_wp2
    go_roundw
    case rel => exact ⟨k + 1, by omega, by go_num, fin HBr.out HB1.out⟩
    case measure => simp [intOf]; omega
  · go_wp2
    go_ret
    exact ⟨rfl, fin HB.out HBr.out⟩

end Go.Proofs.Ytopajgnemeodeaa
