/-
  Ord1: KeysOrder: the ways out, and the turning.
-/
import Derived.Test.YtbieglmpkljjjaaOrd0
import Derived.Test.YtbieglmpkljjjaaKShort
namespace Go.Proofs.Ytbieglmpkljjjaa
open Go.RowKit

theorem turn_ready {B : KB} {a c : Nat} (h : readyB B = true) : readyB (turnB B a c) = true := by
  have hfar : farB B = false := by unfold readyB at h; cases hf : farB B with | false => rfl | true => rw [hf] at h; cases h
  have hok : okKB B = true := by unfold readyB at h; cases hf : okKB B with | true => rfl | false => rw [hf] at h; simp at h
  have hG := goodB hok
  have hkC := (orderK hG a c).ok
  unfold farB at hfar
  rw [hok] at hfar
  simp only [Bool.or_eq_false_iff, Bool.and_true] at hfar
  obtain ⟨⟨h1, _⟩, h3, h4⟩ := hfar
  have e1 : farL (turnB B a c) = farL B := rfl
  have e2 : farX (turnB B a c) = false := anyB_false.2 fun i hi => decide_eq_false_iff_not.2 (by
    have hi : i < B.ns := hi
    have hL : (turnB B a c).L i = B.nv := (hG.X _ (rotT_lt hi)).n
    have := hG.nv
    rw [hL]; omega)
  unfold readyB farB
  rw [hkC, e1, e2, h1, show decide (4 < (turnB B a c).nv) = false from h3, show decide (6 < (turnB B a c).ns) = false from h4]
  rfl

set_option maxHeartbeats 8000000 in
set_option maxRecDepth 100000 in
theorem corder_in (N : Nat) (v : Value) (B : KB) (a c : Nat) (w : World) (h : BookAt N w v B) (hrd : readyB B = true) (ha : a ≤ 100) (hc : c ≤ 100) :
    Calls Try.prog 8 #[v, .int .i64 a, .int .i64 c] w fun e w' => e = .returned (.bool true) ∧ Below w.heap.size w w' := by
  have hN := h.1
  have h' := h
  obtain ⟨_, a1, z1, a2, z2, a3, z3, rfl, _⟩ := h'
  obtain ⟨ws, hws, HB, hsz, hblk⟩ := box1 w (.cells #[.slice a1 B.nv z1, .slice a2 B.ns z2, .slice a3 B.D.n z3] 26)
  have q0 := cell_blk hblk 0 rfl
  have q1 := cell_blk hblk 1 rfl
  have q2 := cell_blk hblk 2 rfl
  have HBK := Lib.hid (h.go HB.out)
  have HB0 : Hid (Below ws.heap.size ws ws) := Below.refl _ _
  have HNS : Hid (N ≤ ws.heap.size) := HBK.out.1
  have hlens := h.lens
  obtain ⟨hlv, hls, hln⟩ := hlens
  clear hblk h
  have HRD := Lib.hid hrd
  have hfar : farB B = false := by unfold readyB at hrd; cases hf : farB B with | false => rfl | true => rw [hf] at hrd; cases hrd
  have hok : okKB B = true := by unfold readyB at hrd; cases hf : okKB B with | true => rfl | false => rw [hf] at hrd; simp at hrd
  have HNE := Lib.hid (near_of hfar)
  have HNS7 : Hid (okKB B = true → B.ns ≤ 7) := fun hk => near_ns9 hfar hk
  have HG := Lib.hid (goodB hok)
  have hnv1 := HG.out.nv1
  have hnv5 := HG.out.nv
  have hns8 := HG.out.ns
  have hnn := HG.out.nn
  have ha0 : ¬ (a : Int) < 0 := by omega
  have ha1 : ¬ (100 : Int) < (a : Int) := by omega
  have hc0 : ¬ (c : Int) < 0 := by omega
  have hc1 : ¬ (100 : Int) < (c : Int) := by omega
  have Q0 := Lib.hid q0
  have Q1 := Lib.hid q1
  have Q2 := Lib.hid q2
  clear hrd hfar hok
  go_enter Try.func8, Try.ntmps8
  go_upto_region 6 with (first
    | (go_at_call 15; refine (ready_any N _ B _ (HBK.out.go HB0.out)).mono ?_; rintro e w1 ⟨rfl, hb1⟩; rw [HRD.out]; (try clear c0); have HB1 := Lib.hid (bel HB0.out hb1); have c1 := (old_of HB1.out).1; clear hb1)
    | (go_at_call 28; refine (copy_near N _ B _ (HBK.out.go HB1.out) HNE.out).mono ?_; rintro e w2 ⟨b1, d1, b2, d2, b3, d3, rfl, how2, hbk2, hb2⟩; have HOW := Lib.hid how2; have HB12 := Lib.hid hb2; clear how2; have HBK2 := Lib.hid hbk2; clear hbk2; (try clear c1); have HB2 := Lib.hid (bel HB1.out hb2); have c2 := (old_of HB2.out).1; clear hb2; obtain ⟨w3, hw3, HB3, hsz3, hblk3⟩ := box1 w2 (.cells #[.slice b1 B.nv d1, .slice b2 B.ns d2, .slice b3 B.D.n d3] 26); have x0 := cell_blk hblk3 0 rfl; have x1 := cell_blk hblk3 1 rfl; have x2 := cell_blk hblk3 2 rfl; have HBF := Lib.hid (HBK.out.go (bel HB2.out HB3.out)); have q0 := (HB3.out.cell (p := ⟨w.heap.size, 0, none⟩) (Nat.lt_of_lt_of_le hsz HB2.out.size)).trans ((c2 _ 0 hsz).trans q0); have q1 := (HB3.out.cell (p := ⟨w.heap.size, 1, none⟩) (Nat.lt_of_lt_of_le hsz HB2.out.size)).trans ((c2 _ 1 hsz).trans q1); have q2 := (HB3.out.cell (p := ⟨w.heap.size, 2, none⟩) (Nat.lt_of_lt_of_le hsz HB2.out.size)).trans ((c2 _ 2 hsz).trans q2); have hs3 : w.heap.size < w3.heap.size := Nat.lt_of_lt_of_le hsz (Nat.le_trans HB2.out.size HB3.out.size); have HBLK3 := Lib.hid hblk3; have HW3 := Lib.hid hw3; clear c2 hws hblk3)
    | (go_at_call 43; refine (turned_any N _ B.nv a B.V _ HBF.out.vals HBF.out.1 hnv1 (by omega) ha).mono ?_; rintro e w4 ⟨hT, rfl, hh1, hh2, hrow, hb4⟩; have hfz : w4.frozen? ⟨w2.heap.size, 0, none⟩ = false := frozen_blk ((hb4.block _ hsz3).trans HBLK3.out) 0; have hx0 := cell_blk ((hb4.block _ hsz3).trans HBLK3.out) 0 rfl; have HB4 := Lib.hid hb4; have HROW := Lib.hid hrow; have HH1 := Lib.hid hh1; have HH2 := Lib.hid hh2; clear hb4 hrow hh1 hh2))
  have HQ0 : Hid (w1.cell? ⟨w.heap.size, 0, none⟩ = some (.slice a1 B.nv z1)) := (HB1.out.cell (p := ⟨w.heap.size, 0, none⟩) hsz).trans Q0.out
  have HQ1 : Hid (w1.cell? ⟨w.heap.size, 1, none⟩ = some (.slice a2 B.ns z2)) := (HB1.out.cell (p := ⟨w.heap.size, 1, none⟩) hsz).trans Q1.out
  have HQ2 : Hid (w1.cell? ⟨w.heap.size, 2, none⟩ = some (.slice a3 B.D.n z3)) := (HB1.out.cell (p := ⟨w.heap.size, 2, none⟩) hsz).trans Q2.out
  have hsz1 : w.heap.size < w1.heap.size := Nat.lt_of_lt_of_le hsz HB1.out.size
  have HBK1 : Hid (BookAt N w1 _ B) := HBK.out.go HB1.out
  obtain ⟨g3, m, g2, e2, e3, b2', ev2, ev3, hOS⟩ := os_start HG.out (c := c) HOW.out HB12.out HW3.out HB4.out HROW.out HH1.out HH2.out
  injection ev2 with ev2 _ ev2'
  subst ev2; subst ev2'
  injection ev3 with ev3 _ ev3'
  subst ev3; subst ev3'
  obtain ⟨w5, hw5⟩ : ∃ w5, w4.setCell ⟨w2.heap.size, 0, none⟩ (.slice (some ⟨hT, 0, none⟩) B.nv B.nv) = w5 := ⟨_, rfl⟩
  rw [hw5] at hOS ⊢
  have HOS := Lib.hid hOS
  obtain ⟨hb, hhb⟩ : ∃ hb, w2.heap.size = hb := ⟨_, rfl⟩
  rw [hhb] at HOS ⊢
  clear hOS hw5 hfz hx0 x0 x1 x2 q0 q1 q2 HROW HH1 HH2 HBLK3 HW3 hw3 HOW HBF HB4 HB3 hsz3 hs3 HBK2 hhb HB12 HB2
  go_loopw [8] (fun i wr => ∃ k : Nat, k ≤ B.ns ∧ i = .int .i64 k ∧ Hid (OS B a c w1 w1.heap.size g3 m g2 hb d2 d3 b2 k 0 wr)) (fun i _ => B.ns - (intOf i).toNat)
  case atStart => exact ⟨0, Nat.zero_le _, rfl, HOS⟩
  case round =>
    obtain ⟨k, hk, rfl, HK⟩ := hrel
    have hO := HK.out.ord
    have cq := (old_of HK.out.below).1
    have r1' := (HK.out.below.cell (p := ⟨w.heap.size, 1, none⟩) hsz1).trans HQ1.out
    by_cases hkn : k < B.ns
    · have hki : (k : Int) < (B.ns : Int) := by omega
      obtain rfl := HK.out.sblk (by omega)
      obtain ⟨br, orr, rfl, hbr, hrr⟩ := HBK1.out.sorts.cells (by omega)
      obtain ⟨ai, ci, hcell, hints⟩ := hrr k hkn
      have hLk : B.L k = B.nv := (HG.out.X k hkn).n
      rw [hLk] at hcell hints
      have hbr1 : br < w1.heap.size := Nat.lt_of_lt_of_le hbr HBK1.out.1
      have q1 := HQ1.out
      obtain ⟨v1, _, hbox⟩ := HK.out.box
      obtain ⟨wd, hwd⟩ : ∃ wd, wr.drew = wd := ⟨_, rfl⟩
      have HKd : Hid (OS B a c w1 w1.heap.size g3 m g2 hb d2 d3 (some ⟨g2, 0, none⟩) k 0 wd) := by rw [← hwd]; exact HK.out.go (Below.refl _ _).drew
      have HI := Lib.hid hints
      have HS0 : Hid ((∀ b o, b < w1.heap.size → wd.cell? ⟨b, o, none⟩ = w1.cell? ⟨b, o, none⟩) ∧ wd.cell? ⟨hb, 1, none⟩ = some (.slice (some ⟨g2, 0, none⟩) B.ns d2)) := by
        refine ⟨(old_of HKd.out.below).1, ?_⟩
        obtain ⟨v1, _, hbx⟩ := HKd.out.box
        exact cell_blk hbx 1 rfl
      have hS := rotS_lt (a := c) hkn
      obtain ⟨Sk, hSk⟩ : ∃ Sk, rotS B.ns c k = Sk := ⟨_, rfl⟩
      have HSK := Lib.hid hSk
      rw [hSk] at hS
      have hwa : IntKind.i64.wrap ((k : Int) + (c : Int)) = (k : Int) + (c : Int) := IntWalk.i64_in _ (by omega)
      have hrem : ((k : Int) + (c : Int)).tmod (B.ns : Int) = (Sk : Int) := by rw [← hSk, ← Int.natCast_add]; rfl
      have hn0 : ¬ B.ns = 0 := by omega
      have hSki : (Sk : Int) < (B.ns : Int) := by omega
      clear hrr hints hSk hbox
      go_upto_region 8 with fail
      clear cq r1'
      refine wp_region_held_drew (S := fun w' => (∀ b o, b < w1.heap.size → w'.cell? ⟨b, o, none⟩ = w1.cell? ⟨b, o, none⟩) ∧ w'.cell? ⟨hb, 1, none⟩ = some (.slice (some ⟨g2, 0, none⟩) B.ns d2)) (by kernel_rfl) (by rw [hwd]; exact HS0.out) (fun hHeld => ?_)
      rw [hwd]
      clear hwd
      (refine wpAnyH_take (i := 0) (v := ?_) rfl (by kernel_rfl) (by kernel_rfl) (by kernel_rfl) (fun _ _ _ h => h) (Or.inl ⟨by rfl, ?_⟩) (by assumption) ?_; rotate_left; (focus (intro w hSw; (try dsimp only at hSw); go_simp; (try with_reducible rfl))); (try simp only [List.getElem_toArray, List.getElem_cons_zero, List.getElem_cons_succ, Act.put, List.setIfInBounds_toArray, List.set_cons_zero, List.set_cons_succ])); (refine wpAnyH_take (i := 1) (v := ?_) rfl (by kernel_rfl) (by kernel_rfl) (by kernel_rfl) (fun _ _ _ h => h) (Or.inl ⟨by rfl, ?_⟩) (by assumption) ?_; rotate_left; (focus (intro w hSw; (try dsimp only at hSw); go_simp; (try with_reducible rfl))); (try simp only [List.getElem_toArray, List.getElem_cons_zero, List.getElem_cons_succ, Act.put, List.setIfInBounds_toArray, List.set_cons_zero, List.set_cons_succ])); (refine wpAnyH_take (i := 2) (v := ?_) rfl (by kernel_rfl) (by kernel_rfl) (by kernel_rfl) (fun _ _ _ h => h) (Or.inl ⟨by rfl, ?_⟩) (by assumption) ?_; rotate_left; (focus (intro w hSw; (try dsimp only at hSw); go_simp; (try with_reducible rfl))); (try simp only [List.getElem_toArray, List.getElem_cons_zero, List.getElem_cons_succ, Act.put, List.setIfInBounds_toArray, List.set_cons_zero, List.set_cons_succ])); (refine wpAnyH_take (i := 3) (v := ?_) rfl (by kernel_rfl) (by kernel_rfl) (by kernel_rfl) (fun _ _ _ h => h) (Or.inl ⟨by rfl, ?_⟩) (by assumption) ?_; rotate_left; (focus (intro w hSw; (try dsimp only at hSw); go_simp; (try with_reducible rfl))); (try simp only [List.getElem_toArray, List.getElem_cons_zero, List.getElem_cons_succ, Act.put, List.setIfInBounds_toArray, List.set_cons_zero, List.set_cons_succ])); (refine wpAnyH_take (i := 4) (v := ?_) rfl (by kernel_rfl) (by kernel_rfl) (by kernel_rfl) (fun _ _ _ h => h) (Or.inl ⟨by rfl, ?_⟩) (by assumption) ?_; rotate_left; (focus (intro w hSw; (try dsimp only at hSw); go_simp; (try with_reducible rfl))); (try simp only [List.getElem_toArray, List.getElem_cons_zero, List.getElem_cons_succ, Act.put, List.setIfInBounds_toArray, List.set_cons_zero, List.set_cons_succ])); (refine wpAnyH_take (i := 5) (v := ?_) rfl (by kernel_rfl) (by kernel_rfl) (by kernel_rfl) (fun _ _ _ h => h) (Or.inl ⟨by rfl, ?_⟩) (by assumption) ?_; rotate_left; (focus (intro w hSw; (try dsimp only at hSw); go_simp; (try with_reducible rfl))); (try simp only [List.getElem_toArray, List.getElem_cons_zero, List.getElem_cons_succ, Act.put, List.setIfInBounds_toArray, List.set_cons_zero, List.set_cons_succ])); (refine wpAnyH_take (i := 6) (v := ?_) rfl (by kernel_rfl) (by kernel_rfl) (by kernel_rfl) (fun _ _ _ h => h) (Or.inl ⟨by rfl, ?_⟩) (by assumption) ?_; rotate_left; (focus (intro w hSw; (try dsimp only at hSw); go_simp; (try with_reducible rfl))); (try simp only [List.getElem_toArray, List.getElem_cons_zero, List.getElem_cons_succ, Act.put, List.setIfInBounds_toArray, List.set_cons_zero, List.set_cons_succ])); (refine wpAnyH_take (i := 7) (v := ?_) rfl (by kernel_rfl) (by kernel_rfl) (by kernel_rfl) (fun _ _ _ h => h) (Or.inl ⟨by rfl, ?_⟩) (by assumption) ?_; rotate_left; (focus (intro w hSw; (try dsimp only at hSw); go_simp; (try with_reducible rfl))); (try simp only [List.getElem_toArray, List.getElem_cons_zero, List.getElem_cons_succ, Act.put, List.setIfInBounds_toArray, List.set_cons_zero, List.set_cons_succ])); (refine wpAnyH_take (i := 8) (v := ?_) rfl (by kernel_rfl) (by kernel_rfl) (by kernel_rfl) (fun _ _ _ h => h) (Or.inl ⟨by rfl, ?_⟩) (by assumption) ?_; rotate_left; (focus (intro w hSw; (try dsimp only at hSw); go_simp; (try with_reducible rfl))); (try simp only [List.getElem_toArray, List.getElem_cons_zero, List.getElem_cons_succ, Act.put, List.setIfInBounds_toArray, List.set_cons_zero, List.set_cons_succ])); (refine wpAnyH_take (i := 9) (v := ?_) rfl (by kernel_rfl) (by kernel_rfl) (by kernel_rfl) (fun _ _ _ h => h) (Or.inl ⟨by rfl, ?_⟩) (by assumption) ?_; rotate_left; (focus (intro w hSw; (try dsimp only at hSw); go_simp; (try with_reducible rfl))); (try simp only [List.getElem_toArray, List.getElem_cons_zero, List.getElem_cons_succ, Act.put, List.setIfInBounds_toArray, List.set_cons_zero, List.set_cons_succ])); (refine wpAnyH_take (i := 10) (v := ?_) rfl (by kernel_rfl) (by kernel_rfl) (by kernel_rfl) (fun _ _ _ h => h) (Or.inl ⟨by rfl, ?_⟩) (by assumption) ?_; rotate_left; (focus (intro w hSw; (try dsimp only at hSw); go_simp; (try with_reducible rfl))); (try simp only [List.getElem_toArray, List.getElem_cons_zero, List.getElem_cons_succ, Act.put, List.setIfInBounds_toArray, List.set_cons_zero, List.set_cons_succ])); (refine wpAnyH_take (i := 11) (v := ?_) rfl (by kernel_rfl) (by kernel_rfl) (by kernel_rfl) (fun _ _ _ h => h) (Or.inl ⟨by rfl, ?_⟩) (by assumption) ?_; rotate_left; (focus (intro w hSw; (try dsimp only at hSw); go_simp; (try with_reducible rfl))); (try simp only [List.getElem_toArray, List.getElem_cons_zero, List.getElem_cons_succ, Act.put, List.setIfInBounds_toArray, List.set_cons_zero, List.set_cons_succ])); (refine wpAnyH_take (i := 12) (v := ?_) rfl (by kernel_rfl) (by kernel_rfl) (by kernel_rfl) (fun _ _ _ h => h) (Or.inl ⟨by rfl, ?_⟩) (by assumption) ?_; rotate_left; (focus (intro w hSw; (try dsimp only at hSw); go_simp; (try with_reducible rfl))); (try simp only [List.getElem_toArray, List.getElem_cons_zero, List.getElem_cons_succ, Act.put, List.setIfInBounds_toArray, List.set_cons_zero, List.set_cons_succ])); (refine wpAnyH_take (i := 13) (v := ?_) rfl (by kernel_rfl) (by kernel_rfl) (by kernel_rfl) (fun _ _ _ h => h) (Or.inl ⟨by rfl, ?_⟩) (by assumption) ?_; rotate_left; (focus (intro w hSw; (try dsimp only at hSw); go_simp; (try with_reducible rfl))); (try simp only [List.getElem_toArray, List.getElem_cons_zero, List.getElem_cons_succ, Act.put, List.setIfInBounds_toArray, List.set_cons_zero, List.set_cons_succ])); (refine wpAnyH_take (i := 14) (v := ?_) rfl (by kernel_rfl) (by kernel_rfl) (by kernel_rfl) (fun _ _ _ h => h) (Or.inl ⟨by rfl, ?_⟩) (by assumption) ?_; rotate_left; (focus (intro w hSw; (try dsimp only at hSw); go_simp; (try with_reducible rfl))); (try simp only [List.getElem_toArray, List.getElem_cons_zero, List.getElem_cons_succ, Act.put, List.setIfInBounds_toArray, List.set_cons_zero, List.set_cons_succ]))
      refine wpAnyH_ready (rs := [15]) (by kernel_rfl) (by simp) ?_; refine AllReadyH.cons rfl (fun K hK => ?_) AllReadyH.nil; go_simp
      go_at_call 43
      refine (turned_any N _ B.nv a (B.X k) _ (HI.out.go HBK1.out.1 (HKd.out.below.mono (Nat.le_refl _))) (Nat.le_trans HBK1.out.1 HKd.out.below.size) hnv1 (by omega) ha).mono ?_
      rintro e w6 ⟨hT6, rfl, hh1, hh2, hrow, hb6⟩
      have HK6 := Lib.hid (HKd.out.go hb6)
      have hrow6 := RowB.of hrow (lo := hb + 1) (by have := HKd.out.ord.2.2.2.2; omega) hh2
      obtain ⟨f, hf, _⟩ := HK6.out.sorts (by omega)
      obtain ⟨hcS, hfS⟩ := hf Sk hS
      have hS6 : (∀ b o, b < w1.heap.size → w6.cell? ⟨b, o, none⟩ = w1.cell? ⟨b, o, none⟩) ∧ w6.cell? ⟨hb, 1, none⟩ = some (.slice (some ⟨g2, 0, none⟩) B.ns d2) := by
        refine ⟨(old_of HK6.out.below).1, ?_⟩
        obtain ⟨v1, _, hbx⟩ := HK6.out.box
        exact cell_blk hbx 1 rfl
      have hO7 := HK6.out.put hkn hrow6
      rw [HSK.out] at hO7
      have HK7 := Lib.hid hO7
      clear hO7 hrow6 hrow hb6 hf
      refine hK.out _ _ hS6 (fun hHeld => ?_); clear hK K; (try simp only [List.getElem_toArray, List.getElem_cons_zero, List.getElem_cons_succ, Act.put, List.setIfInBounds_toArray, List.set_cons_zero, List.set_cons_succ])
      (refine wpAnyH_take (i := 16) (v := ?_) rfl (by kernel_rfl) (by kernel_rfl) (by kernel_rfl) (fun _ _ _ h => h) (Or.inl ⟨by rfl, ?_⟩) (by assumption) ?_; rotate_left; (focus (intro w hSw; (try dsimp only at hSw); go_simp; (try with_reducible rfl))); (try simp only [List.getElem_toArray, List.getElem_cons_zero, List.getElem_cons_succ, Act.put, List.setIfInBounds_toArray, List.set_cons_zero, List.set_cons_succ]))
      refine wpAnyH_ready (rs := [17]) (by kernel_rfl) (by simp) ?_; refine AllReadyH.cons rfl (fun K hK => ?_) AllReadyH.nil; go_simp
      obtain ⟨w7, hw7⟩ : ∃ w7, w6.setCell ⟨g2, Sk, none⟩ (.slice (some ⟨hT6, 0, none⟩) B.nv B.nv) = w7 := ⟨_, rfl⟩
      rw [hw7] at HK7 ⊢
      have hS7 : (∀ b o, b < w1.heap.size → w7.cell? ⟨b, o, none⟩ = w1.cell? ⟨b, o, none⟩) ∧ w7.cell? ⟨hb, 1, none⟩ = some (.slice (some ⟨g2, 0, none⟩) B.ns d2) := by
        refine ⟨(old_of HK7.out.below).1, ?_⟩
        obtain ⟨v1, _, hbx⟩ := HK7.out.box
        exact cell_blk hbx 1 rfl
      clear hw7 hcS hfS
      refine hK.out _ _ hS7 (fun hHeld => ?_); clear hK K; (try simp only [List.getElem_toArray, List.getElem_cons_zero, List.getElem_cons_succ, Act.put, List.setIfInBounds_toArray, List.set_cons_zero, List.set_cons_succ])
      refine wpAnyH_done (by kernel_rfl) ?_ _; clear hHeld
      clear hS6 hS7
      go_wp2
      go_roundw
      case rel => exact ⟨k + 1, by omega, by go_num, HK7⟩
      case measure => simp [intOf]; omega
    · have hki : ¬ (k : Int) < (B.ns : Int) := by omega
      obtain rfl : k = B.ns := by omega
      have q1 := HQ1.out
      go_upto_region 10 with fail
      obtain ⟨wo, hwo⟩ : ∃ wo, wo = wr := ⟨_, rfl⟩
      subst hwo
      clear cq r1'
      go_loopw [9] (fun i wr => ∃ k : Nat, k ≤ B.D.n ∧ i = .int .i64 k ∧ Hid (OS B a c w1 w1.heap.size g3 m g2 hb d2 d3 b2 B.ns k wr)) (fun i _ => B.D.n - (intOf i).toNat)
      case atStart => exact ⟨0, Nat.zero_le _, rfl, HK⟩
      case round =>
        obtain ⟨k, hk2, rfl, HN⟩ := hrel
        have hOn := HN.out.ord
        obtain ⟨v1, _, hbox⟩ := HN.out.box
        have y2 := cell_blk hbox 2 rfl
        clear hbox
        by_cases hkn2 : k < B.D.n
        · have hki2 : (k : Int) < (B.D.n : Int) := by omega
          obtain ⟨bn, onn, rfl, hbn, hrn⟩ := HBK1.out.nodes.cells HG.out.D.n1
          obtain ⟨ai, ci, m0, m1, m2, _⟩ := hrn k hkn2
          clear hrn
          have hbn1 : bn < w1.heap.size := Nat.lt_of_lt_of_le hbn HBK1.out.1
          have n0 := (HN.out.below.cell (p := ⟨bn, onn + k * 3, none⟩) hbn1).trans m0
          have n1 := (HN.out.below.cell (p := ⟨bn, onn + k * 3 + 1, none⟩) hbn1).trans m1
          have n2 := (HN.out.below.cell (p := ⟨bn, onn + k * 3 + 2, none⟩) hbn1).trans m2
          have p2 := (HN.out.below.cell (p := ⟨w.heap.size, 2, none⟩) hsz1).trans HQ2.out
          clear m0 m1 m2
          by_cases hM : B.D.M k = -1
          · by_cases hSS : B.D.S k = -1
            · have HSK := Lib.hid (HN.out.skip hM hSS)
              rw [hM] at n0
              rw [hSS] at n1
              clear hM hSS
              go_wp2
              go_roundw
              case rel => exact ⟨k + 1, by omega, by go_num, HSK.out.go (below_alloc (Nat.le_refl _) _)⟩
              case measure => simp [intOf]; omega
            · obtain ⟨x1, x2⟩ := (HG.out.D.stop k hkn2 hM).2.resolve_left hSS
              obtain ⟨mk, hmk⟩ : ∃ mk : Nat, B.D.S k = mk := ⟨(B.D.S k).toNat, by omega⟩
              have HPUT := Lib.hid (fun W (h : OS B a c w1 w1.heap.size g3 m g2 hb d2 d3 b2 B.ns k W) => h.putS hkn2 hM)
              have hnm : nodeS B c k = (rotS B.ns c mk : Nat) := by unfold nodeS; rw [if_pos ⟨hM, hSS⟩, hmk]; rfl
              rw [hnm] at HPUT
              rw [hM] at n0
              rw [hmk] at n1
              have hmne : ¬ (mk : Int) = -1 := by omega
              have hmlt : mk < B.ns := by omega
              have hwa : IntKind.i64.wrap ((mk : Int) + (c : Int)) = (mk : Int) + (c : Int) := IntWalk.i64_in _ (by omega)
              obtain ⟨Sk, hSk⟩ : ∃ Sk, rotS B.ns c mk = Sk := ⟨_, rfl⟩
              rw [hSk] at HPUT
              have hrem : ((mk : Int) + (c : Int)).tmod (B.ns : Int) = (Sk : Int) := by rw [← hSk, ← Int.natCast_add]; rfl
              have hn0 : ¬ B.ns = 0 := by omega
              clear hM hSS hmk hnm x1 x2 hSk
              go_upto_region 16 with fail
              obtain ⟨wa, hwa, HBo, hszo, hblko⟩ := box1 wr (.cells #[.int .i64 (-1), .int .i64 mk, .slice ai (B.D.q k) ci] 41)
              obtain ⟨tb, htb⟩ : ∃ tb, wr.heap.size = tb := ⟨_, rfl⟩
              have hgt : g3 ≠ tb := by rw [← htb]; omega
              rw [hwa]
              have HNa := Lib.hid (HN.out.go HBo.out)
              rw [htb] at hszo hblko ⊢
              clear hwa HBo htb
              obtain ⟨wd, hwd⟩ : ∃ wd, wa.drew = wd := ⟨_, rfl⟩
              have HNd : Hid (OS B a c w1 w1.heap.size g3 m g2 hb d2 d3 b2 B.ns k wd) := by rw [← hwd]; exact HNa.out.go (Below.refl _ _).drew
              have hblkd : wd.heap[tb]? = some (.cells #[.int .i64 (-1), .int .i64 mk, .slice ai (B.D.q k) ci] 41 (0, 0)) := by rw [← hwd]; exact hblko
              have HCT : Hid (wd.cell? ⟨tb, 1, none⟩ = some (.int .i64 mk)) := cell_blk hblkd 1 rfl
              have HS0 : Hid ((fun w' => (∀ b o, b < w1.heap.size → w'.cell? ⟨b, o, none⟩ = w1.cell? ⟨b, o, none⟩) ∧ w'.cell? ⟨hb, 2, none⟩ = some (.slice (some ⟨g3, 0, none⟩) B.D.n d3) ∧ w'.cell? ⟨tb, 1, none⟩ = some (.int .i64 mk)) wd) := by
                refine ⟨(old_of HNd.out.below).1, ?_, HCT.out⟩
                obtain ⟨v1, _, hbx⟩ := HNd.out.box
                exact cell_blk hbx 2 rfl
              have u1 := HQ1.out
              clear n0 n1 n2 p2 y2 hblko hblkd
              refine wp_region_held_drew (S := (fun w' => (∀ b o, b < w1.heap.size → w'.cell? ⟨b, o, none⟩ = w1.cell? ⟨b, o, none⟩) ∧ w'.cell? ⟨hb, 2, none⟩ = some (.slice (some ⟨g3, 0, none⟩) B.D.n d3) ∧ w'.cell? ⟨tb, 1, none⟩ = some (.int .i64 mk))) (by kernel_rfl) (by rw [hwd]; exact HS0.out) (fun hHeld => ?_)
              rw [hwd]
              clear hwd
              (refine wpAnyH_take (i := 0) (v := ?_) rfl (by kernel_rfl) (by kernel_rfl) (by kernel_rfl) (fun _ _ _ h => h) (Or.inl ⟨by rfl, ?_⟩) (by assumption) ?_; rotate_left; (focus (intro w hSw; (try dsimp only at hSw); go_simp; (try with_reducible rfl))); (try simp only [List.getElem_toArray, List.getElem_cons_zero, List.getElem_cons_succ, Act.put, List.setIfInBounds_toArray, List.set_cons_zero, List.set_cons_succ])); (refine wpAnyH_take (i := 1) (v := ?_) rfl (by kernel_rfl) (by kernel_rfl) (by kernel_rfl) (fun _ _ _ h => h) (Or.inl ⟨by rfl, ?_⟩) (by assumption) ?_; rotate_left; (focus (intro w hSw; (try dsimp only at hSw); go_simp; (try with_reducible rfl))); (try simp only [List.getElem_toArray, List.getElem_cons_zero, List.getElem_cons_succ, Act.put, List.setIfInBounds_toArray, List.set_cons_zero, List.set_cons_succ])); (refine wpAnyH_take (i := 2) (v := ?_) rfl (by kernel_rfl) (by kernel_rfl) (by kernel_rfl) (fun _ _ _ h => h) (Or.inl ⟨by rfl, ?_⟩) (by assumption) ?_; rotate_left; (focus (intro w hSw; (try dsimp only at hSw); go_simp; (try with_reducible rfl))); (try simp only [List.getElem_toArray, List.getElem_cons_zero, List.getElem_cons_succ, Act.put, List.setIfInBounds_toArray, List.set_cons_zero, List.set_cons_succ])); (refine wpAnyH_take (i := 3) (v := ?_) rfl (by kernel_rfl) (by kernel_rfl) (by kernel_rfl) (fun _ _ _ h => h) (Or.inl ⟨by rfl, ?_⟩) (by assumption) ?_; rotate_left; (focus (intro w hSw; (try dsimp only at hSw); go_simp; (try with_reducible rfl))); (try simp only [List.getElem_toArray, List.getElem_cons_zero, List.getElem_cons_succ, Act.put, List.setIfInBounds_toArray, List.set_cons_zero, List.set_cons_succ])); (refine wpAnyH_take (i := 4) (v := ?_) rfl (by kernel_rfl) (by kernel_rfl) (by kernel_rfl) (fun _ _ _ h => h) (Or.inl ⟨by rfl, ?_⟩) (by assumption) ?_; rotate_left; (focus (intro w hSw; (try dsimp only at hSw); go_simp; (try with_reducible rfl))); (try simp only [List.getElem_toArray, List.getElem_cons_zero, List.getElem_cons_succ, Act.put, List.setIfInBounds_toArray, List.set_cons_zero, List.set_cons_succ])); (refine wpAnyH_take (i := 5) (v := ?_) rfl (by kernel_rfl) (by kernel_rfl) (by kernel_rfl) (fun _ _ _ h => h) (Or.inl ⟨by rfl, ?_⟩) (by assumption) ?_; rotate_left; (focus (intro w hSw; (try dsimp only at hSw); go_simp; (try with_reducible rfl))); (try simp only [List.getElem_toArray, List.getElem_cons_zero, List.getElem_cons_succ, Act.put, List.setIfInBounds_toArray, List.set_cons_zero, List.set_cons_succ])); (refine wpAnyH_take (i := 6) (v := ?_) rfl (by kernel_rfl) (by kernel_rfl) (by kernel_rfl) (fun _ _ _ h => h) (Or.inl ⟨by rfl, ?_⟩) (by assumption) ?_; rotate_left; (focus (intro w hSw; (try dsimp only at hSw); go_simp; (try with_reducible rfl))); (try simp only [List.getElem_toArray, List.getElem_cons_zero, List.getElem_cons_succ, Act.put, List.setIfInBounds_toArray, List.set_cons_zero, List.set_cons_succ])); (refine wpAnyH_take (i := 7) (v := ?_) rfl (by kernel_rfl) (by kernel_rfl) (by kernel_rfl) (fun _ _ _ h => h) (Or.inl ⟨by rfl, ?_⟩) (by assumption) ?_; rotate_left; (focus (intro w hSw; (try dsimp only at hSw); go_simp; (try with_reducible rfl))); (try simp only [List.getElem_toArray, List.getElem_cons_zero, List.getElem_cons_succ, Act.put, List.setIfInBounds_toArray, List.set_cons_zero, List.set_cons_succ])); (refine wpAnyH_take (i := 8) (v := ?_) rfl (by kernel_rfl) (by kernel_rfl) (by kernel_rfl) (fun _ _ _ h => h) (Or.inl ⟨by rfl, ?_⟩) (by assumption) ?_; rotate_left; (focus (intro w hSw; (try dsimp only at hSw); go_simp; (try with_reducible rfl))); (try simp only [List.getElem_toArray, List.getElem_cons_zero, List.getElem_cons_succ, Act.put, List.setIfInBounds_toArray, List.set_cons_zero, List.set_cons_succ])); (refine wpAnyH_take (i := 9) (v := ?_) rfl (by kernel_rfl) (by kernel_rfl) (by kernel_rfl) (fun _ _ _ h => h) (Or.inl ⟨by rfl, ?_⟩) (by assumption) ?_; rotate_left; (focus (intro w hSw; (try dsimp only at hSw); go_simp; (try with_reducible rfl))); (try simp only [List.getElem_toArray, List.getElem_cons_zero, List.getElem_cons_succ, Act.put, List.setIfInBounds_toArray, List.set_cons_zero, List.set_cons_succ])); (refine wpAnyH_take (i := 10) (v := ?_) rfl (by kernel_rfl) (by kernel_rfl) (by kernel_rfl) (fun _ _ _ h => h) (Or.inl ⟨by rfl, ?_⟩) (by assumption) ?_; rotate_left; (focus (intro w hSw; (try dsimp only at hSw); go_simp; (try with_reducible rfl))); (try simp only [List.getElem_toArray, List.getElem_cons_zero, List.getElem_cons_succ, Act.put, List.setIfInBounds_toArray, List.set_cons_zero, List.set_cons_succ]))
              (refine wpAnyH_take (i := 11) (v := ?_) rfl (by kernel_rfl) (by kernel_rfl) (by kernel_rfl) (fun _ _ _ h => h) (Or.inl ⟨by rfl, ?_⟩) (by assumption) ?_; rotate_left; (focus (intro w hSw; (try dsimp only at hSw); go_simp; (try with_reducible rfl))); (try simp only [List.getElem_toArray, List.getElem_cons_zero, List.getElem_cons_succ, Act.put, List.setIfInBounds_toArray, List.set_cons_zero, List.set_cons_succ]))
              (refine wpAnyH_take (i := 12) (v := ?_) rfl (by kernel_rfl) (by kernel_rfl) (by kernel_rfl) (fun _ _ _ h => h) (Or.inl ⟨by rfl, ?_⟩) (by assumption) ?_; rotate_left; (focus (intro w hSw; (try dsimp only at hSw); go_simp; (try with_reducible rfl))); (try simp only [List.getElem_toArray, List.getElem_cons_zero, List.getElem_cons_succ, Act.put, List.setIfInBounds_toArray, List.set_cons_zero, List.set_cons_succ]))
              obtain ⟨cs3, T3, hcs3⟩ := HNd.out.nfree
              obtain ⟨rr, hcells, _⟩ := HNd.out.nodes
              have hcell3 := (hcells k hkn2).2.1
              have hfz3 := frozen_blk hcs3
              clear hcs3 hcells
              refine wpAnyH_ready (rs := [13]) (by kernel_rfl) (by simp) ?_; refine AllReadyH.cons rfl (fun K hK => ?_) AllReadyH.nil; go_simp
              have HP := Lib.hid (HPUT.out _ HNd.out)
              have hct := (World.cell?_setCell_far wd ⟨g3, k * 3 + 1, none⟩ ⟨tb, 1, none⟩ (.int .i64 Sk) hgt).trans HCT.out
              obtain ⟨we, hwe⟩ : ∃ we, wd.setCell ⟨g3, k * 3 + 1, none⟩ (.int .i64 Sk) = we := ⟨_, rfl⟩
              rw [hwe] at HP hct ⊢
              have hS7 : (fun w' => (∀ b o, b < w1.heap.size → w'.cell? ⟨b, o, none⟩ = w1.cell? ⟨b, o, none⟩) ∧ w'.cell? ⟨hb, 2, none⟩ = some (.slice (some ⟨g3, 0, none⟩) B.D.n d3) ∧ w'.cell? ⟨tb, 1, none⟩ = some (.int .i64 mk)) we := by
                refine ⟨(old_of HP.out.below).1, ?_, hct⟩
                obtain ⟨v1, _, hbx⟩ := HP.out.box
                exact cell_blk hbx 2 rfl
              clear hwe hct hcell3 hfz3
              refine hK.out _ _ hS7 (fun hHeld => ?_); clear hK K; (try simp only [List.getElem_toArray, List.getElem_cons_zero, List.getElem_cons_succ, Act.put, List.setIfInBounds_toArray, List.set_cons_zero, List.set_cons_succ])
              refine wpAnyH_done (by kernel_rfl) ?_ _; clear hHeld
              clear hS7
              go_wp2
              go_roundw
              case rel => exact ⟨k + 1, by omega, by go_num, HP⟩
              case measure => simp [intOf]; omega
          · obtain ⟨x1, x2, x3, _⟩ := HG.out.D.ask k hkn2 hM
            obtain ⟨mk, hmk⟩ : ∃ mk : Nat, B.D.M k = mk := ⟨(B.D.M k).toNat, by omega⟩
            have HPUT := Lib.hid (fun W (h : OS B a c w1 w1.heap.size g3 m g2 hb d2 d3 b2 B.ns k W) => h.putM hkn2 hM)
            have hnm : nodeM B a k = (rotS B.nv a mk : Nat) := by unfold nodeM; rw [if_neg hM, hmk]; rfl
            rw [hnm] at HPUT
            rw [hmk] at n0
            have hmne : ¬ (mk : Int) = -1 := by omega
            have hmlt : mk < B.nv := by omega
            have hwa : IntKind.i64.wrap ((mk : Int) + (a : Int)) = (mk : Int) + (a : Int) := IntWalk.i64_in _ (by omega)
            obtain ⟨Sk, hSk⟩ : ∃ Sk, rotS B.nv a mk = Sk := ⟨_, rfl⟩
            rw [hSk] at HPUT
            have hrem : ((mk : Int) + (a : Int)).tmod (B.nv : Int) = (Sk : Int) := by rw [← hSk, ← Int.natCast_add]; rfl
            have hn0 : ¬ B.nv = 0 := by omega
            clear hM hmk hnm x1 x2 x3 hSk
            go_upto_region 14 with fail
            obtain ⟨wa, hwa, HBo, hszo, hblko⟩ := box1 wr (.cells #[.int .i64 mk, .int .i64 (B.D.S k), .slice ai (B.D.q k) ci] 41)
            obtain ⟨tb, htb⟩ : ∃ tb, wr.heap.size = tb := ⟨_, rfl⟩
            have hgt : g3 ≠ tb := by rw [← htb]; omega
            rw [hwa]
            have HNa := Lib.hid (HN.out.go HBo.out)
            rw [htb] at hszo hblko ⊢
            clear hwa HBo htb
            obtain ⟨wd, hwd⟩ : ∃ wd, wa.drew = wd := ⟨_, rfl⟩
            have HNd : Hid (OS B a c w1 w1.heap.size g3 m g2 hb d2 d3 b2 B.ns k wd) := by rw [← hwd]; exact HNa.out.go (Below.refl _ _).drew
            have hblkd : wd.heap[tb]? = some (.cells #[.int .i64 mk, .int .i64 (B.D.S k), .slice ai (B.D.q k) ci] 41 (0, 0)) := by rw [← hwd]; exact hblko
            have HCT : Hid (wd.cell? ⟨tb, 0, none⟩ = some (.int .i64 mk)) := cell_blk hblkd 0 rfl
            have HS0 : Hid ((fun w' => (∀ b o, b < w1.heap.size → w'.cell? ⟨b, o, none⟩ = w1.cell? ⟨b, o, none⟩) ∧ w'.cell? ⟨hb, 2, none⟩ = some (.slice (some ⟨g3, 0, none⟩) B.D.n d3) ∧ w'.cell? ⟨tb, 0, none⟩ = some (.int .i64 mk)) wd) := by
              refine ⟨(old_of HNd.out.below).1, ?_, HCT.out⟩
              obtain ⟨v1, _, hbx⟩ := HNd.out.box
              exact cell_blk hbx 2 rfl
            have u0 := HQ0.out
            clear n0 n1 n2 p2 y2 hblko hblkd
            refine wp_region_held_drew (S := (fun w' => (∀ b o, b < w1.heap.size → w'.cell? ⟨b, o, none⟩ = w1.cell? ⟨b, o, none⟩) ∧ w'.cell? ⟨hb, 2, none⟩ = some (.slice (some ⟨g3, 0, none⟩) B.D.n d3) ∧ w'.cell? ⟨tb, 0, none⟩ = some (.int .i64 mk))) (by kernel_rfl) (by rw [hwd]; exact HS0.out) (fun hHeld => ?_)
            rw [hwd]
            clear hwd
            (refine wpAnyH_take (i := 0) (v := ?_) rfl (by kernel_rfl) (by kernel_rfl) (by kernel_rfl) (fun _ _ _ h => h) (Or.inl ⟨by rfl, ?_⟩) (by assumption) ?_; rotate_left; (focus (intro w hSw; (try dsimp only at hSw); go_simp; (try with_reducible rfl))); (try simp only [List.getElem_toArray, List.getElem_cons_zero, List.getElem_cons_succ, Act.put, List.setIfInBounds_toArray, List.set_cons_zero, List.set_cons_succ])); (refine wpAnyH_take (i := 1) (v := ?_) rfl (by kernel_rfl) (by kernel_rfl) (by kernel_rfl) (fun _ _ _ h => h) (Or.inl ⟨by rfl, ?_⟩) (by assumption) ?_; rotate_left; (focus (intro w hSw; (try dsimp only at hSw); go_simp; (try with_reducible rfl))); (try simp only [List.getElem_toArray, List.getElem_cons_zero, List.getElem_cons_succ, Act.put, List.setIfInBounds_toArray, List.set_cons_zero, List.set_cons_succ])); (refine wpAnyH_take (i := 2) (v := ?_) rfl (by kernel_rfl) (by kernel_rfl) (by kernel_rfl) (fun _ _ _ h => h) (Or.inl ⟨by rfl, ?_⟩) (by assumption) ?_; rotate_left; (focus (intro w hSw; (try dsimp only at hSw); go_simp; (try with_reducible rfl))); (try simp only [List.getElem_toArray, List.getElem_cons_zero, List.getElem_cons_succ, Act.put, List.setIfInBounds_toArray, List.set_cons_zero, List.set_cons_succ])); (refine wpAnyH_take (i := 3) (v := ?_) rfl (by kernel_rfl) (by kernel_rfl) (by kernel_rfl) (fun _ _ _ h => h) (Or.inl ⟨by rfl, ?_⟩) (by assumption) ?_; rotate_left; (focus (intro w hSw; (try dsimp only at hSw); go_simp; (try with_reducible rfl))); (try simp only [List.getElem_toArray, List.getElem_cons_zero, List.getElem_cons_succ, Act.put, List.setIfInBounds_toArray, List.set_cons_zero, List.set_cons_succ])); (refine wpAnyH_take (i := 4) (v := ?_) rfl (by kernel_rfl) (by kernel_rfl) (by kernel_rfl) (fun _ _ _ h => h) (Or.inl ⟨by rfl, ?_⟩) (by assumption) ?_; rotate_left; (focus (intro w hSw; (try dsimp only at hSw); go_simp; (try with_reducible rfl))); (try simp only [List.getElem_toArray, List.getElem_cons_zero, List.getElem_cons_succ, Act.put, List.setIfInBounds_toArray, List.set_cons_zero, List.set_cons_succ])); (refine wpAnyH_take (i := 5) (v := ?_) rfl (by kernel_rfl) (by kernel_rfl) (by kernel_rfl) (fun _ _ _ h => h) (Or.inl ⟨by rfl, ?_⟩) (by assumption) ?_; rotate_left; (focus (intro w hSw; (try dsimp only at hSw); go_simp; (try with_reducible rfl))); (try simp only [List.getElem_toArray, List.getElem_cons_zero, List.getElem_cons_succ, Act.put, List.setIfInBounds_toArray, List.set_cons_zero, List.set_cons_succ])); (refine wpAnyH_take (i := 6) (v := ?_) rfl (by kernel_rfl) (by kernel_rfl) (by kernel_rfl) (fun _ _ _ h => h) (Or.inl ⟨by rfl, ?_⟩) (by assumption) ?_; rotate_left; (focus (intro w hSw; (try dsimp only at hSw); go_simp; (try with_reducible rfl))); (try simp only [List.getElem_toArray, List.getElem_cons_zero, List.getElem_cons_succ, Act.put, List.setIfInBounds_toArray, List.set_cons_zero, List.set_cons_succ])); (refine wpAnyH_take (i := 7) (v := ?_) rfl (by kernel_rfl) (by kernel_rfl) (by kernel_rfl) (fun _ _ _ h => h) (Or.inl ⟨by rfl, ?_⟩) (by assumption) ?_; rotate_left; (focus (intro w hSw; (try dsimp only at hSw); go_simp; (try with_reducible rfl))); (try simp only [List.getElem_toArray, List.getElem_cons_zero, List.getElem_cons_succ, Act.put, List.setIfInBounds_toArray, List.set_cons_zero, List.set_cons_succ])); (refine wpAnyH_take (i := 8) (v := ?_) rfl (by kernel_rfl) (by kernel_rfl) (by kernel_rfl) (fun _ _ _ h => h) (Or.inl ⟨by rfl, ?_⟩) (by assumption) ?_; rotate_left; (focus (intro w hSw; (try dsimp only at hSw); go_simp; (try with_reducible rfl))); (try simp only [List.getElem_toArray, List.getElem_cons_zero, List.getElem_cons_succ, Act.put, List.setIfInBounds_toArray, List.set_cons_zero, List.set_cons_succ])); (refine wpAnyH_take (i := 9) (v := ?_) rfl (by kernel_rfl) (by kernel_rfl) (by kernel_rfl) (fun _ _ _ h => h) (Or.inl ⟨by rfl, ?_⟩) (by assumption) ?_; rotate_left; (focus (intro w hSw; (try dsimp only at hSw); go_simp; (try with_reducible rfl))); (try simp only [List.getElem_toArray, List.getElem_cons_zero, List.getElem_cons_succ, Act.put, List.setIfInBounds_toArray, List.set_cons_zero, List.set_cons_succ])); (refine wpAnyH_take (i := 10) (v := ?_) rfl (by kernel_rfl) (by kernel_rfl) (by kernel_rfl) (fun _ _ _ h => h) (Or.inl ⟨by rfl, ?_⟩) (by assumption) ?_; rotate_left; (focus (intro w hSw; (try dsimp only at hSw); go_simp; (try with_reducible rfl))); (try simp only [List.getElem_toArray, List.getElem_cons_zero, List.getElem_cons_succ, Act.put, List.setIfInBounds_toArray, List.set_cons_zero, List.set_cons_succ]))
            (refine wpAnyH_take (i := 11) (v := ?_) rfl (by kernel_rfl) (by kernel_rfl) (by kernel_rfl) (fun _ _ _ h => h) (Or.inl ⟨by rfl, ?_⟩) (by assumption) ?_; rotate_left; (focus (intro w hSw; (try dsimp only at hSw); go_simp; (try with_reducible rfl))); (try simp only [List.getElem_toArray, List.getElem_cons_zero, List.getElem_cons_succ, Act.put, List.setIfInBounds_toArray, List.set_cons_zero, List.set_cons_succ]))
            (refine wpAnyH_take (i := 12) (v := ?_) rfl (by kernel_rfl) (by kernel_rfl) (by kernel_rfl) (fun _ _ _ h => h) (Or.inl ⟨by rfl, ?_⟩) (by assumption) ?_; rotate_left; (focus (intro w hSw; (try dsimp only at hSw); go_simp; (try with_reducible rfl))); (try simp only [List.getElem_toArray, List.getElem_cons_zero, List.getElem_cons_succ, Act.put, List.setIfInBounds_toArray, List.set_cons_zero, List.set_cons_succ]))
            obtain ⟨cs3, T3, hcs3⟩ := HNd.out.nfree
            obtain ⟨rr, hcells, _⟩ := HNd.out.nodes
            have hcell3 := (hcells k hkn2).1
            have hfz3 := frozen_blk hcs3
            clear hcs3 hcells
            refine wpAnyH_ready (rs := [13]) (by kernel_rfl) (by simp) ?_; refine AllReadyH.cons rfl (fun K hK => ?_) AllReadyH.nil; go_simp
            have HP := Lib.hid (HPUT.out _ HNd.out)
            have hct := (World.cell?_setCell_far wd ⟨g3, k * 3, none⟩ ⟨tb, 0, none⟩ (.int .i64 Sk) hgt).trans HCT.out
            obtain ⟨we, hwe⟩ : ∃ we, wd.setCell ⟨g3, k * 3, none⟩ (.int .i64 Sk) = we := ⟨_, rfl⟩
            rw [hwe] at HP hct ⊢
            have hS7 : (fun w' => (∀ b o, b < w1.heap.size → w'.cell? ⟨b, o, none⟩ = w1.cell? ⟨b, o, none⟩) ∧ w'.cell? ⟨hb, 2, none⟩ = some (.slice (some ⟨g3, 0, none⟩) B.D.n d3) ∧ w'.cell? ⟨tb, 0, none⟩ = some (.int .i64 mk)) we := by
              refine ⟨(old_of HP.out.below).1, ?_, hct⟩
              obtain ⟨v1, _, hbx⟩ := HP.out.box
              exact cell_blk hbx 2 rfl
            clear hwe hct hcell3 hfz3
            refine hK.out _ _ hS7 (fun hHeld => ?_); clear hK K; (try simp only [List.getElem_toArray, List.getElem_cons_zero, List.getElem_cons_succ, Act.put, List.setIfInBounds_toArray, List.set_cons_zero, List.set_cons_succ])
            refine wpAnyH_done (by kernel_rfl) ?_ _; clear hHeld
            clear hS7
            go_wp2
            go_roundw
            case rel => exact ⟨k + 1, by omega, by go_num, HP⟩
            case measure => simp [intOf]; omega
        · have hki2 : ¬ (k : Int) < (B.D.n : Int) := by omega
          obtain rfl : k = B.D.n := by omega
          go_upto_region 17 with fail
          obtain ⟨w3, hw3⟩ : ∃ w3, w3 = wr := ⟨_, rfl⟩
          subst hw3
          obtain ⟨bo1, eo1, hbx, hbook⟩ := HN.out.book HG.out
          have HK0 := Lib.hid (orderK HG.out a c)
          obtain ⟨C, hC⟩ : ∃ C, turnB B a c = C := ⟨_, rfl⟩
          have HNC : Hid (C.ns = B.ns) := by rw [← hC]; rfl
          have HRC : Hid (readyB C = true) := by rw [← hC]; exact turn_ready HRD.out
          rw [hC] at hbook HK0
          clear hC
          have HOB : Hid (BookAt w3.heap.size w3 _ C) := hbook
          have HBF2 : Hid (BookAt w3.heap.size w3 _ B) := (HBK1.out.go HN.out.below).raise (Nat.le_trans HBK1.out.1 HN.out.below.size) (Nat.le_refl _)
          have x0 := cell_blk hbx 0 rfl
          have x1 := cell_blk hbx 1 rfl
          have x2 := cell_blk hbx 2 rfl
          have q0 := (HN.out.below.cell (p := ⟨w.heap.size, 0, none⟩) hsz1).trans HQ0.out
          have q1 := (HN.out.below.cell (p := ⟨w.heap.size, 1, none⟩) hsz1).trans HQ1.out
          have q2 := (HN.out.below.cell (p := ⟨w.heap.size, 2, none⟩) hsz1).trans HQ2.out
          have hs3 : w.heap.size < w3.heap.size := Nat.lt_of_lt_of_le hsz1 HN.out.below.size
          have hbs : hb < w3.heap.size := hOn.2.2.2.2
          have HBz : Hid (Below w3.heap.size w3 w3) := Below.refl _ _
          have HB13 : Hid (Below w1.heap.size w1 w3) := HN.out.below
          have hokB : okKB B = true := ok_of_good HG.out
          have hN2 : (eNeed B).2 = 0 := by unfold eNeed; rw [hokB]; rfl
          have hN2C : (eNeed C).2 = 0 := by unfold eNeed; rw [HK0.out.ok]; rfl
          have hD2 : (eDeep B).2 = 0 := by unfold eDeep; rw [hokB]; rfl
          have hNL : (eNeed B).1.length ≤ B.nv := by unfold eNeed; rw [hokB]; simp only [if_true]; rw [eNeed_sel HG.out]; exact sel_len _ _
          have HLI := Lib.hid (eIdle_len B HNE.out)
          have HSI : Hid (sameI (eIdle B).1.length (fun i => (eIdle B).1.getD i 0) (eIdle B).1.length (fun i => (eIdle B).1.getD i 0) = true) := sameI_self _ _
          obtain ⟨v1', hv1'⟩ : ∃ x, (eShort B).1 = x := ⟨_, rfl⟩
          obtain ⟨v2', hv2'⟩ : ∃ x, (eShort B).2 = x := ⟨_, rfl⟩
          obtain ⟨u1', hu1'⟩ : ∃ x, (eLeast B false).1 = x := ⟨_, rfl⟩
          obtain ⟨u2', hu2'⟩ : ∃ x, (eLeast B false).2 = x := ⟨_, rfl⟩
          obtain ⟨t1', ht1'⟩ : ∃ x, (eLeast B true).1 = x := ⟨_, rfl⟩
          obtain ⟨t2', ht2'⟩ : ∃ x, (eLeast B true).2 = x := ⟨_, rfl⟩
          obtain ⟨dl, hdl⟩ : ∃ x, (eDeep B).1.1 = x := ⟨_, rfl⟩
          obtain ⟨dh, hdh⟩ : ∃ x, (eDeep B).1.2 = x := ⟨_, rfl⟩
          obtain ⟨id2, hid2⟩ : ∃ x, (eIdle B).2 = x := ⟨_, rfl⟩
          obtain ⟨K, hKL⟩ : ∃ x, (eNeed B).1.length = x := ⟨_, rfl⟩
          have hKC : (eNeed C).1.length = K := by rw [HK0.out.need, hKL]
          rw [hKL] at hNL
          have hKi : ¬ (B.nv : Int) < (K : Int) := by omega
          have hKd : decide (B.nv < K) = false := decide_eq_false (by omega)
          have HSH := Lib.hid hv1'
          have HSH2 := Lib.hid hv2'
          have HU1 := Lib.hid hu1'
          have HU2 := Lib.hid hu2'
          have HT1 := Lib.hid ht1'
          have HT2 := Lib.hid ht2'
          have HDL := Lib.hid hdl
          have HDH := Lib.hid hdh
          have HI2 := Lib.hid hid2
          have HD2 := Lib.hid hD2
          have HN2 := Lib.hid hN2
          have HN2C := Lib.hid hN2C
          have HKL := Lib.hid hKL
          have HKC := Lib.hid hKC
          have hx1 : Hid (1 = 1) := rfl
          have hx2 : Hid (1 = 1) := rfl
          have hx3 : Hid (1 = 1) := rfl
          have hx4 : Hid (1 = 1) := rfl
          have hx5 : Hid (1 = 1) := rfl
          have hx6 : Hid (1 = 1) := rfl
          clear hv1' hv2' hu1' hu2' ht1' ht2' hdl hdh hid2 hD2 hN2 hN2C hKL hKC hbx hbook hokB y2 HN HQ0 HQ1 HQ2 HBK1 HK HOS
          go_upto_region 38 with (first
            | (go_at_call 15; refine (ready_any w3.heap.size _ C _ (HOB.out.go HBz.out)).mono ?_; rintro e w4 ⟨rfl, hb4⟩; rw [HRC.out]; (try clear cz); have HB4 := Lib.hid (bel HBz.out hb4); have c4 := (old_of HB4.out).1; clear hb4)
            | (go_at_call 30; have hx := hx1; clear hx1; refine (kShort_any w3.heap.size _ B _ (HBF2.out.go HB4.out) HNS7.out).mono ?_; clear hx; rw [HSH.out, HSH2.out]; rintro e w5 ⟨rfl, hb5⟩; (try clear c4); have HB5 := Lib.hid (bel HB4.out hb5); have c5 := (old_of HB5.out).1; clear hb5)
            | (go_at_call 30; refine (kShort_any w3.heap.size _ C _ (HOB.out.go HB5.out) (fun _ => by rw [HNC.out]; exact HNS7.out (ok_of_good HG.out))).mono ?_; rw [HK0.out.short, HSH.out, HSH2.out]; rintro e w6 ⟨rfl, hb6⟩; (try clear c5); have HB6 := Lib.hid (bel HB5.out hb6); have c6 := (old_of HB6.out).1; clear hb6)
            | (go_at_call 27; have hx := hx2; clear hx2; refine (kIdle_any w3.heap.size _ B _ (HBF2.out.go HB6.out)).mono ?_; clear hx; rw [HI2.out]; rintro e w7 ⟨v7, rfl, ho7, hb7⟩; have P7 := Lib.hid ho7; clear ho7; (try clear c6); have HB7 := Lib.hid (bel HB6.out hb7); have c7 := (old_of HB7.out).1; clear hb7)
            | (go_at_call 27; refine (kIdle_any w3.heap.size _ C _ (HOB.out.go HB7.out)).mono ?_; rw [HK0.out.idle, HI2.out]; rintro e w8 ⟨v8, rfl, ho8, hb8⟩; replace P7 := Lib.hid (OwnI.below P7.out hb8); have P8 := Lib.hid ho8; clear ho8; (try clear c7); have HB8 := Lib.hid (bel HB7.out hb8); have c8 := (old_of HB8.out).1; clear hb8)
            | (go_at_call 44; refine (sameInts_any _ _ _ _ _ _ _ _ (P7.out.ints HLI.out) (P8.out.ints HLI.out)).mono ?_; rintro e w9 ⟨rfl, hb9⟩; rw [HSI.out]; replace hb9 := drawn_below hb9; clear P7 P8; (try clear c8); have HB9 := Lib.hid (bel HB8.out hb9); have c9 := (old_of HB9.out).1; clear hb9)
            | (go_at_call 32; have hx := hx3; clear hx3; refine (kBest_any w3.heap.size _ B _ (HBF2.out.go HB9.out)).mono ?_; clear hx; rw [HU1.out, HU2.out]; rintro e wA ⟨rfl, hbA⟩; (try clear c9); have HBA := Lib.hid (bel HB9.out hbA); have cA := (old_of HBA.out).1; clear hbA)
            | (go_at_call 32; refine (kBest_any w3.heap.size _ C _ (HOB.out.go HBA.out)).mono ?_; rw [HK0.out.best, HU1.out, HU2.out]; rintro e wB ⟨rfl, hbB⟩; (try clear cA); have HBB := Lib.hid (bel HBA.out hbB); have cB := (old_of HBB.out).1; clear hbB)
            | (go_at_call 33; have hx := hx4; clear hx4; refine (kMean_any w3.heap.size _ B _ (HBF2.out.go HBB.out)).mono ?_; clear hx; rw [HT1.out, HT2.out]; rintro e wC ⟨rfl, hbC⟩; (try clear cB); have HBC := Lib.hid (bel HBB.out hbC); have cC := (old_of HBC.out).1; clear hbC)
            | (go_at_call 33; refine (kMean_any w3.heap.size _ C _ (HOB.out.go HBC.out)).mono ?_; rw [HK0.out.mean, HT1.out, HT2.out]; rintro e wD ⟨rfl, hbD⟩; (try clear cC); have HBD := Lib.hid (bel HBC.out hbD); have cD := (old_of HBD.out).1; clear hbD)
            | (go_at_call 40; have hx := hx5; clear hx5; refine (kNeed_any w3.heap.size _ B _ (HBF2.out.go HBD.out)).mono ?_; clear hx; rw [HN2.out]; rintro e wE ⟨vE, rfl, hoE, hbE⟩; obtain ⟨aE, cE, hvE⟩ := own_form hoE; rw [HKL.out] at hvE; subst hvE; have PE := Lib.hid hoE; clear hoE; (try clear cD); have HBE := Lib.hid (bel HBD.out hbE); have cE := (old_of HBE.out).1; clear hbE)
            | (go_at_call 40; refine (kNeed_any w3.heap.size _ C _ (HOB.out.go HBE.out)).mono ?_; rw [HN2C.out]; rintro e wF ⟨vF, rfl, hoF, hbF⟩; obtain ⟨aF, cF, hvF⟩ := own_form hoF; rw [HKC.out] at hvF; subst hvF; replace PE := Lib.hid (OwnI.below PE.out hbF); have PF := Lib.hid hoF; clear hoF; (try clear cE); have HBF := Lib.hid (bel HBE.out hbF); have cF := (old_of HBF.out).1; clear hbF)
            | (go_at_call 20; have hx := hx6; clear hx6; refine (kDeep_any w3.heap.size _ B _ (HBF2.out.go HBF.out)).mono ?_; clear hx; rw [HD2.out, HDL.out, HDH.out]; rintro e wG ⟨rfl, hbG⟩; replace PE := Lib.hid (OwnI.below PE.out hbG); replace PF := Lib.hid (OwnI.below PF.out hbG); (try clear cF); have HBG := Lib.hid (bel HBF.out hbG); have cG := (old_of HBG.out).1; clear hbG; obtain ⟨wH, hwH, HBGH, hszH, hblkH⟩ := box1 wG (.cells #[.int .i64 dl, .int .i64 dh] 36); have s0 := cell_blk hblkH 0 rfl; have s1 := cell_blk hblkH 1 rfl; have hbH := HBGH.out; replace PE := Lib.hid (OwnI.below PE.out hbH); replace PF := Lib.hid (OwnI.below PF.out hbH); (try clear cG); have HBH := Lib.hid (bel HBG.out hbH); have cH := (old_of HBH.out).1; clear hbH; clear hblkH)
            | (go_at_call 20; refine (kDeep_any w3.heap.size _ C _ (HOB.out.go HBH.out)).mono ?_; rw [HK0.out.deep, HD2.out, HDL.out, HDH.out]; rintro e wI ⟨rfl, hbI⟩; replace PE := Lib.hid (OwnI.below PE.out hbI); replace PF := Lib.hid (OwnI.below PF.out hbI); have s0 := (hbI.cell (p := ⟨wG.heap.size, 0, none⟩) hszH).trans s0; have s1 := (hbI.cell (p := ⟨wG.heap.size, 1, none⟩) hszH).trans s1; have hszI := Nat.lt_of_lt_of_le hszH hbI.size; (try clear cH); have HBI := Lib.hid (bel HBH.out hbI); have cI := (old_of HBI.out).1; clear hbI; obtain ⟨wJ, hwJ, HBIJ, hszJ, hblkJ⟩ := box1 wI (.cells #[.int .i64 dl, .int .i64 dh] 36); have t0 := cell_blk hblkJ 0 rfl; have t1 := cell_blk hblkJ 1 rfl; have hbJ := HBIJ.out; have s0 := (hbJ.cell (p := ⟨wG.heap.size, 0, none⟩) hszI).trans s0; have s1 := (hbJ.cell (p := ⟨wG.heap.size, 1, none⟩) hszI).trans s1; replace PE := Lib.hid (OwnI.below PE.out hbJ); replace PF := Lib.hid (OwnI.below PF.out hbJ); (try clear cI); have HBJ := Lib.hid (bel HBI.out hbJ); have cJ := (old_of HBJ.out).1; clear hbJ; clear hblkJ))
          have hKb : K ≤ 5 := by omega
          have HEI : Hid (IntsAt wJ.heap.size wJ (.slice aE K cE) K (fun i => (eNeed B).1.getD i 0)) := by
            have h := PE.out.ints (by rw [HKL.out]; omega)
            rw [HKL.out] at h; exact h
          have HFI : Hid (IntsAt wJ.heap.size wJ (.slice aF K cF) K (fun i => (eNeed C).1.getD i 0)) := by
            have h := PF.out.ints (by rw [HKC.out]; omega)
            rw [HKC.out] at h; exact h
          have HQ0 := Lib.hid q0
          have HJJ : Hid (Below wJ.heap.size wJ wJ) := Below.refl _ _
          clear PE PF s0 s1 t0 t1 hKi hNL ha0 ha1 hc0 hc1 x0 x1 x2 q1 q2 hnv1 hns8 hnn hbs hOn hO
          try clear cJ
          go_loopw [23] (fun i wr => ∃ j : Nat, j ≤ K ∧ i = .int .i64 j ∧ Hid (Below wJ.heap.size wJ wr) ∧ Hid (Below w3.heap.size w3 wr)) (fun i _ => K - (intOf i).toNat)
          case atStart => exact ⟨0, Nat.zero_le _, rfl, HJJ, HBJ⟩
          case round =>
            obtain ⟨j, hj, rfl, HJr, H3r⟩ := hrel
            by_cases hjk : j < K
            · have hji : (j : Int) < (K : Int) := by omega
              obtain ⟨bE, oE, rfl, hbE, hrE⟩ := HEI.out.cells (by omega)
              have hin : (eNeed B).1.getD j 0 ∈ (eNeed B).1 := by
                have hl : j < (eNeed B).1.length := by rw [HKL.out]; exact hjk
                rw [List.getD_eq_getElem?_getD, List.getElem?_eq_getElem hl]; exact List.getElem_mem hl
              obtain ⟨z, hz, hzn, hzm⟩ := HK0.out.each _ hin
              have hcE := (HJr.out.cell (p := ⟨bE, oE + j, none⟩) hbE).trans (hrE j hjk)
              rw [hz] at hcE
              have hbEr : bE < wr.heap.size := Nat.lt_of_lt_of_le hbE HJr.out.size
              have q0 := (H3r.out.cell (p := ⟨w.heap.size, 0, none⟩) hs3).trans HQ0.out
              have hwr3 : w.heap.size < wr.heap.size := Nat.lt_of_lt_of_le hs3 H3r.out.size
              have hz0 : ¬ (z : Int) < 0 := by omega
              have hz1 : ¬ (B.nv : Int) ≤ (z : Int) := by omega
              have hz2 : decide ((B.nv : Int) ≤ (z : Int)) = false := decide_eq_false hz1
              have hz3 : decide (B.nv ≤ z) = false := decide_eq_false (by omega)
              have hwa : IntKind.i64.wrap ((z : Int) + (a : Int)) = (z : Int) + (a : Int) := IntWalk.i64_in _ (by omega)
              obtain ⟨Sz, hSz⟩ : ∃ Sz, rotS B.nv a z = Sz := ⟨_, rfl⟩
              have hrem : ((z : Int) + (a : Int)).tmod (B.nv : Int) = (Sz : Int) := by rw [← hSz, ← Int.natCast_add]; rfl
              have hn0 : ¬ B.nv = 0 := by omega
              have HAN : Hid (anyB K (fun i => decide ((eNeed C).1.getD i 0 = (Sz : Int))) = true) := by
                rw [hSz] at hzm
                obtain ⟨i, hi, e⟩ := List.getElem_of_mem hzm
                refine anyB_true.2 ⟨i, by rw [HKC.out] at hi; exact hi, decide_eq_true ?_⟩
                rw [List.getD_eq_getElem?_getD, List.getElem?_eq_getElem hi]; exact e
              have HFr := Lib.hid (HFI.out.mono HJr.out (Nat.le_refl _))
              have hJr := HJr.out.size
              have HBr0 : Hid (Below wr.heap.size wr wr) := Below.refl _ _
              clear hrE hin hz hzm hSz
              go_upto_region 40 with fail
              have Sr0d := old_of HBr0.out.drew; have HBr0d := Sr0d.2
              go_region_held3 (fun w' => (∀ b o, b < wr.heap.size → w'.cell? ⟨b, o, none⟩ = wr.cell? ⟨b, o, none⟩) ∧ Hid (Below wr.heap.size wr w')) (assumption) (first
                | (go_at_call 24; refine (in_any _ _ _ _ _ _ (HFr.out.mono (HBr0d.out.mono hJr) (Nat.le_refl _))).mono ?_; rw [HAN.out]; rintro e wq ⟨rfl, hwq⟩; rw [hwq]; clear hwq wq))
              clear q0 hcE
              go_wp2
              go_roundw
              case rel => exact ⟨j + 1, by omega, by go_num, HJr.out.drew, H3r.out.drew⟩
              case measure => simp [intOf]; omega
            · have hji : ¬ (j : Int) < (K : Int) := by omega
              go_wp2_with (go_at_call 17; refine (works_any _).mono ?_; rintro e wZ ⟨rfl, hbZ⟩; have HBZ := Lib.hid hbZ; clear hbZ)
              go_ret
              exact ⟨rfl, fin HB.out (fin HB1.out (fin HB13.out (fin H3r.out HBZ.out)))⟩

end Go.Proofs.Ytbieglmpkljjjaa
