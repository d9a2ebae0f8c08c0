/-
  LRight: KeysRight says true, of any book.
-/
import Derived.Test.YtbieglmpkljjjaaLaw
import Derived.Test.YtbieglmpkljjjaaDeep
namespace Go.Proofs.Ytbieglmpkljjjaa
open Go.RowKit

theorem OwnI.below {N : Nat} {w w' : World} {v : Value} {l : List Int} (h : OwnI N w v l) (k : Below w.heap.size w w') : OwnI N w' v l := own_below h k

structure Near (B : KB) : Prop where
  nv : B.nv ≤ 40
  ns : B.ns ≤ 40
  n : B.D.n ≤ 60
  q : ∀ i, i < B.D.n → B.D.q i ≤ 40
  L : ∀ i, i < B.ns → B.L i ≤ 40
theorem near_of {B : KB} (h : farB B = false) : Near B := by
  unfold farB farL farX farN at h
  simp only [Bool.or_eq_false_iff, decide_eq_false_iff_not, anyB_false, Nat.not_lt] at h
  obtain ⟨⟨⟨⟨a, b⟩, c, d⟩, e⟩, _⟩ := h
  exact ⟨a, b, c, d, e⟩

theorem RowIn.lt {w : World} {lo hi : Nat} {r : Value} {n : Nat} {x : Nat → Int} (h : RowIn w lo hi r n x) (hn : n ≤ 1000000) : IntsAt w.heap.size w r n x := by
  obtain ⟨g, cap, rfl, k⟩ := h
  exact ⟨_, cap, rfl, by omega, fun h0 => by
    obtain ⟨a, b, cur, c, d, e, f, k⟩ := k h0
    exact ⟨g, 0, rfl, heap_lt c, fun i hi => ⟨_, by rw [Nat.zero_add]; exact cell_blk c i (k i hi), rfl⟩⟩⟩
theorem NodesAt.raise {N N' : Nat} {w : World} {v : Value} {D : Nd} (h : NodesAt N w v D) (hN : N ≤ N') : NodesAt N' w v D := h.mono (Below.refl _ _) hN
theorem NodesIn.lt {w : World} {lo hi : Nat} {v : Value} {D : Nd} (h : NodesIn w lo hi v D D.n) (hn : D.n ≤ 1000000) (hq : ∀ i, i < D.n → D.q i ≤ 1000000) : NodesAt w.heap.size w v D := by
  obtain ⟨g, cap, r, M, rfl, k1, k2, k3, k4, k5, k6⟩ := h
  refine ⟨_, cap, rfl, by omega, fun hp => ?_⟩
  obtain ⟨cur, a, b⟩ := k5 hp
  refine ⟨g, 0, rfl, heap_lt a, fun i hi => ?_⟩
  rw [Nat.zero_add]
  exact ⟨cell_blk a _ (by rw [b _ (by omega), ndCell0]), cell_blk a _ (by rw [b _ (by omega), ndCell1]), r i, cell_blk a _ (by rw [b _ (by omega), ndCell2]), (k6 i hi).lt (hq i hi)⟩

theorem OwnBook.book {w : World} {lo : Nat} {v : Value} {B : KB} (h : OwnBook w lo w.heap.size v B) (hn : Near B) : BookAt w.heap.size w v B := by
  obtain ⟨v1, v2, v3, m, rfl, hp, h2⟩ := h
  obtain ⟨g1, p1, rfl⟩ := hp.form1
  obtain ⟨g3, p3, rfl⟩ := hp.form2
  obtain ⟨a2, p2, rfl⟩ := h2.form
  have hV := hn.nv
  have hD := hn.n
  have i2 := h2.rows (Nat.le_refl _) (by have := hn.ns; omega) (fun j hj => by have := hn.L j hj; omega)
  refine ⟨Nat.le_refl _, _, _, _, _, _, _, rfl, ?_, i2, ?_⟩
  · obtain ⟨_, ⟨h1, _⟩ | ⟨_, h1⟩⟩ := hp <;> exact h1.lt (by omega)
  · obtain ⟨_, ⟨_, h1⟩ | ⟨h1, _⟩⟩ := hp <;> exact h1.lt (by omega) (fun i hi => by have := hn.q i hi; omega)

/-- a copy of a book, and the box in which a law keeps it -/
theorem copy_near (N : Nat) (v : Value) (B : KB) (w : World) (h : BookAt N w v B) (hn : Near B) :
    Calls Try.prog 28 #[v] w fun e w' => ∃ b1 d1 b2 d2 b3 d3, e = .returned (.agg #[.slice b1 B.nv d1, .slice b2 B.ns d2, .slice b3 B.D.n d3]) ∧ OwnBook w' w.heap.size w'.heap.size (.agg #[.slice b1 B.nv d1, .slice b2 B.ns d2, .slice b3 B.D.n d3]) B ∧ BookAt w'.heap.size w' (.agg #[.slice b1 B.nv d1, .slice b2 B.ns d2, .slice b3 B.D.n d3]) B ∧ Below w.heap.size w w' := by
  refine (copy_any N v B w h (by have := hn.nv; omega) (by have := hn.ns; omega) (by have := hn.n; omega) (fun i hi => by have := hn.q i hi; omega) (fun i hi => by have := hn.L i hi; omega)).mono ?_
  rintro e w' ⟨v', rfl, ho, hb⟩
  have hbk := OwnBook.book ho hn
  obtain ⟨b1, d1, b2, d2, b3, d3, rfl⟩ := hbk.form
  exact ⟨_, _, _, _, _, _, rfl, ho, hbk, hb⟩

theorem eRight_len (B : KB) (hn : Near B) : (eRight B).1.length ≤ 140737488351232 := by
  unfold eRight
  split
  · have := sel_len (rightP B) B.ns; have := hn.ns; simp only; omega
  · simp
theorem eIdle_len (B : KB) (hn : Near B) : (eIdle B).1.length ≤ 140737488351232 := by
  unfold eIdle
  split
  · have := sel_len (idleP B) B.D.n; have := hn.n; simp only; omega
  · simp

set_option maxHeartbeats 4000000 in
set_option maxRecDepth 100000 in
theorem cright_any (N : Nat) (v : Value) (B : KB) (w : World) (h : BookAt N w v B) :
    Calls Try.prog 10 #[v] w fun e w' => e = .returned (.bool true) ∧ Below w.heap.size w w' := by
  have h' := h
  obtain ⟨_, a1, z1, a2, z2, a3, z3, rfl, _⟩ := h'
  obtain ⟨ws, hws, HB, hsz, hblk⟩ := box1 w (.cells #[.slice a1 B.nv z1, .slice a2 B.ns z2, .slice a3 B.D.n z3] 26)
  have q0 := cell_blk hblk 0 rfl
  have q1 := cell_blk hblk 1 rfl
  have q2 := cell_blk hblk 2 rfl
  have HBK := Lib.hid (h.go HB.out)
  have HB0 : Hid (Below ws.heap.size ws ws) := Below.refl _ _
  have HNS : Hid (N ≤ ws.heap.size) := HBK.out.1
  have hlens := h.lens
  obtain ⟨hlv, hls, hln⟩ := hlens
  clear hblk h
  cases hfar : farB B with
  | true =>
    have HFA := Lib.hid hfar
    clear hfar
    go_enter Try.func10, Try.ntmps10
    go_wp2_with (first
      | (go_at_call 45; refine (Far_any N _ B _ (HBK.out.go HB0.out)).mono ?_; rintro e w1 ⟨rfl, hb1⟩; rw [HFA.out]; (try clear c0); have HB1 := Lib.hid (bel HB0.out hb1); have c1 := (old_of HB1.out).1; clear hb1)
      | (go_at_call 17; refine (works_any _).mono ?_; rintro e w2 ⟨rfl, hb2⟩; (try clear c1); have HB2 := Lib.hid (bel HB1.out hb2); have c2 := (old_of HB2.out).1; clear hb2))
    go_ret
    exact ⟨rfl, fin HB.out HB2.out⟩
  | false =>
    have HFA := Lib.hid hfar
    have HNE := Lib.hid (near_of hfar)
    have HLR := Lib.hid (eRight_len B HNE.out)
    have HLI := Lib.hid (eIdle_len B HNE.out)
    have HSR : Hid (sameI (eRight B).1.length (fun i => (eRight B).1.getD i 0) (eRight B).1.length (fun i => (eRight B).1.getD i 0) = true) := sameI_self _ _
    have HSI : Hid (sameI (eIdle B).1.length (fun i => (eIdle B).1.getD i 0) (eIdle B).1.length (fun i => (eIdle B).1.getD i 0) = true) := sameI_self _ _
    obtain ⟨er, her⟩ : ∃ x, (eRight B).2 = x := ⟨_, rfl⟩
    obtain ⟨ei, hei⟩ : ∃ x, (eIdle B).2 = x := ⟨_, rfl⟩
    obtain ⟨ed, hed⟩ : ∃ x, (eDeep B).2 = x := ⟨_, rfl⟩
    obtain ⟨dl, hdl⟩ : ∃ x, (eDeep B).1.1 = x := ⟨_, rfl⟩
    obtain ⟨dh, hdh⟩ : ∃ x, (eDeep B).1.2 = x := ⟨_, rfl⟩
    have HER := Lib.hid her
    have HEI := Lib.hid hei
    have HED := Lib.hid hed
    have HDL := Lib.hid hdl
    have HDH := Lib.hid hdh
    clear hfar her hei hed hdl hdh
    go_enter Try.func10, Try.ntmps10
    go_wp2_with (first
      | (go_at_call 45; refine (Far_any N _ B _ (HBK.out.go HB0.out)).mono ?_; rintro e w1 ⟨rfl, hb1⟩; rw [HFA.out]; (try clear c0); have HB1 := Lib.hid (bel HB0.out hb1); have c1 := (old_of HB1.out).1; clear hb1)
      | (go_at_call 28; refine (copy_near N _ B _ (HBK.out.go HB1.out) HNE.out).mono ?_; rintro e w2 ⟨b1, d1, b2, d2, b3, d3, rfl, how2, hbk2, hb2⟩; clear how2; have HBK2 := Lib.hid hbk2; clear hbk2; (try clear c1); have HB2 := Lib.hid (bel HB1.out hb2); have c2 := (old_of HB2.out).1; clear hb2; obtain ⟨w3, hw3, HB3, hsz3, hblk3⟩ := box1 w2 (.cells #[.slice b1 B.nv d1, .slice b2 B.ns d2, .slice b3 B.D.n d3] 26); have HBG := Lib.hid ((HBK2.out.go HB3.out).raise HB3.out.size (Nat.le_refl _)); have x0 := cell_blk hblk3 0 rfl; have x1 := cell_blk hblk3 1 rfl; have x2 := cell_blk hblk3 2 rfl; have HBF := Lib.hid (HBK.out.go (bel HB2.out HB3.out)); have HBF2 : Hid (BookAt w3.heap.size w3 _ B) := Lib.hid (HBF.out.raise HBF.out.1 (Nat.le_refl _)); have HBz : Hid (Below w3.heap.size w3 w3) := Below.refl _ _; have q0 := (HB3.out.cell (p := ⟨w.heap.size, 0, none⟩) (Nat.lt_of_lt_of_le hsz HB2.out.size)).trans ((c2 _ 0 hsz).trans q0); have q1 := (HB3.out.cell (p := ⟨w.heap.size, 1, none⟩) (Nat.lt_of_lt_of_le hsz HB2.out.size)).trans ((c2 _ 1 hsz).trans q1); have q2 := (HB3.out.cell (p := ⟨w.heap.size, 2, none⟩) (Nat.lt_of_lt_of_le hsz HB2.out.size)).trans ((c2 _ 2 hsz).trans q2); have hs3 : w.heap.size < w3.heap.size := Nat.lt_of_lt_of_le hsz (Nat.le_trans HB2.out.size HB3.out.size); clear c2 hws hblk3)
      | (go_at_call 22; refine (kRight_any w3.heap.size _ B _ (HBG.out.go HBz.out)).mono ?_; rw [HER.out]; rintro e w4 ⟨v4, rfl, ho4, hb4⟩; have P4 := Lib.hid ho4; clear ho4; (try clear cz); have HB4 := Lib.hid (bel HBz.out hb4); have c4 := (old_of HB4.out).1; clear hb4)
      | (go_at_call 52; refine (rRight_any w3.heap.size _ B _ (HBF2.out.go HB4.out)).mono ?_; rw [HER.out]; rintro e w5 ⟨v5, rfl, ho5, hb5⟩; replace P4 := Lib.hid (OwnI.below P4.out hb5); have P5 := Lib.hid ho5; clear ho5; (try clear c4); have HB5 := Lib.hid (bel HB4.out hb5); have c5 := (old_of HB5.out).1; clear hb5)
      | (go_at_call 27; refine (kIdle_any w3.heap.size _ B _ (HBG.out.go HB5.out)).mono ?_; rw [HEI.out]; rintro e w6 ⟨v6, rfl, ho6, hb6⟩; replace P4 := Lib.hid (OwnI.below P4.out hb6); replace P5 := Lib.hid (OwnI.below P5.out hb6); have P6 := Lib.hid ho6; clear ho6; (try clear c5); have HB6 := Lib.hid (bel HB5.out hb6); have c6 := (old_of HB6.out).1; clear hb6)
      | (go_at_call 53; refine (rIdle_any w3.heap.size _ B _ (HBF2.out.go HB6.out)).mono ?_; rw [HEI.out]; rintro e w7 ⟨v7, rfl, ho7, hb7⟩; replace P4 := Lib.hid (OwnI.below P4.out hb7); replace P5 := Lib.hid (OwnI.below P5.out hb7); replace P6 := Lib.hid (OwnI.below P6.out hb7); have P7 := Lib.hid ho7; clear ho7; (try clear c6); have HB7 := Lib.hid (bel HB6.out hb7); have c7 := (old_of HB7.out).1; clear hb7)
      | (go_at_call 20; refine (kDeep_any w3.heap.size _ B _ (HBG.out.go HB7.out)).mono ?_; rw [HED.out, HDL.out, HDH.out]; rintro e w8 ⟨rfl, hb8⟩; replace P4 := Lib.hid (OwnI.below P4.out hb8); replace P5 := Lib.hid (OwnI.below P5.out hb8); replace P6 := Lib.hid (OwnI.below P6.out hb8); replace P7 := Lib.hid (OwnI.below P7.out hb8); (try clear c7); have HB8 := Lib.hid (bel HB7.out hb8); have c8 := (old_of HB8.out).1; clear hb8; obtain ⟨w9, hw9, HB89, hsz9, hblk9⟩ := box1 w8 (.cells #[.int .i64 dl, .int .i64 dh] 36); have s0 := cell_blk hblk9 0 rfl; have s1 := cell_blk hblk9 1 rfl; have hb9 := HB89.out; replace P4 := Lib.hid (OwnI.below P4.out hb9); replace P5 := Lib.hid (OwnI.below P5.out hb9); replace P6 := Lib.hid (OwnI.below P6.out hb9); replace P7 := Lib.hid (OwnI.below P7.out hb9); (try clear c8); have HB9 := Lib.hid (bel HB8.out hb9); have c9 := (old_of HB9.out).1; clear hb9; clear hblk9)
      | (go_at_call 54; refine (rDeep_any w3.heap.size _ B _ (HBF2.out.go HB9.out)).mono ?_; rw [HED.out, HDL.out, HDH.out]; rintro e wA ⟨rfl, hbA⟩; replace P4 := Lib.hid (OwnI.below P4.out hbA); replace P5 := Lib.hid (OwnI.below P5.out hbA); replace P6 := Lib.hid (OwnI.below P6.out hbA); replace P7 := Lib.hid (OwnI.below P7.out hbA); have s0 := (hbA.cell (p := ⟨w8.heap.size, 0, none⟩) hsz9).trans s0; have s1 := (hbA.cell (p := ⟨w8.heap.size, 1, none⟩) hsz9).trans s1; have hszA := Nat.lt_of_lt_of_le hsz9 hbA.size; (try clear c9); have HBA := Lib.hid (bel HB9.out hbA); have cA := (old_of HBA.out).1; clear hbA; obtain ⟨wD, hwD, HBAD, hszD, hblkD⟩ := box1 wA (.cells #[.int .i64 dl, .int .i64 dh] 36); have t0 := cell_blk hblkD 0 rfl; have t1 := cell_blk hblkD 1 rfl; have hbD := HBAD.out; have s0 := (hbD.cell (p := ⟨w8.heap.size, 0, none⟩) hszA).trans s0; have s1 := (hbD.cell (p := ⟨w8.heap.size, 1, none⟩) hszA).trans s1; replace P4 := Lib.hid (OwnI.below P4.out hbD); replace P5 := Lib.hid (OwnI.below P5.out hbD); replace P6 := Lib.hid (OwnI.below P6.out hbD); replace P7 := Lib.hid (OwnI.below P7.out hbD); (try clear cA); have HBD := Lib.hid (bel HBA.out hbD); have cD := (old_of HBD.out).1; clear hbD; have hs8D : w8.heap.size < wD.heap.size := Nat.lt_trans hszA hszD; clear hblkD)
      | (go_at_call 44; refine (sameInts_any _ _ _ _ _ _ _ _ (P4.out.ints HLR.out) (P5.out.ints HLR.out)).mono ?_; rintro e wE ⟨rfl, hbE⟩; rw [HSR.out]; replace hbE := drawn_below hbE; replace P6 := Lib.hid (OwnI.below P6.out hbE); replace P7 := Lib.hid (OwnI.below P7.out hbE); clear P4 P5; have s0 := (hbE.cell (p := ⟨w8.heap.size, 0, none⟩) hs8D).trans s0; have s1 := (hbE.cell (p := ⟨w8.heap.size, 1, none⟩) hs8D).trans s1; have t0 := (hbE.cell (p := ⟨wA.heap.size, 0, none⟩) hszD).trans t0; have t1 := (hbE.cell (p := ⟨wA.heap.size, 1, none⟩) hszD).trans t1; have hs8E := Nat.lt_of_lt_of_le hs8D hbE.size; have hszE := Nat.lt_of_lt_of_le hszD hbE.size; (try clear cD); have HBE := Lib.hid (bel HBD.out hbE); have cE := (old_of HBE.out).1; clear hbE)
      | (go_at_call 44; refine (sameInts_any _ _ _ _ _ _ _ _ (P6.out.ints HLI.out) (P7.out.ints HLI.out)).mono ?_; rintro e wF ⟨rfl, hbF⟩; rw [HSI.out]; replace hbF := drawn_below hbF; clear P6 P7; have s0 := (hbF.cell (p := ⟨w8.heap.size, 0, none⟩) hs8E).trans s0; have s1 := (hbF.cell (p := ⟨w8.heap.size, 1, none⟩) hs8E).trans s1; have t0 := (hbF.cell (p := ⟨wA.heap.size, 0, none⟩) hszE).trans t0; have t1 := (hbF.cell (p := ⟨wA.heap.size, 1, none⟩) hszE).trans t1; (try clear cE); have HBF := Lib.hid (bel HBE.out hbF); have cF := (old_of HBF.out).1; clear hbF)
      | (go_at_call 51; refine (same_any _ _ _ _ B _ (HBG.out.go HBF.out) (HBF2.out.go HBF.out)).mono ?_; rintro e wG ⟨rfl, hbG⟩; (try clear cF); have HBG := Lib.hid (bel HBF.out hbG); have cG := (old_of HBG.out).1; clear hbG)
      | (go_at_call 17; refine (works_any _).mono ?_; rintro e wH ⟨rfl, hbH⟩; (try clear cG); have HBH := Lib.hid (bel HBG.out hbH); have cH := (old_of HBH.out).1; clear hbH))
    go_ret
    exact ⟨rfl, fin HB.out (fin HB2.out (fin HB3.out HBH.out))⟩

end Go.Proofs.Ytbieglmpkljjjaa
