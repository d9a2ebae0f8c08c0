/-
  LWalk: KeysWalk says true, of any book, fruit and node.
-/
import Derived.Test.YtbieglmpkljjjaaLRight
import Derived.Test.YtbieglmpkljjjaaKComes
namespace Go.Proofs.Ytbieglmpkljjjaa
open Go.RowKit

theorem comesP_any (B : KB) (d : Nat) : (fun i => (walk B.D (B.X i)).any fun k => decide ((k : Int) = (d : Int))) = comesP B d := by
  funext i
  unfold comesP
  rw [Bool.eq_iff_iff, List.any_eq_true, List.contains_iff_mem]
  constructor
  · rintro ⟨k, h1, h2⟩
    have := of_decide_eq_true h2
    have e : k = d := by omega
    rwa [e] at h1
  · exact fun h => ⟨d, h, by simp⟩

set_option maxRecDepth 100000 in
set_option maxHeartbeats 1600000 in
theorem kComes_any (N : Nat) (v : Value) (B : KB) (y : Int) (w : World) (h : BookAt N w v B) :
    Calls Try.prog 26 #[v, .int .i64 y] w (GivesIE w.heap.size w (eComes B y).1 (eComes B y).2) := by
  have h' := h
  obtain ⟨_, a1, z1, a2, z2, a3, z3, rfl, _⟩ := h'
  obtain ⟨ws, hws, HB, hsz, hblk⟩ := box1 w (.cells #[.slice a1 B.nv z1, .slice a2 B.ns z2, .slice a3 B.D.n z3] 26)
  have q0 := cell_blk hblk 0 rfl
  have q1 := cell_blk hblk 1 rfl
  have q2 := cell_blk hblk 2 rfl
  have HBK := Lib.hid (h.go HB.out)
  have HB0 : Hid (Below ws.heap.size ws ws) := Below.refl _ _
  have HNS : Hid (N ≤ ws.heap.size) := HBK.out.1
  have hlens := h.lens
  obtain ⟨hlv, hls, hln⟩ := hlens
  clear hblk h
  cases hv : okKB B with
  | false =>
    have HA : Hid (chk B = 20) := chk_no hv
    have HE : Hid (eComes B y = ([], 20)) := by unfold Hid eComes; rw [hv]; rfl
    clear hv
    go_enter Try.func26, Try.ntmps26
    go_wp2_with (go_at_call 46; go_must (refine (kCheck_any N _ B _ (HBK.out.go HB0.out)).mono ?_; rintro e w1 ⟨rfl, hb1⟩; rw [HA.out]; (try clear c0); have HB1 := Lib.hid (bel HB0.out hb1); have c1 := (old_of HB1.out).1; clear hb1))
    go_ret2
    exact ⟨.slice none 0 0, by rw [HE.out]; rfl, by rw [HE.out]; exact own_nil _ _, fin HB.out HB1.out⟩
  | true =>
    have HG := Lib.hid (goodB hv)
    have HA : Hid (chk B = 0) := chk_yes hv
    cases hx : (decide (0 ≤ y) && decide (y < B.D.n)) with
    | false =>
      have HX := Lib.hid hx
      have HE : Hid (eComes B y = ([], 1)) := by unfold Hid eComes; rw [hv, hx]; rfl
      clear hv hx
      go_enter Try.func26, Try.ntmps26
      go_wp2_with (first
        | (go_at_call 46; go_must (refine (kCheck_any N _ B _ (HBK.out.go HB0.out)).mono ?_; rintro e w1 ⟨rfl, hb1⟩; rw [HA.out]; (try clear c0); have HB1 := Lib.hid (bel HB0.out hb1); have c1 := (old_of HB1.out).1; clear hb1))
        | (go_at_call 73; go_must (refine (kwithin_eq _ _ _ _ HX.out).mono ?_; rintro e wq ⟨rfl, hwq⟩; rw [hwq]; clear hwq wq)))
      go_ret2
      exact ⟨.slice none 0 0, by rw [HE.out]; rfl, by rw [HE.out]; exact own_nil _ _, fin HB.out HB1.out⟩
    | true =>
      have HX := Lib.hid hx
      have hy0 : 0 ≤ y := by simp at hx; omega
      obtain ⟨d, rfl⟩ : ∃ d : Nat, y = d := ⟨y.toNat, by omega⟩
      have HE : Hid (eComes B d = (sel (comesP B d) B.ns, 0)) := by unfold Hid eComes; rw [hv, hx]; rfl
      clear hv hx hy0
      go_enter Try.func26, Try.ntmps26
      go_wp2_with (first
        | (go_at_call 46; go_must (refine (kCheck_any N _ B _ (HBK.out.go HB0.out)).mono ?_; rintro e w1 ⟨rfl, hb1⟩; rw [HA.out]; (try clear c0); have HB1 := Lib.hid (bel HB0.out hb1); have c1 := (old_of HB1.out).1; clear hb1))
        | (go_at_call 73; go_must (refine (kwithin_eq _ _ _ _ HX.out).mono ?_; rintro e wq ⟨rfl, hwq⟩; rw [hwq]; clear hwq wq))
        | (go_at_call 74; go_must (refine (kcomes_any N _ B d _ (HBK.out.go HB1.out) HG.out).mono ?_; rw [comesP_any]; rintro e w2 ⟨v2, rfl, ho2, hb2⟩; have HO2 := Lib.hid ho2; clear ho2; (try clear c1); have HB2 := Lib.hid (bel HB1.out hb2); have c2 := (old_of HB2.out).1; clear hb2)))
      go_ret2
      exact ⟨v2, by rw [HE.out]; rfl, by rw [HE.out]; exact own_mono HO2.out (Nat.le_trans HB.out.size HB1.out.size), fin HB.out HB2.out⟩

theorem eWalk_len (B : KB) (hn : Near B) (n : Nat) (x : Nat → Int) : (eWalk B n x).1.length ≤ 140737488351232 := by
  unfold eWalk
  split
  · rename_i hv
    split
    · rename_i hx
      have := walk_len (goodB hv).D (goodX hx)
      have := hn.n
      simp only [ints_len]; omega
    · simp
  · simp
theorem eComes_len (B : KB) (hn : Near B) (y : Int) : (eComes B y).1.length ≤ 140737488351232 := by
  unfold eComes
  split
  · split
    · have := sel_len (comesP B y.toNat) B.ns; have := hn.ns; simp only; omega
    · simp
  · simp

set_option maxHeartbeats 4000000 in
set_option maxRecDepth 100000 in
theorem cwalk_any (N : Nat) (v u : Value) (B : KB) (nx : Nat) (x : Nat → Int) (y : Int) (w : World) (h : BookAt N w v B) (hx : IntsAt N w u nx x) :
    Calls Try.prog 9 #[v, u, .int .i64 y] w fun e w' => e = .returned (.bool true) ∧ Below w.heap.size w w' := by
  obtain ⟨au, cu, rfl, _, _⟩ := id hx
  have hN := h.1
  have h' := h
  obtain ⟨_, a1, z1, a2, z2, a3, z3, rfl, _⟩ := h'
  obtain ⟨ws, hws, HB, hsz, hblk⟩ := box1 w (.cells #[.slice a1 B.nv z1, .slice a2 B.ns z2, .slice a3 B.D.n z3] 26)
  have q0 := cell_blk hblk 0 rfl
  have q1 := cell_blk hblk 1 rfl
  have q2 := cell_blk hblk 2 rfl
  have HBK := Lib.hid (h.go HB.out)
  have HB0 : Hid (Below ws.heap.size ws ws) := Below.refl _ _
  have HNS : Hid (N ≤ ws.heap.size) := HBK.out.1
  have hlens := h.lens
  obtain ⟨hlv, hls, hln⟩ := hlens
  clear hblk h
  have HXW := Lib.hid (hx.mono (HB.out.mono hN) (Nat.le_refl _))
  clear hx
  cases hfar : farB B with
  | true =>
    have HFA := Lib.hid hfar
    clear hfar
    go_enter Try.func9, Try.ntmps9
    go_wp2_with (first
      | (go_at_call 45; refine (Far_any N _ B _ (HBK.out.go HB0.out)).mono ?_; rintro e w1 ⟨rfl, hb1⟩; rw [HFA.out]; (try clear c0); have HB1 := Lib.hid (bel HB0.out hb1); have c1 := (old_of HB1.out).1; clear hb1)
      | (go_at_call 17; refine (works_any _).mono ?_; rintro e w2 ⟨rfl, hb2⟩; (try clear c1); have HB2 := Lib.hid (bel HB1.out hb2); have c2 := (old_of HB2.out).1; clear hb2))
    go_ret
    exact ⟨rfl, fin HB.out HB2.out⟩
  | false =>
    have HFA := Lib.hid hfar
    have HNE := Lib.hid (near_of hfar)
    clear hfar
    by_cases h40 : 40 < nx
    · have h40i : (40 : Int) < (nx : Int) := by omega
      clear h40
      go_enter Try.func9, Try.ntmps9
      go_wp2_with (first
        | (go_at_call 45; refine (Far_any N _ B _ (HBK.out.go HB0.out)).mono ?_; rintro e w1 ⟨rfl, hb1⟩; rw [HFA.out]; (try clear c0); have HB1 := Lib.hid (bel HB0.out hb1); have c1 := (old_of HB1.out).1; clear hb1)
        | (go_at_call 17; refine (works_any _).mono ?_; rintro e w2 ⟨rfl, hb2⟩; (try clear c1); have HB2 := Lib.hid (bel HB1.out hb2); have c2 := (old_of HB2.out).1; clear hb2))
      go_ret
      exact ⟨rfl, fin HB.out HB2.out⟩
    · have h40i : ¬ (40 : Int) < (nx : Int) := by omega
      have h40n : nx ≤ 1000000 := by omega
      have HLW := Lib.hid (eWalk_len B HNE.out nx x)
      have HLC := Lib.hid (eComes_len B HNE.out y)
      have HSW : Hid (sameI (eWalk B nx x).1.length (fun i => (eWalk B nx x).1.getD i 0) (eWalk B nx x).1.length (fun i => (eWalk B nx x).1.getD i 0) = true) := sameI_self _ _
      have HSC : Hid (sameI (eComes B y).1.length (fun i => (eComes B y).1.getD i 0) (eComes B y).1.length (fun i => (eComes B y).1.getD i 0) = true) := sameI_self _ _
      have HSX : Hid (sameI nx x nx x = true) := sameI_self _ _
      obtain ⟨ew, hew⟩ : ∃ x', (eWalk B nx x).2 = x' := ⟨_, rfl⟩
      obtain ⟨ec, hec⟩ : ∃ x', (eComes B y).2 = x' := ⟨_, rfl⟩
      obtain ⟨ee, hee⟩ : ∃ x', (eEnd B nx x).2 = x' := ⟨_, rfl⟩
      obtain ⟨ev, hev⟩ : ∃ x', (eEnd B nx x).1 = x' := ⟨_, rfl⟩
      have HEW := Lib.hid hew
      have HEC := Lib.hid hec
      have HEE := Lib.hid hee
      have HEV := Lib.hid hev
      clear hew hec hee hev h40
      go_enter Try.func9, Try.ntmps9
      go_wp2_with (first
        | (go_at_call 45; go_must (refine (Far_any N _ B _ (HBK.out.go HB0.out)).mono ?_; rintro e w1 ⟨rfl, hb1⟩; rw [HFA.out]; (try clear c0); have HB1 := Lib.hid (bel HB0.out hb1); have c1 := (old_of HB1.out).1; clear hb1))
        | (go_at_call 28; go_must (refine (copy_near N _ B _ (HBK.out.go HB1.out) HNE.out).mono ?_; rintro e w2 ⟨b1, d1, b2, d2, b3, d3, rfl, how2, hbk2, hb2⟩; clear how2; have HBK2 := Lib.hid hbk2; have HC2 := Lib.hid hb2; clear hbk2; (try clear c1); have HB2 := Lib.hid (bel HB1.out hb2); have c2 := (old_of HB2.out).1; clear hb2; have HI2 : Hid (IntsAt N w2 (.slice au nx cu) nx x) := Lib.hid (HXW.out.go HNS.out HB2.out); have hN2 : N ≤ w2.heap.size := Nat.le_trans HNS.out HB2.out.size))
        | (at_builtin; refine wpList_clone _ ?_ (.tmp 27) (.tmp 28) ?_ ?_ N w2.heap.size _ nx _ x ?_ ?_ (HI2.out.go hN2 (below_alloc (Nat.le_refl _) _)) h40n ?_; (any_goals (exact rfl)); intro v3 w3 hrow hb3; obtain ⟨g3, p3, rfl⟩ := hrow.form; replace hb3 : Below w2.heap.size w2 w3 := (below_alloc (Nat.le_refl _) _).trans (hb3.mono (by simp)); have HX3 := Lib.hid (hrow.lt h40n); have HBK3 := Lib.hid (HBK2.out.go hb3); clear hrow; (try clear c2); have HB3 := Lib.hid (bel HB2.out hb3); have c3 := (old_of HB3.out).1; clear hb3; obtain ⟨w4, hw4, HB34, hsz34, hblk4⟩ := box1 w3 (.cells #[.slice b1 B.nv d1, .slice b2 B.ns d2, .slice b3 B.D.n d3] 26); have x0 := cell_blk hblk4 0 rfl; have x1 := cell_blk hblk4 1 rfl; have x2 := cell_blk hblk4 2 rfl; have hb4 := HB34.out; clear hblk4 HB34; have HBG : Hid (BookAt w4.heap.size w4 (.agg #[.slice b1 B.nv d1, .slice b2 B.ns d2, .slice b3 B.D.n d3]) B) := Lib.hid ((HBK3.out.go hb4).raise (HBK3.out.go hb4).1 (Nat.le_refl _)); have HXG : Hid (IntsAt w4.heap.size w4 (.slice (some ⟨g3, 0, none⟩) nx p3) nx x) := Lib.hid (HX3.out.mono hb4 hb4.size); (try clear c3); have HB4 := Lib.hid (bel HB3.out hb4); have c4 := (old_of HB4.out).1; clear hb4; have HBF2 : Hid (BookAt w4.heap.size w4 (.agg #[.slice a1 B.nv z1, .slice a2 B.ns z2, .slice a3 B.D.n z3]) B) := Lib.hid ((HBK.out.go HB4.out).raise (HBK.out.go HB4.out).1 (Nat.le_refl _)); have HXF : Hid (IntsAt w4.heap.size w4 (.slice au nx cu) nx x) := Lib.hid ((HXW.out.go HNS.out HB4.out).mono (Below.refl _ _) (HBK.out.go HB4.out).1); have HBz : Hid (Below w4.heap.size w4 w4) := Below.refl _ _; have q0 := (c4 _ 0 hsz).trans q0; have q1 := (c4 _ 1 hsz).trans q1; have q2 := (c4 _ 2 hsz).trans q2; have hs4 : w.heap.size < w4.heap.size := Nat.lt_of_lt_of_le hsz HB4.out.size; clear c4 hws))
      have Szd := old_of HBz.out.drew; have HBzd := Szd.2
      go_region_held3 (fun w' => (∀ b o, b < w4.heap.size → w'.cell? ⟨b, o, none⟩ = w4.cell? ⟨b, o, none⟩) ∧ Hid (Below w4.heap.size w4 w')) (assumption) (first
        | (go_at_call 46; refine (kCheck_any w4.heap.size _ B _ (HBG.out.go HBzd.out)).mono ?_; rintro e w5 ⟨rfl, hb5⟩; have S5 := old_of (bel HBzd.out hb5); have HB5 := S5.2; clear hb5)
        | (go_at_call 47; refine (rCheck_any w4.heap.size _ B _ (HBF2.out.go HB5.out)).mono ?_; rintro e w6 ⟨rfl, hb6⟩; have S6 := old_of (bel HB5.out hb6); have HB6 := S6.2; clear hb6))
      have HB6 := S6.2; have c6 := S6.1; clear S6 Szd
      clear S5
      go_wp2_with (first
        | (go_at_call 18; go_must (refine (kWalk_any w4.heap.size _ _ B nx x _ (HBG.out.go HB6.out) (HXG.out.go (Nat.le_refl _) HB6.out)).mono ?_; rw [HEW.out]; rintro e w7 ⟨v7, rfl, ho7, hb7⟩; have P7 := Lib.hid ho7; clear ho7; (try clear c6); have HB7 := Lib.hid (bel HB6.out hb7); have c7 := (old_of HB7.out).1; clear hb7))
        | (go_at_call 48; go_must (refine (rWalk_any w4.heap.size _ _ B nx x _ (HBF2.out.go HB7.out) (HXF.out.go (Nat.le_refl _) HB7.out)).mono ?_; rw [HEW.out]; rintro e w8 ⟨v8, rfl, ho8, hb8⟩; replace P7 := Lib.hid (OwnI.below P7.out hb8); have P8 := Lib.hid ho8; clear ho8; (try clear c7); have HB8 := Lib.hid (bel HB7.out hb8); have c8 := (old_of HB8.out).1; clear hb8))
        | (go_at_call 19; go_must (refine (kEnd_any w4.heap.size _ _ B nx x _ (HBG.out.go HB8.out) (HXG.out.go (Nat.le_refl _) HB8.out)).mono ?_; rw [HEE.out, HEV.out]; rintro e w9 ⟨rfl, hb9⟩; replace P7 := Lib.hid (OwnI.below P7.out hb9); replace P8 := Lib.hid (OwnI.below P8.out hb9); (try clear c8); have HB9 := Lib.hid (bel HB8.out hb9); have c9 := (old_of HB9.out).1; clear hb9))
        | (go_at_call 49; go_must (refine (rEnd_any w4.heap.size _ _ B nx x _ (HBF2.out.go HB9.out) (HXF.out.go (Nat.le_refl _) HB9.out)).mono ?_; rw [HEE.out, HEV.out]; rintro e wA ⟨rfl, hbA⟩; replace P7 := Lib.hid (OwnI.below P7.out hbA); replace P8 := Lib.hid (OwnI.below P8.out hbA); (try clear c9); have HBA := Lib.hid (bel HB9.out hbA); have cA := (old_of HBA.out).1; clear hbA))
        | (go_at_call 44; refine (sameInts_any _ _ _ _ _ _ _ _ (P7.out.ints HLW.out) (P8.out.ints HLW.out)).mono ?_; rintro e wB ⟨rfl, hbB⟩; rw [HSW.out]; replace hbB := drawn_below hbB; clear P7 P8; (try clear cA); have HBB := Lib.hid (bel HBA.out hbB); have cB := (old_of HBB.out).1; clear hbB)
        | (go_at_call 26; go_must (refine (kComes_any w4.heap.size _ B y _ (HBG.out.go HBB.out)).mono ?_; rw [HEC.out]; rintro e wC ⟨vC, rfl, hoC, hbC⟩; have PC := Lib.hid hoC; clear hoC; (try clear cB); have HBC := Lib.hid (bel HBB.out hbC); have cC := (old_of HBC.out).1; clear hbC))
        | (go_at_call 50; go_must (refine (rComes_any w4.heap.size _ B y _ (HBF2.out.go HBC.out)).mono ?_; rw [HEC.out]; rintro e wD ⟨vD, rfl, hoD, hbD⟩; replace PC := Lib.hid (OwnI.below PC.out hbD); have PD := Lib.hid hoD; clear hoD; (try clear cC); have HBD := Lib.hid (bel HBC.out hbD); have cD := (old_of HBD.out).1; clear hbD))
        | (go_at_call 44; refine (sameInts_any _ _ _ _ _ _ _ _ (PC.out.ints HLC.out) (PD.out.ints HLC.out)).mono ?_; rintro e wE ⟨rfl, hbE⟩; rw [HSC.out]; replace hbE := drawn_below hbE; clear PC PD; (try clear cD); have HBE := Lib.hid (bel HBD.out hbE); have cE := (old_of HBE.out).1; clear hbE)
        | (go_at_call 51; go_must (refine (same_any _ _ _ _ B _ (HBG.out.go HBE.out) (HBF2.out.go HBE.out)).mono ?_; rintro e wF ⟨rfl, hbF⟩; (try clear cE); have HBF := Lib.hid (bel HBE.out hbF); have cF := (old_of HBF.out).1; clear hbF))
        | (go_at_call 44; go_must (refine (sameInts_any _ _ _ _ _ _ _ _ (HXG.out.go (Nat.le_refl _) HBF.out) (HXF.out.go (Nat.le_refl _) HBF.out)).mono ?_; rintro e wG ⟨rfl, hbG⟩; rw [HSX.out]; replace hbG := drawn_below hbG; have HBFo := HBF; (try clear cF); have HBG := Lib.hid (bel HBF.out hbG); have cG := (old_of HBG.out).1; clear hbG))
        | (go_at_call 17; go_must (refine (works_any _).mono ?_; rintro e wH ⟨rfl, hbH⟩; (try clear cG); have HBH := Lib.hid (bel HBG.out hbH); have cH := (old_of HBH.out).1; clear hbH)))
      go_ret
      exact ⟨rfl, fin HB.out (fin HB4.out HBH.out)⟩

end Go.Proofs.Ytbieglmpkljjjaa
