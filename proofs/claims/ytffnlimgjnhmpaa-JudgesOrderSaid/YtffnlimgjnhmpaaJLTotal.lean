/-
  JLTotal: JudgesTotal returns true.
-/
import Derived.Test.YtffnlimgjnhmpaaJLaw
import Derived.Test.YtffnlimgjnhmpaaJRefI
namespace Go.Proofs.Ytffnlimgjnhmpaa
open Go.RowKit

theorem copy_near (N : Nat) (v : Value) (S : JB) (w : World) (h : ShowAt N w v S) (h1 : S.np ≤ 40) (h2 : ∀ i, i < S.np → (S.pts i).length ≤ 40) :
    Calls Try.prog 34 #[v] w fun e w' => ∃ a c, e = .returned (.agg #[.int .i64 S.J, .int .i64 S.D, .int .i64 S.Z, .slice a S.np c]) ∧ ShowAt w'.heap.size w' (.agg #[.int .i64 S.J, .int .i64 S.D, .int .i64 S.Z, .slice a S.np c]) S ∧ Below w.heap.size w w' := by
  refine (copy_any N v S w h h1 h2).mono ?_
  rintro e w' ⟨v', rfl, ho, hb⟩
  have hs := ho.show (by omega) (fun i hi => by have := h2 i hi; omega)
  obtain ⟨a, c, rfl⟩ := hs.form
  exact ⟨a, c, rfl, hs, hb⟩

set_option maxHeartbeats 6400000 in
set_option maxRecDepth 100000 in
theorem ctotal_any (N : Nat) (v : Value) (S : JB) (a b : Int) (w : World) (h : ShowAt N w v S) :
    Calls Try.prog 9 #[v, .int .i64 a, .int .i64 b] w fun e w' => e = .returned (.bool true) ∧ Below w.heap.size w w' := by
  obtain ⟨a1, c1, rfl⟩ := h.form
  obtain ⟨ws, hws, HB, hsz, hblk⟩ := box1 w (.cells #[.int .i64 S.J, .int .i64 S.D, .int .i64 S.Z, .slice a1 S.np c1] 24)
  have q0 := cell_blk hblk 0 rfl
  have q1 := cell_blk hblk 1 rfl
  have q2 := cell_blk hblk 2 rfl
  have q3 := cell_blk hblk 3 rfl
  have HNZ : Hid (N ≤ w.heap.size) := h.1
  have HBK := Lib.hid (h.go HB.out)
  have HB0 : Hid (Below ws.heap.size ws ws) := Below.refl _ _
  have HNS : Hid (N ≤ ws.heap.size) := HBK.out.1
  have hlen := h.len
  clear hblk h
  cases hfar : farS S with
  | true =>
    have HFA := Lib.hid hfar
    clear hfar
    go_enter Try.func9, Try.ntmps9
    go_wp2_with (first
      | (go_at_call 42; refine (Far_any N _ S _ HBK.out).mono ?_; rw [HFA.out]; rintro e w1 ⟨rfl, hb1⟩; have HB1 : Hid (Below ws.heap.size ws w1) := hb1; clear hb1)
      | (go_at_call 13; refine (works_any _).mono ?_; rintro e w2 ⟨rfl, hb2⟩; have HB2 : Hid (Below ws.heap.size ws w2) := bel HB1.out hb2; clear hb2))
    go_ret
    exact ⟨rfl, fin HB.out HB2.out⟩
  | false =>
    have HFA := Lib.hid hfar
    have HNE := Lib.hid (farS_le hfar)
    obtain ⟨ec, hec⟩ : ∃ x, errS S = x := ⟨_, rfl⟩
    have HEC := Lib.hid hec
    obtain ⟨et, het⟩ : ∃ x, errA (okS S) (inN a S.np) = x := ⟨_, rfl⟩
    have HET := Lib.hid het
    obtain ⟨eb, heb⟩ : ∃ x, errA (okS S) (two S a b) = x := ⟨_, rfl⟩
    have HEB := Lib.hid heb
    obtain ⟨tl, htl⟩ : ∃ x : Int, sp et (loT S a.toNat) = x := ⟨_, rfl⟩
    obtain ⟨th, hth⟩ : ∃ x : Int, sp et (hiT S a.toNat) = x := ⟨_, rfl⟩
    obtain ⟨bv, hbv⟩ : ∃ x : Int, sp eb (kno S a.toNat b.toNat) = x := ⟨_, rfl⟩
    have HV := Lib.hid (And.intro htl (And.intro hth hbv))
    have heq : ∀ w, (Op.equalIn 10000 30 (.agg #[.int .i64 tl, .int .i64 th]) (.agg #[.int .i64 tl, .int .i64 th])).run Try.prog w = .ok true w := fun w => by rw [eqSpan]; simp
    clear hfar hec het heb htl hth hbv
    go_enter Try.func9, Try.ntmps9
    go_upto_region 4 with (first
      | (go_at_call 42; refine (Far_any N _ S _ HBK.out).mono ?_; rw [HFA.out]; rintro e w1 ⟨rfl, hb1⟩; have HB1 : Hid (Below ws.heap.size ws w1) := hb1; have r0 := (hb1.cell (p := ⟨w.heap.size, 0, none⟩) hsz).trans q0; have r1 := (hb1.cell (p := ⟨w.heap.size, 1, none⟩) hsz).trans q1; have r2 := (hb1.cell (p := ⟨w.heap.size, 2, none⟩) hsz).trans q2; have r3 := (hb1.cell (p := ⟨w.heap.size, 3, none⟩) hsz).trans q3; clear hb1)
      | (go_at_call 34; refine (copy_near N _ S _ (HBK.out.go HB1.out) HNE.out.1 HNE.out.2).mono ?_; rintro e w2 ⟨a2, c2, rfl, ho2, hb2⟩; have HO2 := Lib.hid ho2; have HB2 : Hid (Below ws.heap.size ws w2) := bel HB1.out hb2; clear hb2 ho2; obtain ⟨wo, hwo, HBo, hszo, hblko⟩ := box1 w2 (.cells #[.int .i64 0, .int .i64 0, .int .i64 0, .slice none 0 0] 24); have HZo := Lib.hid hblko; have z0 := cell_blk hblko 0 rfl; have z1 := cell_blk hblko 1 rfl; have z2 := cell_blk hblko 2 rfl; have z3 := cell_blk hblko 3 rfl; have f0 := free_blk hblko 0; have f1 := free_blk hblko 1; have f2 := free_blk hblko 2; have f3 := free_blk hblko 3; clear hblko))
    clear hws
    obtain ⟨w3, hw3, hz3, ho3, hb3⟩ := put4o HZo.out (.int .i64 S.J) (.int .i64 S.D) (.int .i64 S.Z) (.slice a2 S.np c2)
    rw [hw3]
    have hb23 : Below w2.heap.size w2 w3 := HBo.out.trans hb3
    have HB3 : Hid (Below ws.heap.size ws w3) := bel HB2.out hb23
    have HO3 := Lib.hid (HO2.out.go hb23)
    obtain ⟨O, hO⟩ : ∃ O, w2.heap.size = O := ⟨_, rfl⟩
    rw [hO] at hz3 HO3 ⊢
    have HZ3 := Lib.hid hz3
    have hol := heap_lt hz3
    have hwl : w.heap.size < w3.heap.size := Nat.lt_of_lt_of_le hsz HB3.out.size
    have HS3 := Lib.hid (HBK.out.go HB3.out)
    have HQ : Hid (∀ W, Below w3.heap.size w3 W → ((W.cell? ⟨w.heap.size, 0, none⟩ = some (.int .i64 S.J) ∧ W.cell? ⟨w.heap.size, 1, none⟩ = some (.int .i64 S.D) ∧ W.cell? ⟨w.heap.size, 2, none⟩ = some (.int .i64 S.Z) ∧ W.cell? ⟨w.heap.size, 3, none⟩ = some (.slice a1 S.np c1))) ∧ W.cell? ⟨O, 0, none⟩ = some (.int .i64 S.J) ∧ W.cell? ⟨O, 1, none⟩ = some (.int .i64 S.D) ∧ W.cell? ⟨O, 2, none⟩ = some (.int .i64 S.Z) ∧ W.cell? ⟨O, 3, none⟩ = some (.slice a2 S.np c2)) := fun W hW => by
      have hz := (hW.block O hol).trans HZ3.out
      have h1 : ∀ i, W.cell? ⟨w.heap.size, i, none⟩ = ws.cell? ⟨w.heap.size, i, none⟩ := fun i => (hW.cell (p := ⟨w.heap.size, i, none⟩) hwl).trans (HB3.out.cell (p := ⟨w.heap.size, i, none⟩) hsz)
      exact ⟨⟨(h1 0).trans q0, (h1 1).trans q1, (h1 2).trans q2, (h1 3).trans q3⟩, cell_blk hz 0 rfl, cell_blk hz 1 rfl, cell_blk hz 2 rfl, cell_blk hz 3 rfl⟩
    clear hwo hszo z0 z1 z2 z3 f0 f1 f2 f3 hw3 hz3 ho3 hb3 HZo HBo hb23 hO HO2 HB2 HB1
    have HC0 : Hid (Below w3.heap.size w3 w3) := Below.refl _ _
    obtain ⟨wd, hwd⟩ : ∃ wd, w3.drew = wd := ⟨_, rfl⟩
    have HCd : Hid (Below w3.heap.size w3 wd) := by rw [← hwd]; exact HC0.out.drew
    have hS0 := HQ.out wd HCd.out
    refine wp_region_held_drew (S := fun W => (((W.cell? ⟨w.heap.size, 0, none⟩ = some (.int .i64 S.J) ∧ W.cell? ⟨w.heap.size, 1, none⟩ = some (.int .i64 S.D) ∧ W.cell? ⟨w.heap.size, 2, none⟩ = some (.int .i64 S.Z) ∧ W.cell? ⟨w.heap.size, 3, none⟩ = some (.slice a1 S.np c1))) ∧ W.cell? ⟨O, 0, none⟩ = some (.int .i64 S.J) ∧ W.cell? ⟨O, 1, none⟩ = some (.int .i64 S.D) ∧ W.cell? ⟨O, 2, none⟩ = some (.int .i64 S.Z) ∧ W.cell? ⟨O, 3, none⟩ = some (.slice a2 S.np c2))) (by kernel_rfl) (by rw [hwd]; exact hS0) (fun hHeld => ?_)
    rw [hwd]
    clear hwd
    (refine wpAnyH_take (i := 0) (v := ?_) rfl (by kernel_rfl) (by kernel_rfl) (by kernel_rfl) (fun _ _ _ h => h) (Or.inl ⟨by rfl, ?_⟩) (by assumption) ?_; rotate_left; (focus (intro w hSw; (try dsimp only at hSw); go_simp; (try with_reducible rfl))); (try simp only [List.getElem_toArray, List.getElem_cons_zero, List.getElem_cons_succ, Act.put, List.setIfInBounds_toArray, List.set_cons_zero, List.set_cons_succ]))
    (refine wpAnyH_take (i := 2) (v := ?_) rfl (by kernel_rfl) (by kernel_rfl) (by kernel_rfl) (fun _ _ _ h => h) (Or.inl ⟨by rfl, ?_⟩) (by assumption) ?_; rotate_left; (focus (intro w hSw; (try dsimp only at hSw); go_simp; (try with_reducible rfl))); (try simp only [List.getElem_toArray, List.getElem_cons_zero, List.getElem_cons_succ, Act.put, List.setIfInBounds_toArray, List.set_cons_zero, List.set_cons_succ]))
    refine wpAnyH_ready (rs := [1]) (by kernel_rfl) (by simp) ?_; refine AllReadyH.cons rfl (fun K hK => ?_) AllReadyH.nil; go_simp
    go_at_call 43
    refine (kCheck_any O _ S _ (HO3.out.go HCd.out)).mono ?_
    rw [HEC.out]
    rintro e w4 ⟨rfl, hb4⟩
    have HC4 : Hid (Below w3.heap.size w3 w4) := bel HCd.out hb4
    have hS4 := HQ.out w4 HC4.out
    clear hb4 hS0
    refine hK.out _ _ hS4 (fun hHeld => ?_); clear hK K; (try simp only [List.getElem_toArray, List.getElem_cons_zero, List.getElem_cons_succ, Act.put, List.setIfInBounds_toArray, List.set_cons_zero, List.set_cons_succ])
    refine wpAnyH_ready (rs := [3]) (by kernel_rfl) (by simp) ?_; refine AllReadyH.cons rfl (fun K hK => ?_) AllReadyH.nil; go_simp
    go_at_call 44
    refine (rCheck_any N _ S _ (HS3.out.go HC4.out)).mono ?_
    rw [HEC.out]
    rintro e w5 ⟨rfl, hb5⟩
    have HC5 : Hid (Below w3.heap.size w3 w5) := bel HC4.out hb5
    have hS5 := HQ.out w5 HC5.out
    clear hb5 hS4
    refine hK.out _ _ hS5 (fun hHeld => ?_); clear hK K; (try simp only [List.getElem_toArray, List.getElem_cons_zero, List.getElem_cons_succ, Act.put, List.setIfInBounds_toArray, List.set_cons_zero, List.set_cons_succ])
    (refine wpAnyH_take (i := 4) (v := ?_) rfl (by kernel_rfl) (by kernel_rfl) (by kernel_rfl) (fun _ _ _ h => h) (Or.inl ⟨by rfl, ?_⟩) (by assumption) ?_; rotate_left; (focus (intro w hSw; (try dsimp only at hSw); go_simp; (try with_reducible rfl))); (try simp only [List.getElem_toArray, List.getElem_cons_zero, List.getElem_cons_succ, Act.put, List.setIfInBounds_toArray, List.set_cons_zero, List.set_cons_succ]))
    refine wpAnyH_done (by kernel_rfl) ?_ _; clear hHeld
    clear hS5
    (try clear r0 r1 r2 r3 o0 o1 o2 o3)
    obtain ⟨⟨r0, r1, r2, r3⟩, o0, o1, o2, o3⟩ := HQ.out w5 HC5.out
    go_upto_region 7 with (go_at_call 15; refine (kTotal_any O _ S a et _ (HO3.out.go HC5.out) HET.out).mono ?_; rw [HV.out.1, HV.out.2.1]; rintro e w6 ⟨rfl, hb6⟩; have HC6 : Hid (Below w3.heap.size w3 w6) := bel HC5.out hb6; clear hb6; (obtain ⟨wo, hwo, HBo, hszo, hblko⟩ := box1 w6 (.cells #[.int .i64 0, .int .i64 0] 30); have HZo := Lib.hid hblko; have z0 := cell_blk hblko 0 rfl; have z1 := cell_blk hblko 1 rfl; have f0 := free_blk hblko 0; have f1 := free_blk hblko 1; clear hblko))
    obtain ⟨w7, hw7, hz7, ho7, hb7⟩ := put2o HZo.out (.int .i64 tl) (.int .i64 th)
    rw [hw7]
    have hb67 : Below w6.heap.size w6 w7 := HBo.out.trans hb7
    have HC7 : Hid (Below w3.heap.size w3 w7) := bel HC6.out hb67
    obtain ⟨P, hP⟩ : ∃ P, w6.heap.size = P := ⟨_, rfl⟩
    rw [hP] at hz7 ⊢
    have HP7 := Lib.hid hz7
    clear hwo hszo z0 z1 f0 f1 hw7 hz7 ho7 hb7 HZo HBo hb67 hP
    (try clear r0 r1 r2 r3 o0 o1 o2 o3)
    obtain ⟨⟨r0, r1, r2, r3⟩, o0, o1, o2, o3⟩ := HQ.out w7 HC7.out
    go_upto_region 8 with (go_at_call 45; refine (rTotal_any N _ S a et _ (HS3.out.go HC7.out) HET.out).mono ?_; rw [HV.out.1, HV.out.2.1]; rintro e w8 ⟨rfl, hb8⟩; have HC8 : Hid (Below w3.heap.size w3 w8) := bel HC7.out hb8; have HP8 := Lib.hid ((hb8.block _ (heap_lt HP7.out)).trans HP7.out); clear hb8; (obtain ⟨wo, hwo, HBo, hszo, hblko⟩ := box1 w8 (.cells #[.int .i64 0, .int .i64 0] 30); have HZo := Lib.hid hblko; have z0 := cell_blk hblko 0 rfl; have z1 := cell_blk hblko 1 rfl; have f0 := free_blk hblko 0; have f1 := free_blk hblko 1; clear hblko))
    obtain ⟨w9, hw9, hz9, ho9, hb9⟩ := put2o HZo.out (.int .i64 tl) (.int .i64 th)
    rw [hw9]
    have hb89 : Below w8.heap.size w8 w9 := HBo.out.trans hb9
    have HC9 : Hid (Below w3.heap.size w3 w9) := bel HC8.out hb89
    have HP9 := Lib.hid ((hb89.block _ (heap_lt HP8.out)).trans HP8.out)
    obtain ⟨R, hR⟩ : ∃ R, w8.heap.size = R := ⟨_, rfl⟩
    rw [hR] at hz9 ⊢
    have HR9 := Lib.hid hz9
    clear hwo hszo z0 z1 f0 f1 hw9 hz9 ho9 hb9 HZo HBo hb89 hR
    (try clear r0 r1 r2 r3 o0 o1 o2 o3)
    obtain ⟨⟨r0, r1, r2, r3⟩, o0, o1, o2, o3⟩ := HQ.out w9 HC9.out
    go_upto_region 9 with (go_at_call 22; refine (kBetter_any O _ S a b eb _ (HO3.out.go HC9.out) HEB.out).mono ?_; rw [HV.out.2.2]; rintro e wA ⟨rfl, hbA⟩; have HCA : Hid (Below w3.heap.size w3 wA) := bel HC9.out hbA; have HPA := Lib.hid ((hbA.block _ (heap_lt HP9.out)).trans HP9.out); have HRA := Lib.hid ((hbA.block _ (heap_lt HR9.out)).trans HR9.out); clear hbA)
    (try clear r0 r1 r2 r3 o0 o1 o2 o3)
    obtain ⟨⟨r0, r1, r2, r3⟩, o0, o1, o2, o3⟩ := HQ.out wA HCA.out
    go_upto_region 10 with (go_at_call 46; refine (rBetter_any N _ S a b eb _ (HS3.out.go HCA.out) HEB.out).mono ?_; rw [HV.out.2.2]; rintro e wB ⟨rfl, hbB⟩; have HCB : Hid (Below w3.heap.size w3 wB) := bel HCA.out hbB; have HPB := Lib.hid ((hbB.block _ (heap_lt HPA.out)).trans HPA.out); have HRB := Lib.hid ((hbB.block _ (heap_lt HRA.out)).trans HRA.out); clear hbB)
    (try clear r0 r1 r2 r3 o0 o1 o2 o3)
    obtain ⟨⟨r0, r1, r2, r3⟩, o0, o1, o2, o3⟩ := HQ.out wB HCB.out
    have x0 := cell_blk HPB.out 0 rfl
    have x1 := cell_blk HPB.out 1 rfl
    have y0 := cell_blk HRB.out 0 rfl
    have y1 := cell_blk HRB.out 1 rfl
    go_wp2_with (first
      | (go_at_call 47; refine (same_any O N _ _ S _ (HO3.out.go HCB.out) (HS3.out.go HCB.out) HNE.out.1).mono ?_; rintro e wC ⟨rfl, hbC⟩; have HCC : Hid (Below w3.heap.size w3 wC) := bel HCB.out hbC; clear hbC)
      | (go_at_call 13; refine (works_any _).mono ?_; rintro e wD ⟨rfl, hbD⟩; have HCD : Hid (Below w3.heap.size w3 wD) := bel HCC.out hbD; clear hbD))
    go_ret
    exact ⟨rfl, fin HB.out (bel HB3.out (HCD.out))⟩

end Go.Proofs.Ytffnlimgjnhmpaa
