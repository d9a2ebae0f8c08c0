/-
  JWks: works.
-/
import Derived.Test.YtffnlimgjnhmpaaJWk
import Derived.Laws.StructEq
namespace Go.Proofs.Ytffnlimgjnhmpaa
open Go.RowKit

theorem eqSpan (a b c d : Int) (w : World) : (Op.equalIn 10000 30 (.agg #[.int .i64 a, .int .i64 b]) (.agg #[.int .i64 c, .int .i64 d])).run Try.prog w = .ok (decide (a = c) && decide (b = d)) w := by
  rw [show (10000 : Nat) = 9999 + 1 from rfl, run_equalIn_struct w 9999 30 _ _ (by kernel_rfl) (by kernel_rfl)]
  have e : (Try.prog.fieldsOf 30).toList = [{ name := "Low", embedded := false, type := 3, tag := "", pkgPath := "", offset := 0, byteOffset := 0 }, { name := "High", embedded := false, type := 3, tag := "", pkgPath := "", offset := 1, byteOffset := 8 }] := by kernel_rfl
  rw [e]
  go_simp
  by_cases h0 : a = c <;> by_cases h1 : b = d <;> simp [h0, h1]
theorem sameI_self (n : Nat) (x : Nat → Int) : sameI n x n x = true := by
  unfold sameI
  rw [Bool.and_eq_true, decide_eq_true_eq, allB_true]
  exact ⟨rfl, fun i _ => decide_eq_true rfl⟩
theorem same_lit (l : List Int) (k : Nat) (cs : Array Value) (w : World) (v : Value) (h : LI w.heap.size w v l) (hk : l.length = k) (hk4 : k ≤ 100) (hcs : cs = (l.map (Value.int .i64)).toArray) :
    Calls Try.prog 40 #[v, .slice (some ⟨w.heap.size, 0, none⟩) k k] (w.alloc (.cells cs 3)) fun e w' => e = .returned (.bool true) ∧ Below w.heap.size w w' := by
  subst hk
  subst hcs
  have h1 : LI (w.heap.size + 1) (w.alloc (.cells (l.map (Value.int .i64)).toArray 3)) v l := h.mono (below_alloc (Nat.le_refl _) _) (Nat.le_succ _)
  have h2 : LI (w.heap.size + 1) (w.alloc (.cells (l.map (Value.int .i64)).toArray 3)) (.slice (some ⟨w.heap.size, 0, none⟩) l.length l.length) l := by
    have hnew := World.alloc_heap_new w (.cells (l.map (Value.int .i64)).toArray 3)
    rcases Nat.eq_zero_or_pos l.length with h0 | h0
    · rw [List.length_eq_zero_iff.1 h0]; exact ⟨_, _, rfl, by simp, fun h => absurd h (Nat.lt_irrefl 0)⟩
    · have : RI 0 (w.alloc (.cells (l.map (Value.int .i64)).toArray 3)) (.slice (some ⟨w.heap.size, 0, none⟩) l.length l.length) l := .inr ⟨h0, w.heap.size, l.length, _, rfl, Nat.zero_le _, Nat.le_refl _, hnew, fun i hi => by
        rw [List.getElem?_toArray, List.getElem?_map, List.getElem?_eq_getElem hi, getD_at hi]; rfl⟩
      have := this.li (by omega)
      rwa [World.size_alloc] at this
  refine (sameInts_any _ _ _ _ _ _ _ _ h1 h2).mono ?_
  rintro e w' ⟨rfl, q, rfl⟩
  exact ⟨ret_bool (sameI_self _ _), below_drewN (below_alloc (Nat.le_refl _) _) q⟩

theorem placeJ (N : Nat) (v : Value) (w : World) (h : ShowAt N w v exJ) : Calls Try.prog 16 #[v, .int .i64 0] w fun e w' => e = .returned (.tuple #[.agg #[.int .i64 1, .int .i64 3], .int .i64 0]) ∧ Below w.heap.size w w' := by
  have h1 : sp 0 ((plLo exJ (0 : Int).toNat : Nat) : Int) = 1 := by decide +kernel
  have h2 : sp 0 ((plHi exJ (0 : Int).toNat : Nat) : Int) = 3 := by decide +kernel
  have := kPlace_any N v exJ 0 0 w h exJ_ok
  rwa [h1, h2] at this
theorem needsJ (N : Nat) (v : Value) (w : World) (h : ShowAt N w v exJ) : Calls Try.prog 31 #[v, .int .i64 2] w fun e w' => e = .returned (.tuple #[.int .i64 43, .int .i64 0]) ∧ Below w.heap.size w w' := by
  have h1 : sp 0 (ndV exJ (2 : Int).toNat) = 43 := by decide +kernel
  have := kNeeds_any N v exJ 2 0 w h (by decide +kernel)
  rwa [h1] at this
theorem rankK (N : Nat) (v : Value) (w : World) (h : ShowAt N w v exK) : Calls Try.prog 39 #[v] w fun e w' => ∃ u, e = .returned (.tuple #[u, .int .i64 0]) ∧ LI w'.heap.size w' u [1, 0, 2] ∧ Below w.heap.size w w' := by
  have := kRank_any N v exK 0 w h exK_ok
  rwa [spL_ok, exK_rnk] at this
theorem decideK (N : Nat) (v : Value) (w : World) (h : ShowAt N w v exK) : Calls Try.prog 32 #[v] w fun e w' => ∃ u, e = .returned (.tuple #[u, .int .i64 0]) ∧ LI w'.heap.size w' u [1, 2] ∧ Below w.heap.size w w' := by
  have := kDecide_any N v exK 0 w h exK_ok
  rwa [spL_ok, exK_dec] at this
theorem roomK (N : Nat) (v : Value) (w : World) (h : ShowAt N w v exK) : Calls Try.prog 38 #[v, .agg #[.int .i64 2, .int .i64 0]] w fun e w' => e = .returned (.tuple #[.agg #[.int .i64 0, .int .i64 16], .int .i64 0]) ∧ Below w.heap.size w w' := by
  have h1 : sp 0 (room exK (2 : Int).toNat (0 : Int).toNat 21).1 = 0 := by decide +kernel
  have h2 : sp 0 (room exK (2 : Int).toNat (0 : Int).toNat 21).2 = 16 := by decide +kernel
  have := kRoom_any N v exK 2 0 0 w h exK_okm
  rwa [h1, h2] at this

set_option maxHeartbeats 6400000 in
set_option maxRecDepth 100000 in
theorem works_any (w : World) : Calls Try.prog 13 #[] w fun e w' => e = .returned (.bool true) ∧ Below w.heap.size w w' := by
  have heq1 : ∀ w, (Op.equalIn 10000 30 (.agg #[.int .i64 1, .int .i64 3]) (.agg #[.int .i64 1, .int .i64 3])).run Try.prog w = .ok true w := fun w => by rw [eqSpan]; rfl
  have heq2 : ∀ w, (Op.equalIn 10000 30 (.agg #[.int .i64 0, .int .i64 16]) (.agg #[.int .i64 0, .int .i64 16])).run Try.prog w = .ok true w := fun w => by rw [eqSpan]; rfl
  go_enter Try.func13, Try.ntmps13
  go_upto_region 2 with (go_at_call 54; refine (example_any _).mono ?_; rintro e w1 ⟨u, v, rfl, hj, hk, hb1⟩; obtain ⟨aj, cj, rfl⟩ := hj.form; obtain ⟨ak, ck, rfl⟩ := hk.form; have HJ1 := Lib.hid hj; have HK1 := Lib.hid hk; have HB1 := Lib.hid hb1; obtain ⟨wo, hwo, HBo, hszo, hszo1, hbj, hbk⟩ := box2 w1 (.cells #[.int .i64 0, .int .i64 0, .int .i64 0, .slice none 0 0] 24) (.cells #[.int .i64 0, .int .i64 0, .int .i64 0, .slice none 0 0] 24); have HZj := Lib.hid hbj; have HZk := Lib.hid hbk; have z0 := cell_blk hbj 0 rfl; have z1 := cell_blk hbj 1 rfl; have z2 := cell_blk hbj 2 rfl; have z3 := cell_blk hbj 3 rfl; have f0 := free_blk hbj 0; have f1 := free_blk hbj 1; have f2 := free_blk hbj 2; have f3 := free_blk hbj 3; have y0 := cell_blk hbk 0 rfl; have y1 := cell_blk hbk 1 rfl; have y2 := cell_blk hbk 2 rfl; have y3 := cell_blk hbk 3 rfl; have g0 := free_blk hbk 0; have g1 := free_blk hbk 1; have g2 := free_blk hbk 2; have g3 := free_blk hbk 3; clear hj hk hb1 hbj hbk)
  obtain ⟨wp, hwp, hzp, hop, hbp⟩ := put4o HZj.out (.int .i64 exJ.J) (.int .i64 exJ.D) (.int .i64 exJ.Z) (.slice aj exJ.np cj)
  rw [hwp]
  obtain ⟨w2, hw2, hz2, ho2, hb2⟩ := put4o ((hop _ (show w1.heap.size + 1 ≠ w1.heap.size by omega)).trans HZk.out) (.int .i64 exK.J) (.int .i64 exK.D) (.int .i64 exK.Z) (.slice ak exK.np ck)
  rw [hw2]
  have hb12 : Below w1.heap.size w1 w2 := HBo.out.trans (hbp.trans (hb2.mono (Nat.le_succ _)))
  have HJ2 := Lib.hid (HJ1.out.go hb12)
  have HK2 := Lib.hid (HK1.out.go hb12)
  have HB2 : Hid (Below w.heap.size w w2) := HB1.out.trans (hb12.mono HB1.out.size)
  have hzj := (ho2 w1.heap.size (by omega)).trans hzp
  have hl0 := heap_lt hzj
  have hl1 := heap_lt hz2
  obtain ⟨B, hB⟩ : ∃ B, w1.heap.size = B := ⟨_, rfl⟩
  rw [hB] at hzj hz2 hl0 hl1 HJ2 HK2 ⊢
  have HZJ := Lib.hid hzj
  have HZK := Lib.hid hz2
  have HQJ : Hid (∀ W, Below w2.heap.size w2 W → W.cell? ⟨B, 0, none⟩ = some (.int .i64 exJ.J) ∧ W.cell? ⟨B, 1, none⟩ = some (.int .i64 exJ.D) ∧ W.cell? ⟨B, 2, none⟩ = some (.int .i64 exJ.Z) ∧ W.cell? ⟨B, 3, none⟩ = some (.slice aj exJ.np cj)) := fun W hW => by
    have hz := (hW.block B hl0).trans HZJ.out
    exact ⟨cell_blk hz 0 rfl, cell_blk hz 1 rfl, cell_blk hz 2 rfl, cell_blk hz 3 rfl⟩
  have HQK : Hid (∀ W, Below w2.heap.size w2 W → W.cell? ⟨B + 1, 0, none⟩ = some (.int .i64 exK.J) ∧ W.cell? ⟨B + 1, 1, none⟩ = some (.int .i64 exK.D) ∧ W.cell? ⟨B + 1, 2, none⟩ = some (.int .i64 exK.Z) ∧ W.cell? ⟨B + 1, 3, none⟩ = some (.slice ak exK.np ck)) := fun W hW => by
    have hz := (hW.block (B + 1) hl1).trans HZK.out
    exact ⟨cell_blk hz 0 rfl, cell_blk hz 1 rfl, cell_blk hz 2 rfl, cell_blk hz 3 rfl⟩
  clear hwo hszo hszo1 z0 z1 z2 z3 f0 f1 f2 f3 y0 y1 y2 y3 g0 g1 g2 g3 hwp hzp hop hbp hw2 hz2 ho2 hb2 hb12 hzj hB HZj HZk HBo HJ1 HK1 HB1
  have HB0 : Hid (Below w2.heap.size w2 w2) := Below.refl _ _
  obtain ⟨r0, r1, r2, r3⟩ := HQJ.out w2 HB0.out
  go_upto_region 3 with (go_at_call 16; refine (placeJ B _ _ (HJ2.out)).mono ?_; rintro e w3 ⟨rfl, hb3⟩; have HB3 := Lib.hid hb3; clear hb3; (obtain ⟨wo, hwo, HBo, hszo, hblko⟩ := box1 w3 (.cells #[.int .i64 0, .int .i64 0] 30); have HZo := Lib.hid hblko; have z0 := cell_blk hblko 0 rfl; have z1 := cell_blk hblko 1 rfl; have f0 := free_blk hblko 0; have f1 := free_blk hblko 1; clear hblko))
  obtain ⟨w4, hw4, hz4, ho4, hb4⟩ := put2o HZo.out (.int .i64 1) (.int .i64 3)
  rw [hw4]
  have HB4 : Hid (Below w2.heap.size w2 w4) := HB3.out.trans ((HBo.out.trans hb4).mono HB3.out.size)
  obtain ⟨P, hP⟩ : ∃ P, w3.heap.size = P := ⟨_, rfl⟩
  rw [hP] at hz4 ⊢
  have HP4 := Lib.hid hz4
  clear hwo hszo z0 z1 f0 f1 hw4 hz4 ho4 hb4 HZo HBo HB3 hP r0 r1 r2 r3
  obtain ⟨r0, r1, r2, r3⟩ := HQJ.out w4 HB4.out
  go_upto_region 4 with (go_at_call 31; refine (needsJ B _ _ (HJ2.out.go HB4.out)).mono ?_; rintro e w5 ⟨rfl, hb5⟩; have HB5 : Hid (Below w2.heap.size w2 w5) := bel HB4.out hb5; have HP5 := Lib.hid ((hb5.block _ (heap_lt HP4.out)).trans HP4.out); clear hb5)
  clear r0 r1 r2 r3
  obtain ⟨s0, s1, s2, s3⟩ := HQK.out w5 HB5.out
  go_upto_region 5 with (go_at_call 39; refine (rankK B _ _ (HK2.out.go HB5.out)).mono ?_; rintro e w6 ⟨ur, rfl, hl6, hb6⟩; obtain ⟨ar, cr, rfl⟩ := hl6.form; have HB6 : Hid (Below w2.heap.size w2 w6) := bel HB5.out hb6; have HP6 := Lib.hid ((hb6.block _ (heap_lt HP5.out)).trans HP5.out); have HL6 := Lib.hid hl6; clear hb6 hl6)
  clear s0 s1 s2 s3
  obtain ⟨s0, s1, s2, s3⟩ := HQK.out w6 HB6.out
  go_upto_region 6 with (go_at_call 38; refine (roomK B _ _ (HK2.out.go HB6.out)).mono ?_; rintro e w7 ⟨rfl, hb7⟩; have HB7 : Hid (Below w2.heap.size w2 w7) := bel HB6.out hb7; have HP7 := Lib.hid ((hb7.block _ (heap_lt HP6.out)).trans HP6.out); have HL7 := Lib.hid (HL6.out.mono hb7 hb7.size); clear hb7; (obtain ⟨wo, hwo, HBo, hszo, hblko⟩ := box1 w7 (.cells #[.int .i64 0, .int .i64 0] 30); have HZo := Lib.hid hblko; have z0 := cell_blk hblko 0 rfl; have z1 := cell_blk hblko 1 rfl; have f0 := free_blk hblko 0; have f1 := free_blk hblko 1; clear hblko))
  obtain ⟨w8, hw8, hz8, ho8, hb8⟩ := put2o HZo.out (.int .i64 0) (.int .i64 16)
  rw [hw8]
  have hb78 : Below w7.heap.size w7 w8 := HBo.out.trans hb8
  have HB8 : Hid (Below w2.heap.size w2 w8) := bel HB7.out hb78
  have HP8 := Lib.hid ((hb78.block _ (heap_lt HP7.out)).trans HP7.out)
  have HL8 := Lib.hid (HL7.out.mono hb78 hb78.size)
  obtain ⟨R, hR⟩ : ∃ R, w7.heap.size = R := ⟨_, rfl⟩
  rw [hR] at hz8 ⊢
  have HR8 := Lib.hid hz8
  clear hwo hszo z0 z1 f0 f1 hw8 hz8 ho8 hb8 HZo HBo hb78 hR s0 s1 s2 s3
  obtain ⟨s0, s1, s2, s3⟩ := HQK.out w8 HB8.out
  go_upto_region 7 with (go_at_call 32; refine (decideK B _ _ (HK2.out.go HB8.out)).mono ?_; rintro e w9 ⟨ud, rfl, hl9, hb9⟩; obtain ⟨ad, cd, rfl⟩ := hl9.form; have HB9 : Hid (Below w2.heap.size w2 w9) := bel HB8.out hb9; have HP9 := Lib.hid ((hb9.block _ (heap_lt HP8.out)).trans HP8.out); have HR9 := Lib.hid ((hb9.block _ (heap_lt HR8.out)).trans HR8.out); have HLr := Lib.hid (HL8.out.mono hb9 hb9.size); have HLd := Lib.hid hl9; clear hb9 hl9)
  have p0 := cell_blk HP9.out 0 rfl
  have p1 := cell_blk HP9.out 1 rfl
  clear s0 s1 s2 s3
  have hRl := heap_lt HR9.out
  go_wp2_with (first
    | (go_at_call 40; have hx := HLr; clear HLr; refine (same_lit [1, 0, 2] 3 _ w9 _ hx.out rfl (by decide) rfl).mono ?_; rintro e wA ⟨rfl, hbA⟩; have HBA : Hid (Below w2.heap.size w2 wA) := bel HB9.out hbA; have HRA := (hbA.block _ hRl).trans HR9.out; have c0 := cell_blk HRA 0 rfl; have c1 := cell_blk HRA 1 rfl; have HLe := Lib.hid (HLd.out.mono hbA hbA.size); clear hbA)
    | (go_at_call 40; have hx := HLe; clear HLe; refine (same_lit [1, 2] 2 _ wA _ hx.out rfl (by decide) rfl).mono ?_; rintro e wB ⟨rfl, hbB⟩; have HBB : Hid (Below w2.heap.size w2 wB) := bel HBA.out hbB; clear hbB))
  go_ret
  exact ⟨rfl, fin HB2.out HBB.out⟩

end Go.Proofs.Ytffnlimgjnhmpaa
