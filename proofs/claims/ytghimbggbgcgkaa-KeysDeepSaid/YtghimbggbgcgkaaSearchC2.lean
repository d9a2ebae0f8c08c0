/-
  SearchC2: least of the search over cubes.
-/
import Derived.Test.YtghimbggbgcgkaaSearchC
namespace Go.Proofs.Ytghimbggbgcgkaa
open Go.RowKit Go.Maps

theorem grownB {w w' : World} {b : Nat} (h : Below w.heap.size w w') : w.grownBy w' (some b) := grown_of_below h

set_option maxRecDepth 100000 in
set_option maxHeartbeats 1600000 in
theorem leastC_hit (B : KB) (hG : GoodB B) (bk b : Nat) (D : DataW Unit) (c : Nat → Int) (n : Nat) (w : World) (hc : CubeOk B c) (ho : w.ownsMap Try.prog 94 (plainElem Try.prog 3) b n D) (hh : has D (cubeKey c) = true) (hD : D.atKey (cubeKey c) (.lit (.int .i64 0)) = .lit (.int .i64 (costK5 B c))) :
    Calls Try.prog 78 #[seaC B.nv bk b, cubeV c] w fun e w' => e = .returned (.int .i64 (costK5 B c)) ∧ Below w.heap.size w w' := by
  have hkey := cubeKey_of (hc.small hG)
  obtain ⟨ws, hws, HB, hsz, hsz1, k0, k1⟩ := box2 w (.cells #[.int .i64 B.nv, .func (.func 112) #[] #[.pointer (some ⟨bk, 0, none⟩)], .func (.func 114) #[] #[.pointer (some ⟨bk, 0, none⟩)], .func (.func 116) #[] #[], .map (some b)] 90) (.cells #[.int .i64 (c 0), .int .i64 (c 1), .int .i64 (c 2), .int .i64 (c 3), .int .i64 (c 4)] 94)
  have hob : ws.ownsMap Try.prog 94 (plainElem Try.prog 3) b n D := ho.kept (row := none) ⟨HB.out.os, HB.out.tape, HB.out.output, HB.out.size, fun k hk _ => HB.out.block k hk⟩ (by simp)
  have s4 := cell_blk k0 4 rfl
  have q0 := cell_blk k1 0 rfl
  have q1 := cell_blk k1 1 rfl
  have q2 := cell_blk k1 2 rfl
  have q3 := cell_blk k1 3 rfl
  have q4 := cell_blk k1 4 rfl
  clear k0 k1
  unfold cubeV at hkey ⊢
  unfold seaC
  go_enter Try.func78, Try.ntmps78
  go_wp2_with (at_lookup; (try rw [hws]); refine wpList_lookup_own_ok_int _ rfl _ _ 88 rfl 94 3 .i64 lawCube Try.underlying88 Try.underlying3 (zeroInt _) b n D rfl hob _ _ rfl hkey ?_; intro x hat hwc; rw [hh])
  go_ret
  refine ⟨?_, HB.out⟩
  have h9 := hD.symm.trans hat
  injection h9 with h9
  injection h9 with _ h9
  rw [h9]; rfl

set_option maxRecDepth 100000 in
set_option maxHeartbeats 1600000 in
theorem leastC_one (B : KB) (hG : GoodB B) (hns : B.ns ≤ 7) (bk b N : Nat) (D : DataW Unit) (c : Nat → Int) (n : Nat) (w : World) (hc : CubeOk B c) (hn : n ≤ 1000000000000) (henv : SEnv B bk b N w) (ho : w.ownsMap Try.prog 94 (plainElem Try.prog 3) b n D) (hh : has D (cubeKey c) = false) (h1 : sameZ B (cubeF B c) = true) (hD : ∀ c, CubeOk B c → has D (cubeKey c) = true → D.atKey (cubeKey c) (.lit (.int .i64 0)) = .lit (.int .i64 (costK5 B c))) :
    Calls Try.prog 78 #[seaC B.nv bk b, cubeV c] w fun e w' => e = .returned (.int .i64 (costK5 B c)) ∧ FoundC B b (n + 1) w' ∧ w.grownBy w' (some b) := by
  have hkey := cubeKey_of (hc.small hG)
  have hc0 := costK5_one h1
  have HP := Lib.hid (put_foundC hG ho.isMap hc hD)
  have HW := Lib.hid (costK5_wf hG c)
  rw [hc0] at HW HP
  rw [hc0]
  obtain ⟨ws, hws, HB, hsz, hsz1, k0, k1⟩ := box2 w (.cells #[.int .i64 B.nv, .func (.func 112) #[] #[.pointer (some ⟨bk, 0, none⟩)], .func (.func 114) #[] #[.pointer (some ⟨bk, 0, none⟩)], .func (.func 116) #[] #[], .map (some b)] 90) (.cells #[.int .i64 (c 0), .int .i64 (c 1), .int .i64 (c 2), .int .i64 (c 3), .int .i64 (c 4)] 94)
  have hgb : w.grownBy ws (some b) := grown_of_below HB.out
  have hob : ws.ownsMap Try.prog 94 (plainElem Try.prog 3) b n D := ho.kept (row := none) ⟨HB.out.os, HB.out.tape, HB.out.output, HB.out.size, fun k hk _ => HB.out.block k hk⟩ (by simp)
  obtain ⟨a1, z1, a2, z2, a3, z3, hbk, hbook⟩ := (henv.go hgb).book
  have HDN := Lib.hid (doneC_any N bk B a1 a2 a3 z1 z2 z3 c ws hbk hbook hG hc hns)
  have s1 := cell_blk k0 1 rfl
  have s4 := cell_blk k0 4 rfl
  have q0 := cell_blk k1 0 rfl
  have q1 := cell_blk k1 1 rfl
  have q2 := cell_blk k1 2 rfl
  have q3 := cell_blk k1 3 rfl
  have q4 := cell_blk k1 4 rfl
  have HH1 := Lib.hid h1
  clear k0 k1 hbk hbook henv h1
  unfold cubeV at hkey HDN ⊢
  unfold seaC
  go_enter Try.func78, Try.ntmps78
  go_wp2_with (first
    | (at_lookup; (try rw [hws]); refine wpList_lookup_own_ok_int _ rfl _ _ 88 rfl 94 3 .i64 lawCube Try.underlying88 Try.underlying3 (zeroInt _) b n D rfl hob _ _ rfl hkey ?_; intro x hat hwc; rw [hh])
    | (go_at_call 112; refine HDN.out.mono ?_; rw [HH1.out]; rintro e w1 ⟨rfl, hb1⟩; have HB1 := Lib.hid hb1; have c1 := (old_of HB1.out).1; have hob1 : w1.ownsMap Try.prog 94 (plainElem Try.prog 3) b n D := hob.kept (row := none) ⟨HB1.out.os, HB1.out.tape, HB1.out.output, HB1.out.size, fun k hk _ => HB1.out.block k hk⟩ (by simp); clear hb1)
    | (at_mapUpdate; refine wpList_mapUpdate_in _ rfl _ _ _ 88 rfl 94 3 lawCube Try.underlying88 _ b n D rfl hob1 (by unfold maxLen; omega) _ _ _ rfl rfl hkey _ [] (plainElem_int Try.underlying3 HW.out) ?_; intro w2 hown2 hturn))
  go_ret
  exact ⟨rfl, ⟨_, hown2, HP.out⟩, grown_trans hgb (grown_trans (grown_of_below HB1.out) hturn.grown)⟩

set_option maxRecDepth 100000 in
set_option maxHeartbeats 1600000 in
theorem leastC_big (B : KB) (hG : GoodB B) (hns : B.ns ≤ 7) (bk b N f : Nat) (hq : SaysQC B bk b N f) (D : DataW Unit) (c : Nat → Int) (n : Nat) (w : World) (hc : CubeOk B c) (hn : n + 15 * 16 ^ f + 1 ≤ 1000000000000) (henv : SEnv B bk b N w) (ho : w.ownsMap Try.prog 94 (plainElem Try.prog 3) b n D) (hh : has D (cubeKey c) = false) (h1 : sameZ B (cubeF B c) = false) (hf : freeC B c ≤ f + 1) (hD : ∀ c, CubeOk B c → has D (cubeKey c) = true → D.atKey (cubeKey c) (.lit (.int .i64 0)) = .lit (.int .i64 (costK5 B c))) :
    Calls Try.prog 78 #[seaC B.nv bk b, cubeV c] w fun e w' => e = .returned (.int .i64 (costK5 B c)) ∧ FoundC B b (n + 15 * 16 ^ f + 1) w' ∧ w.grownBy w' (some b) := by
  have hkey := cubeKey_of (hc.small hG)
  have HW := Lib.hid (costK5_wf hG c)
  obtain ⟨ws, hws, HB, hsz, hsz1, k0, k1⟩ := box2 w (.cells #[.int .i64 B.nv, .func (.func 112) #[] #[.pointer (some ⟨bk, 0, none⟩)], .func (.func 114) #[] #[.pointer (some ⟨bk, 0, none⟩)], .func (.func 116) #[] #[], .map (some b)] 90) (.cells #[.int .i64 (c 0), .int .i64 (c 1), .int .i64 (c 2), .int .i64 (c 3), .int .i64 (c 4)] 94)
  have hgb : w.grownBy ws (some b) := grown_of_below HB.out
  have hob : ws.ownsMap Try.prog 94 (plainElem Try.prog 3) b n D := ho.kept (row := none) ⟨HB.out.os, HB.out.tape, HB.out.output, HB.out.size, fun k hk _ => HB.out.block k hk⟩ (by simp)
  have hbw : b < w.heap.size := ho.lt
  obtain ⟨a1, z1, a2, z2, a3, z3, hbk, hbook⟩ := (henv.go hgb).book
  have HDN := Lib.hid (doneC_any N bk B a1 a2 a3 z1 z2 z3 c ws hbk hbook hG hc hns)
  have HQA : Hid (∀ w1, Below ws.heap.size ws w1 → Calls Try.prog 117 #[seaC B.nv bk b, cubeV c] w1 fun e w' => ∃ mk k, e = .returned (.tuple #[.int .i64 mk, .int .i64 k]) ∧ AskC B c B.nv mk k ∧ FoundC B b (n + 15 * 16 ^ f) w' ∧ w1.grownBy w' (some b)) := fun w1 hb1 =>
    hq c n w1 hc h1 hf ((henv.go hgb).go (grown_of_below hb1)) (FoundC.below (B := B) (b := b) (n := n) ⟨D, hob, hD⟩ hb1) (by omega)
  have s0 := cell_blk k0 0 rfl
  have s1 := cell_blk k0 1 rfl
  have s2 := cell_blk k0 2 rfl
  have s3 := cell_blk k0 3 rfl
  have s4 := cell_blk k0 4 rfl
  have q0 := cell_blk k1 0 rfl
  have q1 := cell_blk k1 1 rfl
  have q2 := cell_blk k1 2 rfl
  have q3 := cell_blk k1 3 rfl
  have q4 := cell_blk k1 4 rfl
  have K0 := Lib.hid k0
  have K1 := Lib.hid k1
  have HH1 := Lib.hid h1
  have HG := Lib.hid hG
  have HC := Lib.hid hc
  have hb2 : w.heap.size ≠ b := by omega
  have hb3 : w.heap.size + 1 ≠ b := by omega
  clear k0 k1 hbk hbook henv h1 hq ho
  unfold cubeV at hkey HDN HQA ⊢
  unfold seaC at HQA ⊢
  go_enter Try.func78, Try.ntmps78
  go_wp2_with (first
    | (at_lookup; (try rw [hws]); refine wpList_lookup_own_ok_int _ rfl _ _ 88 rfl 94 3 .i64 lawCube Try.underlying88 Try.underlying3 (zeroInt _) b n D rfl hob _ _ rfl hkey ?_; intro x hat hwc; rw [hh])
    | (go_at_call 112; refine HDN.out.mono ?_; rw [HH1.out]; rintro e w1 ⟨rfl, hb1⟩; have HB1 := Lib.hid hb1; have c1 := (old_of HB1.out).1; clear hb1)
    | (go_at_call 117; refine (HQA.out _ HB1.out).mono ?_; rintro e w2 ⟨mk, c2, rfl, hask, ⟨D2, hown2, hD2⟩, hg2⟩; obtain rfl : c2 = costK5 B c := hask.found HG.out.nv HH1.out; clear c1; have t4 := (World.cell?_of_block (a := ⟨w.heap.size, 4, none⟩) ((hg2.block w.heap.size (Nat.lt_of_lt_of_le hsz HB1.out.size) (by simpa using hb2)).trans (HB1.out.block _ hsz))).trans s4; have r0 := (World.cell?_of_block (a := ⟨w.heap.size + 1, 0, none⟩) ((hg2.block (w.heap.size + 1) (Nat.lt_of_lt_of_le hsz1 HB1.out.size) (by simpa using hb3)).trans (HB1.out.block _ hsz1))).trans q0; have r1 := (World.cell?_of_block (a := ⟨w.heap.size + 1, 1, none⟩) ((hg2.block (w.heap.size + 1) (Nat.lt_of_lt_of_le hsz1 HB1.out.size) (by simpa using hb3)).trans (HB1.out.block _ hsz1))).trans q1; have r2 := (World.cell?_of_block (a := ⟨w.heap.size + 1, 2, none⟩) ((hg2.block (w.heap.size + 1) (Nat.lt_of_lt_of_le hsz1 HB1.out.size) (by simpa using hb3)).trans (HB1.out.block _ hsz1))).trans q2; have r3 := (World.cell?_of_block (a := ⟨w.heap.size + 1, 3, none⟩) ((hg2.block (w.heap.size + 1) (Nat.lt_of_lt_of_le hsz1 HB1.out.size) (by simpa using hb3)).trans (HB1.out.block _ hsz1))).trans q3; have r4 := (World.cell?_of_block (a := ⟨w.heap.size + 1, 4, none⟩) ((hg2.block (w.heap.size + 1) (Nat.lt_of_lt_of_le hsz1 HB1.out.size) (by simpa using hb3)).trans (HB1.out.block _ hsz1))).trans q4; have HP := Lib.hid (put_foundC HG.out hown2.isMap HC.out hD2); skip)
    | (at_mapUpdate; refine wpList_mapUpdate_in _ rfl _ _ _ 88 rfl 94 3 lawCube Try.underlying88 _ b _ D2 rfl hown2 (by unfold maxLen; omega) _ _ _ rfl rfl hkey _ [] (plainElem_int Try.underlying3 HW.out) ?_; intro w3 hown3 hturn))
  go_ret
  exact ⟨rfl, ⟨_, hown3, HP.out⟩, grown_trans hgb (grown_trans (grown_of_below HB1.out) (grown_trans hg2 hturn.grown))⟩

end Go.Proofs.Ytghimbggbgcgkaa
