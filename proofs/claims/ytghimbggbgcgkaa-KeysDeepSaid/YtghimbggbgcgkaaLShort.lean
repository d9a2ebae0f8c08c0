/-
  LShort: KeysShort for every book and two sorts.
-/
import Derived.Test.YtghimbggbgcgkaaLRight
import Derived.Test.YtghimbggbgcgkaaKShort
import Derived.Test.YtghimbggbgcgkaaFew3
import Derived.Test.YtghimbggbgcgkaaFew4
namespace Go.Proofs.Ytghimbggbgcgkaa
open Go.RowKit

theorem near_ns {B : KB} (h : farB B = false) (hk : okKB B = true) : B.ns ≤ 7 := by
  unfold farB at h
  rw [hk] at h
  simp at h
  omega
theorem eNeed_len (B : KB) : (eNeed B).1.length ≤ 140737488351232 := by
  unfold eNeed
  split
  · have : (elems (needF (pairsL B B.ns))).length ≤ 8 := sel_len _ _
    simp only; omega
  · simp
theorem eApart_len (B : KB) (hn : Near B) (s t : Int) : (eApart B s t).1.length ≤ 140737488351232 := by
  unfold eApart
  split
  · split
    · have := sel_len (apP B s.toNat t.toNat) B.nv; have := hn.nv; simp only; omega
    · simp
  · simp

set_option maxHeartbeats 4000000 in
set_option maxRecDepth 100000 in
theorem cshort_any (N : Nat) (v : Value) (B : KB) (s t : Int) (w : World) (h : BookAt N w v B) :
    Calls Try.prog 11 #[v, .int .i64 s, .int .i64 t] w fun e w' => e = .returned (.bool true) ∧ Below w.heap.size w w' := by
  have h' := h
  obtain ⟨_, a1, z1, a2, z2, a3, z3, rfl, _⟩ := h'
  obtain ⟨ws, hws, HB, hsz, hblk⟩ := box1 w (.cells #[.slice a1 B.nv z1, .slice a2 B.ns z2, .slice a3 B.D.n z3] 26)
  have q0 := cell_blk hblk 0 rfl
  have q1 := cell_blk hblk 1 rfl
  have q2 := cell_blk hblk 2 rfl
  have HBK := Lib.hid (h.go HB.out)
  have HB0 : Hid (Below ws.heap.size ws ws) := Below.refl _ _
  have HNS : Hid (N ≤ ws.heap.size) := HBK.out.1
  have hlens := h.lens
  obtain ⟨hlv, hls, hln⟩ := hlens
  clear hblk h
  cases hfar : farB B with
  | true =>
    have HFA := Lib.hid hfar
    clear hfar
    go_enter Try.func11, Try.ntmps11
    go_wp2_with (first
      | (go_at_call 45; refine (Far_any N _ B _ (HBK.out.go HB0.out)).mono ?_; rintro e w1 ⟨rfl, hb1⟩; rw [HFA.out]; (try clear c0); have HB1 := Lib.hid (bel HB0.out hb1); have c1 := (old_of HB1.out).1; clear hb1)
      | (go_at_call 17; refine (works_any _).mono ?_; rintro e w2 ⟨rfl, hb2⟩; (try clear c1); have HB2 := Lib.hid (bel HB1.out hb2); have c2 := (old_of HB2.out).1; clear hb2))
    go_ret
    exact ⟨rfl, fin HB.out HB2.out⟩
  | false =>
    have HFA := Lib.hid hfar
    have HNS7 : Hid (okKB B = true → B.ns ≤ 7) := fun hk => near_ns hfar hk
    have HNE := Lib.hid (near_of hfar)
    have HLN := Lib.hid (eNeed_len B)
    have HLA := Lib.hid (eApart_len B HNE.out s t)
    have HSN : Hid (sameI (eNeed B).1.length (fun i => (eNeed B).1.getD i 0) (eNeed B).1.length (fun i => (eNeed B).1.getD i 0) = true) := sameI_self _ _
    have HSA : Hid (sameI (eApart B s t).1.length (fun i => (eApart B s t).1.getD i 0) (eApart B s t).1.length (fun i => (eApart B s t).1.getD i 0) = true) := sameI_self _ _
    obtain ⟨e1, he1⟩ : ∃ x, (eShort B).1 = x := ⟨_, rfl⟩
    obtain ⟨e2, he2⟩ : ∃ x, (eShort B).2 = x := ⟨_, rfl⟩
    obtain ⟨f1, hf1⟩ : ∃ x, (eFew B).1 = x := ⟨_, rfl⟩
    obtain ⟨f2, hf2⟩ : ∃ x, (eFew B).2 = x := ⟨_, rfl⟩
    obtain ⟨n2, hn2⟩ : ∃ x, (eNeed B).2 = x := ⟨_, rfl⟩
    obtain ⟨p2, hp2⟩ : ∃ x, (eApart B s t).2 = x := ⟨_, rfl⟩
    have HE1 := Lib.hid he1
    have HE2 := Lib.hid he2
    have HF1 := Lib.hid hf1
    have HF2 := Lib.hid hf2
    have HN2 := Lib.hid hn2
    have HA2 := Lib.hid hp2
    clear hfar he1 he2 hf1 hf2 hn2 hp2
    go_enter Try.func11, Try.ntmps11
    go_wp2_with (first
      | (go_at_call 45; refine (Far_any N _ B _ (HBK.out.go HB0.out)).mono ?_; rintro e w1 ⟨rfl, hb1⟩; rw [HFA.out]; (try clear c0); have HB1 := Lib.hid (bel HB0.out hb1); have c1 := (old_of HB1.out).1; clear hb1)
      | (go_at_call 28; refine (copy_near N _ B _ (HBK.out.go HB1.out) HNE.out).mono ?_; rintro e w2 ⟨b1, d1, b2, d2, b3, d3, rfl, how2, hbk2, hb2⟩; clear how2; have HBK2 := Lib.hid hbk2; clear hbk2; (try clear c1); have HB2 := Lib.hid (bel HB1.out hb2); have c2 := (old_of HB2.out).1; clear hb2; obtain ⟨w3, hw3, HB3, hsz3, hblk3⟩ := box1 w2 (.cells #[.slice b1 B.nv d1, .slice b2 B.ns d2, .slice b3 B.D.n d3] 26); have HBG := Lib.hid ((HBK2.out.go HB3.out).raise HB3.out.size (Nat.le_refl _)); have x0 := cell_blk hblk3 0 rfl; have x1 := cell_blk hblk3 1 rfl; have x2 := cell_blk hblk3 2 rfl; have HBF := Lib.hid (HBK.out.go (bel HB2.out HB3.out)); have HBF2 : Hid (BookAt w3.heap.size w3 _ B) := Lib.hid (HBF.out.raise HBF.out.1 (Nat.le_refl _)); have HBz : Hid (Below w3.heap.size w3 w3) := Below.refl _ _; have q0 := (HB3.out.cell (p := ⟨w.heap.size, 0, none⟩) (Nat.lt_of_lt_of_le hsz HB2.out.size)).trans ((c2 _ 0 hsz).trans q0); have q1 := (HB3.out.cell (p := ⟨w.heap.size, 1, none⟩) (Nat.lt_of_lt_of_le hsz HB2.out.size)).trans ((c2 _ 1 hsz).trans q1); have q2 := (HB3.out.cell (p := ⟨w.heap.size, 2, none⟩) (Nat.lt_of_lt_of_le hsz HB2.out.size)).trans ((c2 _ 2 hsz).trans q2); have hs3 : w.heap.size < w3.heap.size := Nat.lt_of_lt_of_le hsz (Nat.le_trans HB2.out.size HB3.out.size); clear c2 hws hblk3)
      | (go_at_call 30; refine (kShort_any w3.heap.size _ B _ (HBG.out.go HBz.out) HNS7.out).mono ?_; rw [HE1.out, HE2.out]; rintro e w4 ⟨rfl, hb4⟩; (try clear cz); have HB4 := Lib.hid (bel HBz.out hb4); have c4 := (old_of HB4.out).1; clear hb4)
      | (go_at_call 55; refine (rShort_any w3.heap.size _ B _ (HBF2.out.go HB4.out)).mono ?_; rw [HE1.out, HE2.out]; rintro e w5 ⟨rfl, hb5⟩; (try clear c4); have HB5 := Lib.hid (bel HB4.out hb5); have c5 := (old_of HB5.out).1; clear hb5)
      | (go_at_call 34; refine (kFew_any w3.heap.size _ B _ (HBG.out.go HB5.out)).mono ?_; rw [HF1.out, HF2.out]; rintro e w6 ⟨rfl, hb6⟩; (try clear c5); have HB6 := Lib.hid (bel HB5.out hb6); have c6 := (old_of HB6.out).1; clear hb6)
      | (go_at_call 56; refine (rFew_any w3.heap.size _ B _ (HBF2.out.go HB6.out)).mono ?_; rw [HF1.out, HF2.out]; rintro e w7 ⟨rfl, hb7⟩; (try clear c6); have HB7 := Lib.hid (bel HB6.out hb7); have c7 := (old_of HB7.out).1; clear hb7)
      | (go_at_call 40; refine (kNeed_any w3.heap.size _ B _ (HBG.out.go HB7.out)).mono ?_; rw [HN2.out]; rintro e w8 ⟨v8, rfl, ho8, hb8⟩; have P8 := Lib.hid ho8; clear ho8; (try clear c7); have HB8 := Lib.hid (bel HB7.out hb8); have c8 := (old_of HB8.out).1; clear hb8)
      | (go_at_call 57; refine (rNeed_any w3.heap.size _ B _ (HBF2.out.go HB8.out)).mono ?_; rw [HN2.out]; rintro e w9 ⟨v9, rfl, ho9, hb9⟩; replace P8 := Lib.hid (OwnI.below P8.out hb9); have P9 := Lib.hid ho9; clear ho9; (try clear c8); have HB9 := Lib.hid (bel HB8.out hb9); have c9 := (old_of HB9.out).1; clear hb9)
      | (go_at_call 58; refine (kApart_any w3.heap.size _ B s t _ (HBG.out.go HB9.out)).mono ?_; rw [HA2.out]; rintro e wA ⟨vA, rfl, hoA, hbA⟩; replace P8 := Lib.hid (OwnI.below P8.out hbA); replace P9 := Lib.hid (OwnI.below P9.out hbA); have PA := Lib.hid hoA; clear hoA; (try clear c9); have HBA := Lib.hid (bel HB9.out hbA); have cA := (old_of HBA.out).1; clear hbA)
      | (go_at_call 59; refine (rApart_any w3.heap.size _ B s t _ (HBF2.out.go HBA.out)).mono ?_; rw [HA2.out]; rintro e wB ⟨vB, rfl, hoB, hbB⟩; replace P8 := Lib.hid (OwnI.below P8.out hbB); replace P9 := Lib.hid (OwnI.below P9.out hbB); replace PA := Lib.hid (OwnI.below PA.out hbB); have PB := Lib.hid hoB; clear hoB; (try clear cA); have HBB := Lib.hid (bel HBA.out hbB); have cB := (old_of HBB.out).1; clear hbB)
      | (go_at_call 44; refine (sameInts_any _ _ _ _ _ _ _ _ (P8.out.ints HLN.out) (P9.out.ints HLN.out)).mono ?_; rintro e wE ⟨rfl, hbE⟩; rw [HSN.out]; replace hbE := drawn_below hbE; replace PA := Lib.hid (OwnI.below PA.out hbE); replace PB := Lib.hid (OwnI.below PB.out hbE); clear P8 P9; (try clear cB); have HBE := Lib.hid (bel HBB.out hbE); have cE := (old_of HBE.out).1; clear hbE)
      | (go_at_call 44; refine (sameInts_any _ _ _ _ _ _ _ _ (PA.out.ints HLA.out) (PB.out.ints HLA.out)).mono ?_; rintro e wF ⟨rfl, hbF⟩; rw [HSA.out]; replace hbF := drawn_below hbF; clear PA PB; (try clear cE); have HBF := Lib.hid (bel HBE.out hbF); have cF := (old_of HBF.out).1; clear hbF)
      | (go_at_call 51; refine (same_any _ _ _ _ B _ (HBG.out.go HBF.out) (HBF2.out.go HBF.out)).mono ?_; rintro e wG ⟨rfl, hbG⟩; (try clear cF); have HBG := Lib.hid (bel HBF.out hbG); have cG := (old_of HBG.out).1; clear hbG)
      | (go_at_call 17; refine (works_any _).mono ?_; rintro e wH ⟨rfl, hbH⟩; (try clear cG); have HBH := Lib.hid (bel HBG.out hbH); have cH := (old_of HBH.out).1; clear hbH))
    go_ret
    exact ⟨rfl, fin HB.out (fin HB2.out (fin HB3.out HBH.out))⟩

end Go.Proofs.Ytghimbggbgcgkaa
