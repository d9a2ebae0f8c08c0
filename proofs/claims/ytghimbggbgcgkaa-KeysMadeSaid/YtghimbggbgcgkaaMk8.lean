/-
  Mk8: Make of package keys.
-/
import Derived.Test.YtghimbggbgcgkaaMk7
namespace Go.Proofs.Ytghimbggbgcgkaa
open Go.RowKit Go.Maps

/-- what Make answers -/
structure MadeR (B : KB) (w : World) (e : Ending) (w' : World) : Prop where
  made : ∃ (nd : Value) (l : List NR), e = .returned (.tuple #[nd, .int .i64 (eDiff B)]) ∧ NodesAt w'.heap.size w' nd (ndOf l) ∧ (eDiff B ≠ 0 → l = []) ∧ (eDiff B = 0 → ∃ ss, KeyR B (setF (fun _ => true) B.ns) l ss)
  below : Below w.heap.size w w'

set_option maxRecDepth 100000 in
set_option maxHeartbeats 1600000 in
theorem kMake_any (N : Nat) (v : Value) (B : KB) (w : World) (h : BookAt N w v B) (hns : okKB B = true → B.ns ≤ 7) :
    Calls Try.prog 35 #[v] w fun e w' => MadeR B w e w' := by
  have h' := h
  obtain ⟨_, a1, z1, a2, z2, a3, z3, rfl, _⟩ := h'
  obtain ⟨ws, hws, HB, hsz, hblk⟩ := box1 w (.cells #[.slice a1 B.nv z1, .slice a2 B.ns z2, .slice a3 B.D.n z3] 26)
  have q0 := cell_blk hblk 0 rfl
  have q1 := cell_blk hblk 1 rfl
  have q2 := cell_blk hblk 2 rfl
  have HBK := Lib.hid (h.go HB.out)
  have HB0 : Hid (Below ws.heap.size ws ws) := Below.refl _ _
  have HNS : Hid (N ≤ ws.heap.size) := HBK.out.1
  have hlens := h.lens
  obtain ⟨hlv, hls, hln⟩ := hlens
  clear hblk h
  cases hv : okKB B with
  | false =>
    have HA : Hid (eDiff B = 20) := by unfold Hid eDiff; rw [hv]; rfl
    clear hv
    go_enter Try.func35, Try.ntmps35
    go_wp2_with (go_at_call 80; refine (cad_any N _ B _ (HBK.out.go HB0.out)).mono ?_; rintro e w1 ⟨rfl, hb1⟩; rw [HA.out]; (try clear c0); have HB1 := Lib.hid (bel HB0.out hb1); have c1 := (old_of HB1.out).1; clear hb1)
    go_ret2
    exact ⟨⟨.slice none 0 0, [], by rw [HA.out]; rfl, ⟨none, 0, rfl, by decide, fun h => by simp [ndOf] at h⟩, fun _ => rfl, fun h => by rw [HA.out] at h; cases h⟩, fin HB.out HB1.out⟩
  | true =>
    cases hd : diffB B with
    | false =>
      have HA : Hid (eDiff B = 3) := by unfold Hid eDiff; rw [hv, hd]; rfl
      clear hv hd
      go_enter Try.func35, Try.ntmps35
      go_wp2_with (go_at_call 80; refine (cad_any N _ B _ (HBK.out.go HB0.out)).mono ?_; rintro e w1 ⟨rfl, hb1⟩; rw [HA.out]; (try clear c0); have HB1 := Lib.hid (bel HB0.out hb1); have c1 := (old_of HB1.out).1; clear hb1)
      go_ret2
      exact ⟨⟨.slice none 0 0, [], by rw [HA.out]; rfl, ⟨none, 0, rfl, by decide, fun h => by simp [ndOf] at h⟩, fun _ => rfl, fun h => by rw [HA.out] at h; cases h⟩, fin HB.out HB1.out⟩
    | true =>
      have HA : Hid (eDiff B = 0) := by unfold Hid eDiff; rw [hv, hd]; rfl
      have HG := Lib.hid (goodB hv)
      have hns7 := hns hv
      have hns8 := (goodB hv).ns
      have hnv5 := (goodB hv).nv
      have HOK := Lib.hid (allOk (goodB hv) hd)
      clear hv hd hns
      go_enter Try.func35, Try.ntmps35
      go_wp2_with (go_at_call 80; refine (cad_any N _ B _ (HBK.out.go HB0.out)).mono ?_; rintro e w1 ⟨rfl, hb1⟩; rw [HA.out]; (try clear c0); have HB1 := Lib.hid (bel HB0.out hb1); have c1 := (old_of HB1.out).1; clear hb1)
      clear hws
      have S1d := old_of HB1.out.drew; have HB1d := S1d.2
      have hsz1d := HB1.out.size
      go_region_held3 (fun w' => (∀ b o, b < ws.heap.size → w'.cell? ⟨b, o, none⟩ = ws.cell? ⟨b, o, none⟩) ∧ Hid (Below ws.heap.size ws w')) (first | assumption | (refine old_of (Hid.out ?_); assumption)) (first
        | (go_at_call 87; refine (newMaker_any N B _ _ _ _ _ _ _ (HBK.out.go (Hid.out (by assumption))) HG.out).mono ?_; rintro e w2 ⟨bk, b, pb, Mb, rfl, hst, hm1, hm2, hm3, hb2⟩; have HB2 : Hid (Below ws.heap.size ws w2) := Lib.hid (bel (Hid.out (by assumption)) hb2); have HST := Lib.hid hst; have HM := Lib.hid (And.intro hm1 (And.intro hm2 hm3)); clear hst hm1 hm2 hm3 hb2)
        | (go_at_call 84; refine (allSorts_any N _ B _ (HBK.out.go (Hid.out (by assumption))) hns8).mono ?_; rintro e w3 ⟨rfl, hb3⟩; have HB3 : Hid (Below ws.heap.size ws w3) := Lib.hid (bel (Hid.out (by assumption)) hb3); have HB3n := Lib.hid hb3; clear hb3)
        | (go_at_call 88; refine (key_any B HG.out _ _ _ _ _ _ ws.heap.size _ _ (HST.out.below HB3n.out) HOK.out hns7 (by have h1 := HM.out; have h2 := HB2.out.size; have h3 := HB1d.out.size; omega)).mono ?_; rintro e w4 ⟨nd, l, ss, rfl, hk, hn, hb4⟩; have HKR := Lib.hid hk; have HND := Lib.hid hn; have HB4 : Hid (Below ws.heap.size ws w4) := Lib.hid (HB3.out.trans hb4); clear hk hn hb4))
      go_wp2
      go_ret2
      exact ⟨⟨nd, l, by rw [HA.out]; rfl, HND.out, fun h => absurd HA.out h, fun _ => ⟨ss, HKR.out⟩⟩, fin HB.out HB4.out⟩

end Go.Proofs.Ytghimbggbgcgkaa
