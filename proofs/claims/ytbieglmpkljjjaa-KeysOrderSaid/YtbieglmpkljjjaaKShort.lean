/-
  KShort: Short of package keys.
-/
import Derived.Test.YtbieglmpkljjjaaSearchC
import Derived.Test.YtbieglmpkljjjaaShortR
import Derived.Test.YtbieglmpkljjjaaBest
namespace Go.Proofs.Ytbieglmpkljjjaa
open Go.RowKit Go.Maps

theorem leastC_says (B : KB) (hG : GoodB B) (hns : B.ns ≤ 7) (bk b N : Nat) : ∀ f, SaysLC B bk b N f := by
  have hit : ∀ (f : Nat) (c : Nat → Int) (n : Nat) (w : World) (D : DataW Unit), CubeOk B c → w.ownsMap Try.prog 94 (plainElem Try.prog 3) b n D → (∀ c, CubeOk B c → has D (cubeKey c) = true → D.atKey (cubeKey c) (.lit (.int .i64 0)) = .lit (.int .i64 (costK5 B c))) → has D (cubeKey c) = true →
      Calls Try.prog 78 #[seaC B.nv bk b, cubeV c] w fun e w' => e = .returned (.int .i64 (costK5 B c)) ∧ FoundC B b (n + 16 ^ f) w' ∧ w.grownBy w' (some b) := fun f c n w D hc ho hD hh => by
    refine (leastC_hit B hG bk b D c n w hc ho hh (hD c hc hh)).mono ?_
    rintro e w' ⟨rfl, hb⟩
    exact ⟨rfl, (FoundC.below (B := B) (b := b) (n := n) ⟨D, ho, hD⟩ hb).mono (Nat.le_add_right _ _), grown_of_below hb⟩
  have one : ∀ (f : Nat) (c : Nat → Int) (n : Nat) (w : World), CubeOk B c → sameZ B (cubeF B c) = true → SEnv B bk b N w → FoundC B b n w → n + 16 ^ f ≤ 1000000000000 →
      Calls Try.prog 78 #[seaC B.nv bk b, cubeV c] w fun e w' => e = .returned (.int .i64 (costK5 B c)) ∧ FoundC B b (n + 16 ^ f) w' ∧ w.grownBy w' (some b) := fun f c n w hc h1 henv hfo hn => by
    obtain ⟨D, ho, hD⟩ := hfo
    have hp : 1 ≤ 16 ^ f := Nat.pow_pos (by omega)
    cases hh : has D (cubeKey c) with
    | true => exact hit f c n w D hc ho hD hh
    | false =>
      refine (leastC_one B hG hns bk b N D c n w hc (by omega) henv ho hh h1 hD).mono ?_
      rintro e w' ⟨rfl, h2, h3⟩
      exact ⟨rfl, h2.mono (by omega), h3⟩
  intro f
  induction f with
  | zero => intro c n w hc hl henv hfo hn; exact one 0 c n w hc (same_full (by omega)) henv hfo hn
  | succ f ih =>
    intro c n w hc hl henv hfo hn
    cases h1 : sameZ B (cubeF B c) with
    | true => exact one (f + 1) c n w hc h1 henv hfo hn
    | false =>
      obtain ⟨D, ho, hD⟩ := id hfo
      cases hh : has D (cubeKey c) with
      | true => exact hit (f + 1) c n w D hc ho hD hh
      | false =>
        have hp : 1 ≤ 16 ^ f := Nat.pow_pos (by omega)
        have e16 : 16 ^ (f + 1) = 16 * 16 ^ f := by rw [Nat.pow_succ, Nat.mul_comm]
        refine (leastC_big B hG hns bk b N f (questionC B hG bk b N f ih) D c n w hc (by omega) henv ho hh h1 hl hD).mono ?_
        rintro e w' ⟨rfl, h2, h3⟩
        exact ⟨rfl, h2.mono (by omega), h3⟩

/-- behind searchEnds -/
theorem seaC_env {B : KB} {N bk : Nat} {a1 a2 a3 : Option Addr} {z1 z2 z3 : Nat} {w2 W' : World} (hN : N ≤ bk) (hbk : w2.heap[bk]? = some (.cells #[.slice a1 B.nv z1, .slice a2 B.ns z2, .slice a3 B.D.n z3] 26)) (hmp : w2.heap[bk + 2]? = some (.map #[] 0))
    (hB : BookAt N w2 (.agg #[.slice a1 B.nv z1, .slice a2 B.ns z2, .slice a3 B.D.n z3]) B) (hb : Below w2.heap.size w2 W') : SEnv B bk (bk + 2) N W' ∧ FoundC B (bk + 2) 0 W' := by
  refine ⟨⟨⟨a1, z1, a2, z2, a3, z3, (hb.block bk (heap_lt hbk)).trans hbk, hB.go hb⟩, by omega, by omega⟩, .map [], ?_, fun s _ hh => ?_⟩
  · obtain ⟨es, cl, h1, F, h3, h4⟩ := World.ownsMap_made (H := Unit) w2 Try.prog 94 (plainElem Try.prog 3)
    rw [World.alloc_heap_new] at h1
    cases h1
    exact ⟨#[], 0, (hb.block _ (heap_lt hmp)).trans hmp, F, h3, h4⟩
  · simp [has] at hh

set_option maxRecDepth 100000 in
set_option maxHeartbeats 1600000 in
theorem kShort_any (N : Nat) (v : Value) (B : KB) (w : World) (h : BookAt N w v B) (hns : okKB B = true → B.ns ≤ 7) :
    Calls Try.prog 30 #[v] w fun e w' => e = .returned (.tuple #[.int .i64 (eShort B).1, .int .i64 (eShort B).2]) ∧ Below w.heap.size w w' := by
  have h' := h
  obtain ⟨_, a1, z1, a2, z2, a3, z3, rfl, _⟩ := h'
  obtain ⟨ws, hws, HB, hsz, hblk⟩ := box1 w (.cells #[.slice a1 B.nv z1, .slice a2 B.ns z2, .slice a3 B.D.n z3] 26)
  have q0 := cell_blk hblk 0 rfl
  have q1 := cell_blk hblk 1 rfl
  have q2 := cell_blk hblk 2 rfl
  have HBK := Lib.hid (h.go HB.out)
  have HB0 : Hid (Below ws.heap.size ws ws) := Below.refl _ _
  have HNS : Hid (N ≤ ws.heap.size) := HBK.out.1
  have hlens := h.lens
  obtain ⟨hlv, hls, hln⟩ := hlens
  clear hblk h
  cases hv : okKB B with
  | false =>
    have HA : Hid (chk B = 20) := chk_no hv
    have HE : Hid (eShort B = (0, 20)) := by unfold Hid eShort; rw [hv]; rfl
    clear hv
    go_enter Try.func30, Try.ntmps30
    go_wp2_with (go_at_call 46; go_must (refine (kCheck_any N _ B _ (HBK.out.go HB0.out)).mono ?_; rintro e w1 ⟨rfl, hb1⟩; rw [HA.out]; (try clear c0); have HB1 := Lib.hid (bel HB0.out hb1); have c1 := (old_of HB1.out).1; clear hb1))
    go_ret2
    exact ⟨by rw [HE.out]; rfl, fin HB.out HB1.out⟩
  | true =>
    have HG := Lib.hid (goodB hv)
    have hns7 := hns hv
    have hnv5 := HG.out.nv
    have HA : Hid (chk B = 0) := chk_yes hv
    have HE : Hid (eShort B = (costK5 B anyC, 0)) := by unfold Hid eShort; rw [hv]; rfl
    have HFC : Hid (freeC B anyC ≤ 5) := Nat.le_trans (freeC_le B anyC) hnv5
    clear hv hns
    go_enter Try.func30, Try.ntmps30
    go_wp2_with (first
      | (go_at_call 46; go_must (refine (kCheck_any N _ B _ (HBK.out.go HB0.out)).mono ?_; rintro e w1 ⟨rfl, hb1⟩; rw [HA.out]; (try clear c0); have HB1 := Lib.hid (bel HB0.out hb1); have c1 := (old_of HB1.out).1; clear hb1))
      | (go_at_call 77; go_must (refine (searchEnds_any _ _ _ _ _ _ _ _ _ _ hnv5).mono ?_; rintro e w2 ⟨rfl, hbk, hmp, hb2⟩; have HB12 := Lib.hid hb2; have HSE := Lib.hid (fun W' hb => seaC_env (W' := W') (Nat.le_trans HBK.out.1 HB1.out.size) hbk hmp (HBK.out.go (bel HB1.out HB12.out)) hb); clear hbk hmp; (try clear c1); have HB2 := Lib.hid (bel HB1.out hb2); have c2 := (old_of HB2.out).1; clear hb2))
      | (go_at_call 79; go_must (refine (allFruits_any _).mono ?_; rintro e w3 ⟨rfl, hb3⟩; have HB23 := Lib.hid hb3; (try clear c2); have HB3 := Lib.hid (bel HB2.out hb3); have c3 := (old_of HB3.out).1; clear hb3))
      | (go_at_call 78; go_must (refine (leastC_says B HG.out hns7 _ _ N 5 anyC 0 _ (anyC_ok B) HFC.out (HSE.out _ HB23.out).1 (HSE.out _ HB23.out).2 (by decide)).mono ?_; rintro e w4 ⟨rfl, _, hg4⟩; have HB4 : Hid (Below ws.heap.size ws w4) := Lib.hid (HB3.out.trans (below_of_grown hg4 HB3.out.size (by have := HB1.out.size; omega))); clear hg4)))
    go_ret2
    exact ⟨by rw [HE.out]; rfl, fin HB.out HB4.out⟩

end Go.Proofs.Ytbieglmpkljjjaa
