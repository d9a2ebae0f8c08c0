/-
  ShortR3: Short of the reference.
-/
import Derived.Test.YtghimbggbgcgkaaShortR2
namespace Go.Proofs.Ytghimbggbgcgkaa
open Go.RowKit

theorem rshort_all (B : KB) (hG : GoodB B) : ∀ f, SaysRS B f
  | 0 => rshort_step B hG 0 fun g e => by omega
  | f + 1 => rshort_step B hG (f + 1) fun g e => by
    obtain rfl : f = g := by omega
    exact rshort_all B hG f

/-- what Short answers -/
def eShort (B : KB) : Int × Int := if okKB B then (costK5 B anyC, 0) else (0, 20)
theorem anyC_ok (B : KB) : CubeOk B anyC := ⟨fun _ _ => .inl rfl, fun _ _ => rfl⟩
theorem cubeF_any (B : KB) : cubeF B anyC = allF B := by
  unfold cubeF
  rw [List.filter_eq_self]
  intro z _
  unfold inCb
  rw [allB_true]
  intro i _
  rfl
theorem fr_zs {base lo : Nat} {w : World} {v : Value} {n : Nat} {zs : List (List Int)} (h : FrRows base lo w v zs) (hn : ∀ z, z ∈ zs → z.length = n) (hl : zs.length ≤ 1000) (hn5 : n ≤ 1000) : ZsAt w.heap.size w v n zs := by
  obtain ⟨rows, h1, h2⟩ := h
  have hrl : rows.length = zs.length := by
    have := h1.1
    simpa using this
  unfold ZsAt
  rw [← hrl] at h1 ⊢
  refine own_rows (w4 := w) h1 (fun j u hu => ?_) (Below.refl _ _) (by omega)
  have hj : j < zs.length := by rw [← hrl]; exact (List.getElem?_eq_some_iff.1 hu).1
  obtain ⟨r, hr, hv, _⟩ := h2 j zs[j] (List.getElem?_eq_getElem hj)
  rw [hu] at hr
  obtain rfl := Option.some.inj hr
  have hz := hn zs[j] (List.getElem_mem hj)
  have h3 := hv.ints (by omega)
  rw [hz] at h3
  have e : zs.getD j [] = zs[j] := by simp [List.getD, hj]
  rw [e]
  exact h3

set_option maxRecDepth 100000 in
set_option maxHeartbeats 1600000 in
theorem rShort_any (N : Nat) (v : Value) (B : KB) (w : World) (h : BookAt N w v B) :
    Calls Try.prog 55 #[v] w fun e w' => e = .returned (.tuple #[.int .i64 (eShort B).1, .int .i64 (eShort B).2]) ∧ Below w.heap.size w w' := by
  have h' := h
  obtain ⟨_, a1, z1, a2, z2, a3, z3, rfl, _⟩ := h'
  obtain ⟨ws, hws, HB, hsz, hblk⟩ := box1 w (.cells #[.slice a1 B.nv z1, .slice a2 B.ns z2, .slice a3 B.D.n z3] 26)
  have q0 := cell_blk hblk 0 rfl
  have q1 := cell_blk hblk 1 rfl
  have q2 := cell_blk hblk 2 rfl
  have HBK := Lib.hid (h.go HB.out)
  have HB0 : Hid (Below ws.heap.size ws ws) := Below.refl _ _
  have HNS : Hid (N ≤ ws.heap.size) := HBK.out.1
  have hlens := h.lens
  obtain ⟨hlv, hls, hln⟩ := hlens
  clear hblk h
  cases hv : okKB B with
  | false =>
    have HA : Hid (chk B = 20) := chk_no hv
    have HE : Hid (eShort B = (0, 20)) := by unfold Hid eShort; rw [hv]; rfl
    clear hv
    go_enter Try.func55, Try.ntmps55
    go_wp2_with (go_at_call 47; go_must (refine (rCheck_any N _ B _ (HBK.out.go HB0.out)).mono ?_; rintro e w1 ⟨rfl, hb1⟩; rw [HA.out]; (try clear c0); have HB1 := Lib.hid (bel HB0.out hb1); have c1 := (old_of HB1.out).1; clear hb1))
    go_ret2
    exact ⟨by rw [HE.out]; rfl, fin HB.out HB1.out⟩
  | true =>
    have HG := Lib.hid (goodB hv)
    have HA : Hid (chk B = 0) := chk_yes hv
    have HE : Hid (eShort B = (costC B 5 anyC, 0)) := by unfold Hid eShort; rw [hv]; rfl
    clear hv
    go_enter Try.func55, Try.ntmps55
    go_upto_region 4 with (go_at_call 47; go_must (refine (rCheck_any N _ B _ (HBK.out.go HB0.out)).mono ?_; rintro e w1 ⟨rfl, hb1⟩; rw [HA.out]; (try clear c0); have HB1 := Lib.hid (bel HB0.out hb1); have c1 := (old_of HB1.out).1; clear hb1))
    clear hws
    have S1d := old_of HB1.out.drew; have HB1d := S1d.2
    refine wp_region_held_drew (S := (fun w' => (∀ b o, b < ws.heap.size → w'.cell? ⟨b, o, none⟩ = ws.cell? ⟨b, o, none⟩) ∧ Hid (Below ws.heap.size ws w'))) (by kernel_rfl) S1d (fun hHeld => ?_)
    (refine wpAnyH_take (i := 0) (v := ?_) rfl (by kernel_rfl) (by kernel_rfl) (by kernel_rfl) (fun _ _ _ h => h) (Or.inl ⟨by rfl, ?_⟩) (by assumption) ?_; rotate_left; (focus (intro w hSw; (try dsimp only at hSw); go_simp; (try with_reducible rfl))); (try simp only [List.getElem_toArray, List.getElem_cons_zero, List.getElem_cons_succ, Act.put, List.setIfInBounds_toArray, List.set_cons_zero, List.set_cons_succ])); (refine wpAnyH_take (i := 1) (v := ?_) rfl (by kernel_rfl) (by kernel_rfl) (by kernel_rfl) (fun _ _ _ h => h) (Or.inl ⟨by rfl, ?_⟩) (by assumption) ?_; rotate_left; (focus (intro w hSw; (try dsimp only at hSw); go_simp; (try with_reducible rfl))); (try simp only [List.getElem_toArray, List.getElem_cons_zero, List.getElem_cons_succ, Act.put, List.setIfInBounds_toArray, List.set_cons_zero, List.set_cons_succ]))
    refine wpAnyH_ready (rs := [2]) (by kernel_rfl) (by simp) ?_; refine AllReadyH.cons rfl (fun K hK => ?_) AllReadyH.nil; go_simp
    go_at_call 29
    refine (rFruits_any N _ B HG.out _ (HBK.out.go HB1d.out)).mono ?_
    rintro e w2 ⟨vF, rfl, hrows, hb2⟩
    have HZ : Hid (ZsAt w2.heap.size w2 vF B.nv (cubeF B anyC)) := by
      rw [cubeF_any]
      exact fr_zs hrows (fun z hz => ((allF_mem B z).1 hz).1) (by have := cubeF_len HG.out anyC; rw [cubeF_any] at this; omega) (by have := HG.out.nv; omega)
    clear hrows
    have S2 := old_of (bel HB1d.out hb2); have HB2 := S2.2; clear hb2
    refine hK.out _ _ S2 (fun hHeld => ?_); clear hK K; (try simp only [List.getElem_toArray, List.getElem_cons_zero, List.getElem_cons_succ, Act.put, List.setIfInBounds_toArray, List.set_cons_zero, List.set_cons_succ])
    refine wpAnyH_ready (rs := [3]) (by kernel_rfl) (by simp) ?_; refine AllReadyH.cons rfl (fun K hK => ?_) AllReadyH.nil; go_simp
    go_at_call 95
    refine (rshort_all B HG.out 5 anyC N w2.heap.size 0 _ _ _ (anyC_ok B) (Nat.le_trans (freeC_le B anyC) HG.out.nv) (HBK.out.go HB2.out) (Nat.le_refl _) HZ.out (by omega) (fun i hi => by simp [anyC])).mono ?_
    rintro e w3 ⟨rfl, hb3⟩
    have S3 := old_of (bel HB2.out hb3); have HB3 := S3.2; clear hb3
    refine hK.out _ _ S3 (fun hHeld => ?_); clear hK K; (try simp only [List.getElem_toArray, List.getElem_cons_zero, List.getElem_cons_succ, Act.put, List.setIfInBounds_toArray, List.set_cons_zero, List.set_cons_succ])
    (refine wpAnyH_take (i := 4) (v := ?_) rfl (by kernel_rfl) (by kernel_rfl) (by kernel_rfl) (fun _ _ _ h => h) (Or.inl ⟨by rfl, ?_⟩) (by assumption) ?_; rotate_left; (focus (intro w hSw; (try dsimp only at hSw); go_simp; (try with_reducible rfl))); (try simp only [List.getElem_toArray, List.getElem_cons_zero, List.getElem_cons_succ, Act.put, List.setIfInBounds_toArray, List.set_cons_zero, List.set_cons_succ])); (refine wpAnyH_take (i := 5) (v := ?_) rfl (by kernel_rfl) (by kernel_rfl) (by kernel_rfl) (fun _ _ _ h => h) (Or.inl ⟨by rfl, ?_⟩) (by assumption) ?_; rotate_left; (focus (intro w hSw; (try dsimp only at hSw); go_simp; (try with_reducible rfl))); (try simp only [List.getElem_toArray, List.getElem_cons_zero, List.getElem_cons_succ, Act.put, List.setIfInBounds_toArray, List.set_cons_zero, List.set_cons_succ]))
    refine wpAnyH_done (by kernel_rfl) ?_ _; clear hHeld
    clear S2 S3 S1d
    go_wp2
    go_ret2
    exact ⟨by rw [HE.out]; rfl, fin HB.out HB3.out⟩

end Go.Proofs.Ytghimbggbgcgkaa
