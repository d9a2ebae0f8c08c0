/-
  RFits: Fits and Lost of the reference.
-/
import Derived.Test.YtnnngbnimmcjiaaIsFit
import Derived.Test.YtnnngbnimmcjiaaExp3
namespace Go.Proofs.Ytnnngbnimmcjiaa
open Go.RowKit

/-- so many of a gift are of a sort, for a garden of a frost -/
def cT (B : SB) (g : List Nat) (s f : Nat) : Nat := g.countP fun k => B.sN k == s && B.fN k == f
theorem cT_le_cS (B : SB) (g : List Nat) (s f : Nat) : cT B g s f ≤ cS B g s := by
  unfold cT cS
  exact List.countP_mono_left fun k _ h => by simp at h ⊢; exact h.1
theorem cT_fr (B : SB) (g : List Nat) (s f : Nat) : fr B g s f = decide (0 < cT B g s f) := by
  unfold fr cT
  rw [Bool.eq_iff_iff, List.any_eq_true, decide_eq_true_eq, List.countP_pos_iff]
theorem cT_one (B : SB) (s f : Nat) : ∀ (n : Nat) (g : List Nat), g.length = n → fitL B g = true → cT B g s f ≤ 1 := by
  intro n
  induction n with
  | zero => intro g hg _; rw [List.length_eq_zero_iff.1 hg]; simp [cT]
  | succ n ih =>
    intro g hg hf
    obtain ⟨m, k, rfl⟩ : ∃ m k, g = m ++ [k] := ⟨g.dropLast, g.getLast (by intro e; rw [e] at hg; cases hg), (List.dropLast_concat_getLast _).symm⟩
    rw [fitL_snoc, Bool.and_eq_true] at hf
    have hm : m.length = n := by simpa using hg
    have h1 := ih m hm hf.1
    have e : cT B (m ++ [k]) s f = cT B m s f + (if (B.sN k == s && B.fN k == f) = true then 1 else 0) := by
      unfold cT; rw [List.countP_append, List.countP_cons, List.countP_nil, Nat.zero_add]
    rw [e]
    split
    · rename_i hk
      have ha := hf.2
      simp only [addOK, Bool.and_eq_true, Bool.not_eq_true'] at ha
      simp only [Bool.and_eq_true, beq_iff_eq] at hk
      rw [cT_fr, hk.1, hk.2, decide_eq_false_iff_not] at ha
      omega
    · omega
theorem cT_snoc (B : SB) (g : List Nat) (y s f : Nat) : cT B (g ++ [y]) s f = cT B g s f + if B.sN y = s ∧ B.fN y = f then 1 else 0 := by
  unfold cT; rw [List.countP_append, List.countP_cons, List.countP_nil, Nat.zero_add]
  simp
theorem cS_snoc' (B : SB) (g : List Nat) (y s : Nat) : cS B (g ++ [y]) s = cS B g s + if B.sN y = s then 1 else 0 := by
  rw [cS_snoc]
  by_cases h : s = B.sN y
  · rw [if_pos h, if_pos h.symm]
  · rw [if_neg h, if_neg fun e => h e.symm]
/-- given just once, and taken: given, and as often taken -/
theorem lost_iff {B : SB} {g : List Nat} {s f : Nat} (h : fitL B g = true) : lostP B g f s = (decide (0 < cS B g s) && decide (cS B g s = cT B g s f)) := by
  have h1 := cT_one B s f _ g rfl h
  have h2 := cT_le_cS B g s f
  unfold lostP
  rw [cT_fr, Bool.eq_iff_iff]
  simp only [Bool.and_eq_true, decide_eq_true_eq]
  omega
theorem sel_ns {B : SB} {p : Nat} (hG : GoodL B p) {g : List Nat} (hg : ∀ k, k ∈ g → k < B.nw) (f : Nat) : sel (lostP B g f) 4 = sel (lostP B g f) B.ns := by
  have h0 : ∀ s, B.ns ≤ s → lostP B g f s = false := fun s hs => by
    unfold lostP
    rw [Bool.and_eq_false_iff]
    left
    rw [decide_eq_false_iff_not]
    intro e
    have : 0 < cS B g s := by omega
    unfold cS at this
    rw [List.countP_pos_iff] at this
    obtain ⟨k, hk, e2⟩ := this
    have := (hG.sN (hg k hk)).1
    simp at e2
    omega
  have hm : ∀ d, sel (lostP B g f) (B.ns + d) = sel (lostP B g f) B.ns := by
    intro d
    induction d with
    | zero => rfl
    | succ d ih => rw [← Nat.add_assoc, sel_miss (h0 _ (by omega)), ih]
  have := hG.ns
  have := hm (4 - B.ns)
  rwa [show B.ns + (4 - B.ns) = 4 by omega] at this

set_option maxRecDepth 100000 in
set_option maxHeartbeats 3200000 in
theorem rFits_any (N M : Nat) (v u : Value) (B : SB) (n : Nat) (x : Nat → Int) (w : World) (h : BookAt N w v B) (hu : IntsAt M w u n x) (hM : M ≤ w.heap.size) :
    Calls Try.prog 36 #[v, u] w fun e w' => e = .returned (.tuple #[.bool (eFits B n x).1, .int .i64 (eFits B n x).2]) ∧ Below w.heap.size w w' := by
  have hn := hu.len
  obtain ⟨au, cu, rfl, _, _⟩ := id hu
  have h' := h
  obtain ⟨_, a1, z1, a2, z2, a3, z3, rfl, _⟩ := h'
  obtain ⟨ws, hws, HB, hsz, hblk⟩ := box1 w (.cells #[.slice a1 B.ns z1, .slice a2 B.ng z2, .slice a3 B.nw z3] 26)
  have q0 := cell_blk hblk 0 rfl
  have q1 := cell_blk hblk 1 rfl
  have q2 := cell_blk hblk 2 rfl
  have HBK := Lib.hid (h.go HB.out)
  have HB0 : Hid (Below ws.heap.size ws ws) := Below.refl _ _
  have HNS : Hid (N ≤ ws.heap.size) := HBK.out.1
  have hlens := h.lens
  obtain ⟨hlv, hls, hln⟩ := hlens
  clear hblk h
  have HX := Lib.hid (hu.go hM HB.out)
  have HM : Hid (M ≤ ws.heap.size) := Nat.le_trans hM HB.out.size
  clear hu hM
  have S0d := old_of HB0.out.drew; have HB0d := S0d.2
  obtain ⟨gi, hgi⟩ : ∃ gi, okGift B.nw n x = gi := ⟨_, rfl⟩
  have HGI := Lib.hid hgi
  cases hvi : (okL B && okGift B.nw n x) with
  | false =>
    have HE : Hid (eFits B n x = (false, errA (okL B) (okGift B.nw n x))) := by unfold Hid eFits; rw [hvi]; rfl
    obtain ⟨ea, hea⟩ : ∃ ea, errA (okL B) (okGift B.nw n x) = ea := ⟨_, rfl⟩
    have hne : (ea != 0) = true := by rw [← hea]; simpa using errA_no hvi
    rw [hea] at HE
    rw [hgi] at hea
    have HEA := Lib.hid hea
    clear hvi hgi hea
    go_enter Try.func36, Try.ntmps36
    go_upto_region 1 with fail
    clear hws
    refine wp_region_held_drew (S := (fun w' => (∀ b o, b < ws.heap.size → w'.cell? ⟨b, o, none⟩ = ws.cell? ⟨b, o, none⟩) ∧ Hid (Below ws.heap.size ws w'))) (by kernel_rfl) S0d (fun hHeld => ?_)
    (refine wpAnyH_take (i := 0) (v := ?_) rfl (by kernel_rfl) (by kernel_rfl) (by kernel_rfl) (fun _ _ _ h => h) (Or.inl ⟨by rfl, ?_⟩) (by assumption) ?_; rotate_left; (focus (intro w hSw; (try dsimp only at hSw); go_simp; (try with_reducible rfl))); (try simp only [List.getElem_toArray, List.getElem_cons_zero, List.getElem_cons_succ, Act.put, List.setIfInBounds_toArray, List.set_cons_zero, List.set_cons_succ])); (refine wpAnyH_take (i := 1) (v := ?_) rfl (by kernel_rfl) (by kernel_rfl) (by kernel_rfl) (fun _ _ _ h => h) (Or.inl ⟨by rfl, ?_⟩) (by assumption) ?_; rotate_left; (focus (intro w hSw; (try dsimp only at hSw); go_simp; (try with_reducible rfl))); (try simp only [List.getElem_toArray, List.getElem_cons_zero, List.getElem_cons_succ, Act.put, List.setIfInBounds_toArray, List.set_cons_zero, List.set_cons_succ])); (refine wpAnyH_take (i := 2) (v := ?_) rfl (by kernel_rfl) (by kernel_rfl) (by kernel_rfl) (fun _ _ _ h => h) (Or.inl ⟨by rfl, ?_⟩) (by assumption) ?_; rotate_left; (focus (intro w hSw; (try dsimp only at hSw); go_simp; (try with_reducible rfl))); (try simp only [List.getElem_toArray, List.getElem_cons_zero, List.getElem_cons_succ, Act.put, List.setIfInBounds_toArray, List.set_cons_zero, List.set_cons_succ]))
    refine wpAnyH_ready (rs := [3]) (by kernel_rfl) (by simp) ?_; refine AllReadyH.cons rfl (fun K hK => ?_) AllReadyH.nil; go_simp
    go_at_call 44
    refine (isGift_any N M _ _ B n x _ (HBK.out.go HB0d.out) (HX.out.go HM.out HB0d.out) (Nat.le_trans HM.out HB0d.out.size)).mono ?_
    rw [HGI.out]
    rintro e w1 ⟨rfl, hb1⟩
    have S1 := old_of (bel HB0d.out hb1)
    have HB1 := S1.2
    clear hb1
    refine hK.out _ _ S1 (fun hHeld => ?_); clear hK K; (try simp only [List.getElem_toArray, List.getElem_cons_zero, List.getElem_cons_succ, Act.put, List.setIfInBounds_toArray, List.set_cons_zero, List.set_cons_succ])
    refine wpAnyH_ready (rs := [4]) (by kernel_rfl) (by simp) ?_; refine AllReadyH.cons rfl (fun K hK => ?_) AllReadyH.nil; go_simp
    go_at_call 67
    refine (rask_any N _ B gi _ (HBK.out.go HB1.out)).mono ?_
    rintro e w2 ⟨rfl, hb2⟩
    rw [HEA.out]
    have S2 := old_of (bel HB1.out hb2)
    have HB2 := S2.2
    clear hb2 S1
    refine hK.out _ _ S2 (fun hHeld => ?_); clear hK K; (try simp only [List.getElem_toArray, List.getElem_cons_zero, List.getElem_cons_succ, Act.put, List.setIfInBounds_toArray, List.set_cons_zero, List.set_cons_succ])
    (refine wpAnyH_take (i := 5) (v := ?_) rfl (by kernel_rfl) (by kernel_rfl) (by kernel_rfl) (fun _ _ _ h => h) (Or.inl ⟨by rfl, ?_⟩) (by assumption) ?_; rotate_left; (focus (intro w hSw; (try dsimp only at hSw); go_simp; (try with_reducible rfl))); (try simp only [List.getElem_toArray, List.getElem_cons_zero, List.getElem_cons_succ, Act.put, List.setIfInBounds_toArray, List.set_cons_zero, List.set_cons_succ]))
    refine wpAnyH_done (by kernel_rfl) ?_ _; clear hHeld
    have c2 := S2.1
    clear S2
    go_wp2
    go_ret2
    exact ⟨by rw [HE.out]; rfl, fin HB.out HB2.out⟩
  | true =>
    have hvi' := hvi
    rw [Bool.and_eq_true] at hvi'
    obtain ⟨hv, hi⟩ := hvi'
    have HE : Hid (eFits B n x = (fitL B (natL n x), 0)) := by unfold Hid eFits; rw [hvi]; rfl
    have hea : errA (okL B) gi = 0 := by rw [← hgi, hv, hi]; rfl
    have HEA := Lib.hid hea
    have HG := Lib.hid (goodL hv)
    have HNL : Hid (n ≤ 1000) := by have := okGift_len hi; have := (goodL hv).nw; unfold Hid; omega
    have HNT := Lib.hid (okGift_nat hi)
    clear hv hi hvi hgi hea
    obtain ⟨fb, hfb⟩ : ∃ fb, fitL B (natL n x) = fb := ⟨_, rfl⟩
    have HFB := Lib.hid hfb
    rw [hfb] at HE
    clear hfb
    go_enter Try.func36, Try.ntmps36
    go_upto_region 1 with fail
    clear hws
    refine wp_region_held_drew (S := (fun w' => (∀ b o, b < ws.heap.size → w'.cell? ⟨b, o, none⟩ = ws.cell? ⟨b, o, none⟩) ∧ Hid (Below ws.heap.size ws w'))) (by kernel_rfl) S0d (fun hHeld => ?_)
    (refine wpAnyH_take (i := 0) (v := ?_) rfl (by kernel_rfl) (by kernel_rfl) (by kernel_rfl) (fun _ _ _ h => h) (Or.inl ⟨by rfl, ?_⟩) (by assumption) ?_; rotate_left; (focus (intro w hSw; (try dsimp only at hSw); go_simp; (try with_reducible rfl))); (try simp only [List.getElem_toArray, List.getElem_cons_zero, List.getElem_cons_succ, Act.put, List.setIfInBounds_toArray, List.set_cons_zero, List.set_cons_succ])); (refine wpAnyH_take (i := 1) (v := ?_) rfl (by kernel_rfl) (by kernel_rfl) (by kernel_rfl) (fun _ _ _ h => h) (Or.inl ⟨by rfl, ?_⟩) (by assumption) ?_; rotate_left; (focus (intro w hSw; (try dsimp only at hSw); go_simp; (try with_reducible rfl))); (try simp only [List.getElem_toArray, List.getElem_cons_zero, List.getElem_cons_succ, Act.put, List.setIfInBounds_toArray, List.set_cons_zero, List.set_cons_succ])); (refine wpAnyH_take (i := 2) (v := ?_) rfl (by kernel_rfl) (by kernel_rfl) (by kernel_rfl) (fun _ _ _ h => h) (Or.inl ⟨by rfl, ?_⟩) (by assumption) ?_; rotate_left; (focus (intro w hSw; (try dsimp only at hSw); go_simp; (try with_reducible rfl))); (try simp only [List.getElem_toArray, List.getElem_cons_zero, List.getElem_cons_succ, Act.put, List.setIfInBounds_toArray, List.set_cons_zero, List.set_cons_succ]))
    refine wpAnyH_ready (rs := [3]) (by kernel_rfl) (by simp) ?_; refine AllReadyH.cons rfl (fun K hK => ?_) AllReadyH.nil; go_simp
    go_at_call 44
    refine (isGift_any N M _ _ B n x _ (HBK.out.go HB0d.out) (HX.out.go HM.out HB0d.out) (Nat.le_trans HM.out HB0d.out.size)).mono ?_
    rw [HGI.out]
    rintro e w1 ⟨rfl, hb1⟩
    have S1 := old_of (bel HB0d.out hb1)
    have HB1 := S1.2
    clear hb1
    refine hK.out _ _ S1 (fun hHeld => ?_); clear hK K; (try simp only [List.getElem_toArray, List.getElem_cons_zero, List.getElem_cons_succ, Act.put, List.setIfInBounds_toArray, List.set_cons_zero, List.set_cons_succ])
    refine wpAnyH_ready (rs := [4]) (by kernel_rfl) (by simp) ?_; refine AllReadyH.cons rfl (fun K hK => ?_) AllReadyH.nil; go_simp
    go_at_call 67
    refine (rask_any N _ B gi _ (HBK.out.go HB1.out)).mono ?_
    rintro e w2 ⟨rfl, hb2⟩
    rw [HEA.out]
    have S2 := old_of (bel HB1.out hb2)
    have HB2 := S2.2
    clear hb2 S1
    refine hK.out _ _ S2 (fun hHeld => ?_); clear hK K; (try simp only [List.getElem_toArray, List.getElem_cons_zero, List.getElem_cons_succ, Act.put, List.setIfInBounds_toArray, List.set_cons_zero, List.set_cons_succ])
    (refine wpAnyH_take (i := 5) (v := ?_) rfl (by kernel_rfl) (by kernel_rfl) (by kernel_rfl) (fun _ _ _ h => h) (Or.inl ⟨by rfl, ?_⟩) (by assumption) ?_; rotate_left; (focus (intro w hSw; (try dsimp only at hSw); go_simp; (try with_reducible rfl))); (try simp only [List.getElem_toArray, List.getElem_cons_zero, List.getElem_cons_succ, Act.put, List.setIfInBounds_toArray, List.set_cons_zero, List.set_cons_succ]))
    refine wpAnyH_done (by kernel_rfl) ?_ _; clear hHeld
    have c2 := S2.1
    clear S2
    go_wp2_with (go_at_call 45; refine (isFit_any N M _ _ B 4 n x _ (HBK.out.go HB2.out) HG.out (HX.out.go HM.out HB2.out) (Nat.le_trans HM.out HB2.out.size) HNT.out HNL.out).mono ?_; rw [HFB.out]; rintro e w3 ⟨rfl, hb3⟩; have HB3 := Lib.hid (bel HB2.out hb3); clear hb3)
    go_ret2
    exact ⟨by rw [HE.out]; rfl, fin HB.out HB3.out⟩

set_option maxRecDepth 100000 in
set_option maxHeartbeats 6400000 in
theorem rLost_any (N M : Nat) (v u : Value) (B : SB) (n : Nat) (x : Nat → Int) (f : Int) (w : World) (h : BookAt N w v B) (hu : IntsAt M w u n x) (hM : M ≤ w.heap.size) :
    Calls Try.prog 37 #[v, u, .int .i64 f] w (GivesIE w.heap.size w (eLost B n x f).1 (eLost B n x f).2) := by
  obtain ⟨i0, hi0, hz0, hz1, hz2⟩ := info_parts Try.infoInt
  have hn := hu.len
  obtain ⟨au, cu, rfl, _, _⟩ := id hu
  have h' := h
  obtain ⟨_, a1, z1, a2, z2, a3, z3, rfl, _⟩ := h'
  obtain ⟨ws, hws, HB, hsz, hblk⟩ := box1 w (.cells #[.slice a1 B.ns z1, .slice a2 B.ng z2, .slice a3 B.nw z3] 26)
  have q0 := cell_blk hblk 0 rfl
  have q1 := cell_blk hblk 1 rfl
  have q2 := cell_blk hblk 2 rfl
  have HBK := Lib.hid (h.go HB.out)
  have HB0 : Hid (Below ws.heap.size ws ws) := Below.refl _ _
  have HNS : Hid (N ≤ ws.heap.size) := HBK.out.1
  have hlens := h.lens
  obtain ⟨hlv, hls, hln⟩ := hlens
  clear hblk h
  have HX := Lib.hid (hu.go hM HB.out)
  have HM : Hid (M ≤ ws.heap.size) := Nat.le_trans hM HB.out.size
  clear hu hM
  have S0d := old_of HB0.out.drew; have HB0d := S0d.2
  obtain ⟨gi, hgi⟩ : ∃ gi, okGift B.nw n x = gi := ⟨_, rfl⟩
  have HGI := Lib.hid hgi
  cases hi : okGift B.nw n x with
  | false =>
    have HE : Hid (eLost B n x f = ([], errA (okL B) false)) := by unfold Hid eLost; rw [hi, Bool.and_false]; rfl
    obtain ⟨ea, hea⟩ : ∃ ea, errA (okL B) false = ea := ⟨_, rfl⟩
    have hne : (ea != 0) = true := by rw [← hea]; simpa using errA_no (show (okL B && false) = false by simp)
    rw [hea] at HE
    have HEA := Lib.hid hea
    obtain rfl : false = gi := hi.symm.trans hgi
    clear hi hgi hea
    go_enter Try.func37, Try.ntmps37
    go_upto_region 1 with fail
    clear hws
    refine wp_region_held_drew (S := (fun w' => (∀ b o, b < ws.heap.size → w'.cell? ⟨b, o, none⟩ = ws.cell? ⟨b, o, none⟩) ∧ Hid (Below ws.heap.size ws w'))) (by kernel_rfl) S0d (fun hHeld => ?_)
    (refine wpAnyH_take (i := 0) (v := ?_) rfl (by kernel_rfl) (by kernel_rfl) (by kernel_rfl) (fun _ _ _ h => h) (Or.inl ⟨by rfl, ?_⟩) (by assumption) ?_; rotate_left; (focus (intro w hSw; (try dsimp only at hSw); go_simp; (try with_reducible rfl))); (try simp only [List.getElem_toArray, List.getElem_cons_zero, List.getElem_cons_succ, Act.put, List.setIfInBounds_toArray, List.set_cons_zero, List.set_cons_succ])); (refine wpAnyH_take (i := 1) (v := ?_) rfl (by kernel_rfl) (by kernel_rfl) (by kernel_rfl) (fun _ _ _ h => h) (Or.inl ⟨by rfl, ?_⟩) (by assumption) ?_; rotate_left; (focus (intro w hSw; (try dsimp only at hSw); go_simp; (try with_reducible rfl))); (try simp only [List.getElem_toArray, List.getElem_cons_zero, List.getElem_cons_succ, Act.put, List.setIfInBounds_toArray, List.set_cons_zero, List.set_cons_succ])); (refine wpAnyH_take (i := 2) (v := ?_) rfl (by kernel_rfl) (by kernel_rfl) (by kernel_rfl) (fun _ _ _ h => h) (Or.inl ⟨by rfl, ?_⟩) (by assumption) ?_; rotate_left; (focus (intro w hSw; (try dsimp only at hSw); go_simp; (try with_reducible rfl))); (try simp only [List.getElem_toArray, List.getElem_cons_zero, List.getElem_cons_succ, Act.put, List.setIfInBounds_toArray, List.set_cons_zero, List.set_cons_succ]))
    refine wpAnyH_ready (rs := [3]) (by kernel_rfl) (by simp) ?_; refine AllReadyH.cons rfl (fun K hK => ?_) AllReadyH.nil; go_simp
    go_at_call 44
    refine (isGift_any N M _ _ B n x _ (HBK.out.go HB0d.out) (HX.out.go HM.out HB0d.out) (Nat.le_trans HM.out HB0d.out.size)).mono ?_
    rw [HGI.out]
    rintro e w1 ⟨rfl, hb1⟩
    have S1 := old_of (bel HB0d.out hb1)
    have HB1 := S1.2
    clear hb1
    refine hK.out _ _ S1 (fun hHeld => ?_); clear hK K; (try simp only [List.getElem_toArray, List.getElem_cons_zero, List.getElem_cons_succ, Act.put, List.setIfInBounds_toArray, List.set_cons_zero, List.set_cons_succ])
    (refine wpAnyH_take (i := 4) (v := ?_) rfl (by kernel_rfl) (by kernel_rfl) (by kernel_rfl) (fun _ _ _ h => h) (Or.inl ⟨by rfl, ?_⟩) (by assumption) ?_; rotate_left; (focus (intro w hSw; (try dsimp only at hSw); go_simp; (try with_reducible rfl))); (try simp only [List.getElem_toArray, List.getElem_cons_zero, List.getElem_cons_succ, Act.put, List.setIfInBounds_toArray, List.set_cons_zero, List.set_cons_succ]))
    (refine wpAnyH_take (i := 5) (v := undef) rfl (by kernel_rfl) (by kernel_rfl) (by kernel_rfl) (fun _ _ _ h => h) (Or.inr ⟨by rfl, rfl⟩) (by assumption) ?_; (try simp only [List.getElem_toArray, List.getElem_cons_zero, List.getElem_cons_succ, Act.put, List.setIfInBounds_toArray, List.set_cons_zero, List.set_cons_succ])); (refine wpAnyH_take (i := 6) (v := undef) rfl (by kernel_rfl) (by kernel_rfl) (by kernel_rfl) (fun _ _ _ h => h) (Or.inr ⟨by rfl, rfl⟩) (by assumption) ?_; (try simp only [List.getElem_toArray, List.getElem_cons_zero, List.getElem_cons_succ, Act.put, List.setIfInBounds_toArray, List.set_cons_zero, List.set_cons_succ]))
    (refine wpAnyH_take (i := 7) (v := ?_) rfl (by kernel_rfl) (by kernel_rfl) (by kernel_rfl) (fun _ _ _ h => h) (Or.inl ⟨by rfl, ?_⟩) (by assumption) ?_; rotate_left; (focus (intro w hSw; (try dsimp only at hSw); go_simp; (try with_reducible rfl))); (try simp only [List.getElem_toArray, List.getElem_cons_zero, List.getElem_cons_succ, Act.put, List.setIfInBounds_toArray, List.set_cons_zero, List.set_cons_succ]))
    refine wpAnyH_ready (rs := [8]) (by kernel_rfl) (by simp) ?_; refine AllReadyH.cons rfl (fun K hK => ?_) AllReadyH.nil; go_simp
    go_at_call 67
    refine (rask_any N _ B false _ (HBK.out.go HB1.out)).mono ?_
    rintro e w2 ⟨rfl, hb2⟩
    rw [HEA.out]
    have S2 := old_of (bel HB1.out hb2)
    have HB2 := S2.2
    clear hb2 S1
    refine hK.out _ _ S2 (fun hHeld => ?_); clear hK K; (try simp only [List.getElem_toArray, List.getElem_cons_zero, List.getElem_cons_succ, Act.put, List.setIfInBounds_toArray, List.set_cons_zero, List.set_cons_succ])
    (refine wpAnyH_take (i := 9) (v := ?_) rfl (by kernel_rfl) (by kernel_rfl) (by kernel_rfl) (fun _ _ _ h => h) (Or.inl ⟨by rfl, ?_⟩) (by assumption) ?_; rotate_left; (focus (intro w hSw; (try dsimp only at hSw); go_simp; (try with_reducible rfl))); (try simp only [List.getElem_toArray, List.getElem_cons_zero, List.getElem_cons_succ, Act.put, List.setIfInBounds_toArray, List.set_cons_zero, List.set_cons_succ]))
    refine wpAnyH_done (by kernel_rfl) ?_ _; clear hHeld
    have c2 := S2.1
    clear S2
    go_wp2
    go_ret2
    exact ⟨.slice none 0 0, by rw [HE.out]; rfl, by rw [HE.out]; exact World.ownsRow_nil _ _ _ _, fin HB.out HB2.out⟩
  | true =>
    obtain rfl : true = gi := hi.symm.trans hgi
    obtain ⟨f4, hf4⟩ : ∃ f4, (decide (0 ≤ f) && decide (f < 4)) = f4 := ⟨_, rfl⟩
    have HF4 := Lib.hid hf4
    cases hvf : (okL B && f4) with
    | false =>
      have HE : Hid (eLost B n x f = ([], errA (okL B) f4)) := by
        unfold Hid eLost
        rw [hi, Bool.and_true]
        cases hv : okL B with
        | false => rfl
        | true =>
          rw [hv, Bool.true_and] at hvf
          rw [hf4, hvf, Bool.and_false]; rfl
      obtain ⟨ea, hea⟩ : ∃ ea, errA (okL B) f4 = ea := ⟨_, rfl⟩
      have hne : (ea != 0) = true := by rw [← hea]; simpa using errA_no hvf
      rw [hea] at HE
      have HEA := Lib.hid hea
      clear hi hgi hea hvf hf4
      go_enter Try.func37, Try.ntmps37
      go_upto_region 1 with fail
      clear hws
      refine wp_region_held_drew (S := (fun w' => (∀ b o, b < ws.heap.size → w'.cell? ⟨b, o, none⟩ = ws.cell? ⟨b, o, none⟩) ∧ Hid (Below ws.heap.size ws w'))) (by kernel_rfl) S0d (fun hHeld => ?_)
      (refine wpAnyH_take (i := 0) (v := ?_) rfl (by kernel_rfl) (by kernel_rfl) (by kernel_rfl) (fun _ _ _ h => h) (Or.inl ⟨by rfl, ?_⟩) (by assumption) ?_; rotate_left; (focus (intro w hSw; (try dsimp only at hSw); go_simp; (try with_reducible rfl))); (try simp only [List.getElem_toArray, List.getElem_cons_zero, List.getElem_cons_succ, Act.put, List.setIfInBounds_toArray, List.set_cons_zero, List.set_cons_succ])); (refine wpAnyH_take (i := 1) (v := ?_) rfl (by kernel_rfl) (by kernel_rfl) (by kernel_rfl) (fun _ _ _ h => h) (Or.inl ⟨by rfl, ?_⟩) (by assumption) ?_; rotate_left; (focus (intro w hSw; (try dsimp only at hSw); go_simp; (try with_reducible rfl))); (try simp only [List.getElem_toArray, List.getElem_cons_zero, List.getElem_cons_succ, Act.put, List.setIfInBounds_toArray, List.set_cons_zero, List.set_cons_succ])); (refine wpAnyH_take (i := 2) (v := ?_) rfl (by kernel_rfl) (by kernel_rfl) (by kernel_rfl) (fun _ _ _ h => h) (Or.inl ⟨by rfl, ?_⟩) (by assumption) ?_; rotate_left; (focus (intro w hSw; (try dsimp only at hSw); go_simp; (try with_reducible rfl))); (try simp only [List.getElem_toArray, List.getElem_cons_zero, List.getElem_cons_succ, Act.put, List.setIfInBounds_toArray, List.set_cons_zero, List.set_cons_succ]))
      refine wpAnyH_ready (rs := [3]) (by kernel_rfl) (by simp) ?_; refine AllReadyH.cons rfl (fun K hK => ?_) AllReadyH.nil; go_simp
      go_at_call 44
      refine (isGift_any N M _ _ B n x _ (HBK.out.go HB0d.out) (HX.out.go HM.out HB0d.out) (Nat.le_trans HM.out HB0d.out.size)).mono ?_
      rw [HGI.out]
      rintro e w1 ⟨rfl, hb1⟩
      have S1 := old_of (bel HB0d.out hb1)
      have HB1 := S1.2
      clear hb1
      refine hK.out _ _ S1 (fun hHeld => ?_); clear hK K; (try simp only [List.getElem_toArray, List.getElem_cons_zero, List.getElem_cons_succ, Act.put, List.setIfInBounds_toArray, List.set_cons_zero, List.set_cons_succ])
      (refine wpAnyH_take (i := 4) (v := ?_) rfl (by kernel_rfl) (by kernel_rfl) (by kernel_rfl) (fun _ _ _ h => h) (Or.inl ⟨by rfl, ?_⟩) (by assumption) ?_; rotate_left; (focus (intro w hSw; (try dsimp only at hSw); go_simp; (try with_reducible rfl))); (try simp only [List.getElem_toArray, List.getElem_cons_zero, List.getElem_cons_succ, Act.put, List.setIfInBounds_toArray, List.set_cons_zero, List.set_cons_succ])); (refine wpAnyH_take (i := 5) (v := ?_) rfl (by kernel_rfl) (by kernel_rfl) (by kernel_rfl) (fun _ _ _ h => h) (Or.inl ⟨by rfl, ?_⟩) (by assumption) ?_; rotate_left; (focus (intro w hSw; (try dsimp only at hSw); go_simp; (try with_reducible rfl))); (try simp only [List.getElem_toArray, List.getElem_cons_zero, List.getElem_cons_succ, Act.put, List.setIfInBounds_toArray, List.set_cons_zero, List.set_cons_succ]))
      refine wpAnyH_ready (rs := [6]) (by kernel_rfl) (by simp) ?_; refine AllReadyH.cons rfl (fun K hK => ?_) AllReadyH.nil; go_simp
      go_at_call 27
      refine (isFrost_eq _ _ _ HF4.out).mono ?_
      rintro e wz ⟨rfl, rfl⟩
      refine hK.out _ _ S1 (fun hHeld => ?_); clear hK K; (try simp only [List.getElem_toArray, List.getElem_cons_zero, List.getElem_cons_succ, Act.put, List.setIfInBounds_toArray, List.set_cons_zero, List.set_cons_succ])
      (refine wpAnyH_take (i := 7) (v := ?_) rfl (by kernel_rfl) (by kernel_rfl) (by kernel_rfl) (fun _ _ _ h => h) (Or.inl ⟨by rfl, ?_⟩) (by assumption) ?_; rotate_left; (focus (intro w hSw; (try dsimp only at hSw); go_simp; (try with_reducible rfl))); (try simp only [List.getElem_toArray, List.getElem_cons_zero, List.getElem_cons_succ, Act.put, List.setIfInBounds_toArray, List.set_cons_zero, List.set_cons_succ]))
      refine wpAnyH_ready (rs := [8]) (by kernel_rfl) (by simp) ?_; refine AllReadyH.cons rfl (fun K hK => ?_) AllReadyH.nil; go_simp
      go_at_call 67
      refine (rask_any N _ B f4 _ (HBK.out.go HB1.out)).mono ?_
      rintro e w2 ⟨rfl, hb2⟩
      rw [HEA.out]
      have S2 := old_of (bel HB1.out hb2)
      have HB2 := S2.2
      clear hb2 S1
      refine hK.out _ _ S2 (fun hHeld => ?_); clear hK K; (try simp only [List.getElem_toArray, List.getElem_cons_zero, List.getElem_cons_succ, Act.put, List.setIfInBounds_toArray, List.set_cons_zero, List.set_cons_succ])
      (refine wpAnyH_take (i := 9) (v := ?_) rfl (by kernel_rfl) (by kernel_rfl) (by kernel_rfl) (fun _ _ _ h => h) (Or.inl ⟨by rfl, ?_⟩) (by assumption) ?_; rotate_left; (focus (intro w hSw; (try dsimp only at hSw); go_simp; (try with_reducible rfl))); (try simp only [List.getElem_toArray, List.getElem_cons_zero, List.getElem_cons_succ, Act.put, List.setIfInBounds_toArray, List.set_cons_zero, List.set_cons_succ]))
      refine wpAnyH_done (by kernel_rfl) ?_ _; clear hHeld
      have c2 := S2.1
      clear S2
      go_wp2
      go_ret2
      exact ⟨.slice none 0 0, by rw [HE.out]; rfl, by rw [HE.out]; exact World.ownsRow_nil _ _ _ _, fin HB.out HB2.out⟩
    | true =>
      have hvf' := hvf
      rw [Bool.and_eq_true] at hvf'
      obtain ⟨hv, rfl⟩ := hvf'
      have hea : errA (okL B) true = 0 := by rw [hv]; rfl
      have HEA := Lib.hid hea
      have HG := Lib.hid (goodL hv)
      have hnn : n ≤ 1000 := by have := okGift_len hi; have := (goodL hv).nw; omega
      have HNL := Lib.hid hnn
      have HNT := Lib.hid (okGift_nat hi)
      have HE : Hid (eLost B n x f = if fitL B (natL n x) then (sel (lostP B (natL n x) f.toNat) 4, 0) else ([], 1)) := by
        unfold Hid eLost; rw [hv, hi, hf4, Bool.and_true]; simp
      cases hfb : fitL B (natL n x) with
      | false =>
        have HFB := Lib.hid hfb
        rw [hfb] at HE
        clear hv hi hgi hvf hea hf4 hfb
        go_enter Try.func37, Try.ntmps37
        go_upto_region 1 with fail
        clear hws
        refine wp_region_held_drew (S := (fun w' => (∀ b o, b < ws.heap.size → w'.cell? ⟨b, o, none⟩ = ws.cell? ⟨b, o, none⟩) ∧ Hid (Below ws.heap.size ws w'))) (by kernel_rfl) S0d (fun hHeld => ?_)
        (refine wpAnyH_take (i := 0) (v := ?_) rfl (by kernel_rfl) (by kernel_rfl) (by kernel_rfl) (fun _ _ _ h => h) (Or.inl ⟨by rfl, ?_⟩) (by assumption) ?_; rotate_left; (focus (intro w hSw; (try dsimp only at hSw); go_simp; (try with_reducible rfl))); (try simp only [List.getElem_toArray, List.getElem_cons_zero, List.getElem_cons_succ, Act.put, List.setIfInBounds_toArray, List.set_cons_zero, List.set_cons_succ])); (refine wpAnyH_take (i := 1) (v := ?_) rfl (by kernel_rfl) (by kernel_rfl) (by kernel_rfl) (fun _ _ _ h => h) (Or.inl ⟨by rfl, ?_⟩) (by assumption) ?_; rotate_left; (focus (intro w hSw; (try dsimp only at hSw); go_simp; (try with_reducible rfl))); (try simp only [List.getElem_toArray, List.getElem_cons_zero, List.getElem_cons_succ, Act.put, List.setIfInBounds_toArray, List.set_cons_zero, List.set_cons_succ])); (refine wpAnyH_take (i := 2) (v := ?_) rfl (by kernel_rfl) (by kernel_rfl) (by kernel_rfl) (fun _ _ _ h => h) (Or.inl ⟨by rfl, ?_⟩) (by assumption) ?_; rotate_left; (focus (intro w hSw; (try dsimp only at hSw); go_simp; (try with_reducible rfl))); (try simp only [List.getElem_toArray, List.getElem_cons_zero, List.getElem_cons_succ, Act.put, List.setIfInBounds_toArray, List.set_cons_zero, List.set_cons_succ]))
        refine wpAnyH_ready (rs := [3]) (by kernel_rfl) (by simp) ?_; refine AllReadyH.cons rfl (fun K hK => ?_) AllReadyH.nil; go_simp
        go_at_call 44
        refine (isGift_any N M _ _ B n x _ (HBK.out.go HB0d.out) (HX.out.go HM.out HB0d.out) (Nat.le_trans HM.out HB0d.out.size)).mono ?_
        rw [HGI.out]
        rintro e w1 ⟨rfl, hb1⟩
        have S1 := old_of (bel HB0d.out hb1)
        have HB1 := S1.2
        clear hb1
        refine hK.out _ _ S1 (fun hHeld => ?_); clear hK K; (try simp only [List.getElem_toArray, List.getElem_cons_zero, List.getElem_cons_succ, Act.put, List.setIfInBounds_toArray, List.set_cons_zero, List.set_cons_succ])
        (refine wpAnyH_take (i := 4) (v := ?_) rfl (by kernel_rfl) (by kernel_rfl) (by kernel_rfl) (fun _ _ _ h => h) (Or.inl ⟨by rfl, ?_⟩) (by assumption) ?_; rotate_left; (focus (intro w hSw; (try dsimp only at hSw); go_simp; (try with_reducible rfl))); (try simp only [List.getElem_toArray, List.getElem_cons_zero, List.getElem_cons_succ, Act.put, List.setIfInBounds_toArray, List.set_cons_zero, List.set_cons_succ])); (refine wpAnyH_take (i := 5) (v := ?_) rfl (by kernel_rfl) (by kernel_rfl) (by kernel_rfl) (fun _ _ _ h => h) (Or.inl ⟨by rfl, ?_⟩) (by assumption) ?_; rotate_left; (focus (intro w hSw; (try dsimp only at hSw); go_simp; (try with_reducible rfl))); (try simp only [List.getElem_toArray, List.getElem_cons_zero, List.getElem_cons_succ, Act.put, List.setIfInBounds_toArray, List.set_cons_zero, List.set_cons_succ]))
        refine wpAnyH_ready (rs := [6]) (by kernel_rfl) (by simp) ?_; refine AllReadyH.cons rfl (fun K hK => ?_) AllReadyH.nil; go_simp
        go_at_call 27
        refine (isFrost_eq _ _ _ HF4.out).mono ?_
        rintro e wz ⟨rfl, rfl⟩
        refine hK.out _ _ S1 (fun hHeld => ?_); clear hK K; (try simp only [List.getElem_toArray, List.getElem_cons_zero, List.getElem_cons_succ, Act.put, List.setIfInBounds_toArray, List.set_cons_zero, List.set_cons_succ])
        (refine wpAnyH_take (i := 7) (v := ?_) rfl (by kernel_rfl) (by kernel_rfl) (by kernel_rfl) (fun _ _ _ h => h) (Or.inl ⟨by rfl, ?_⟩) (by assumption) ?_; rotate_left; (focus (intro w hSw; (try dsimp only at hSw); go_simp; (try with_reducible rfl))); (try simp only [List.getElem_toArray, List.getElem_cons_zero, List.getElem_cons_succ, Act.put, List.setIfInBounds_toArray, List.set_cons_zero, List.set_cons_succ]))
        refine wpAnyH_ready (rs := [8]) (by kernel_rfl) (by simp) ?_; refine AllReadyH.cons rfl (fun K hK => ?_) AllReadyH.nil; go_simp
        go_at_call 67
        refine (rask_any N _ B true _ (HBK.out.go HB1.out)).mono ?_
        rintro e w2 ⟨rfl, hb2⟩
        rw [HEA.out]
        have S2 := old_of (bel HB1.out hb2)
        have HB2 := S2.2
        clear hb2 S1
        refine hK.out _ _ S2 (fun hHeld => ?_); clear hK K; (try simp only [List.getElem_toArray, List.getElem_cons_zero, List.getElem_cons_succ, Act.put, List.setIfInBounds_toArray, List.set_cons_zero, List.set_cons_succ])
        (refine wpAnyH_take (i := 9) (v := ?_) rfl (by kernel_rfl) (by kernel_rfl) (by kernel_rfl) (fun _ _ _ h => h) (Or.inl ⟨by rfl, ?_⟩) (by assumption) ?_; rotate_left; (focus (intro w hSw; (try dsimp only at hSw); go_simp; (try with_reducible rfl))); (try simp only [List.getElem_toArray, List.getElem_cons_zero, List.getElem_cons_succ, Act.put, List.setIfInBounds_toArray, List.set_cons_zero, List.set_cons_succ]))
        refine wpAnyH_done (by kernel_rfl) ?_ _; clear hHeld
        have c2 := S2.1
        clear S2
        go_wp2_with (go_at_call 45; refine (isFit_any N M _ _ B 4 n x _ (HBK.out.go HB2.out) HG.out (HX.out.go HM.out HB2.out) (Nat.le_trans HM.out HB2.out.size) HNT.out HNL.out).mono ?_; rw [HFB.out]; rintro e w3 ⟨rfl, hb3⟩; have HB3 := Lib.hid (bel HB2.out hb3); clear hb3)
        go_ret2
        exact ⟨.slice none 0 0, by rw [HE.out]; rfl, by rw [HE.out]; exact World.ownsRow_nil _ _ _ _, fin HB.out HB3.out⟩
      | true =>
        have HFB := Lib.hid hfb
        obtain ⟨q, rfl⟩ : ∃ q : Nat, f = q := ⟨f.toNat, by simp at hf4; omega⟩
        have HE2 : Hid (eLost B n x q = (sel (lostP B (natL n x) q) B.ns, 0)) := by
          unfold Hid; rw [HE.out, hfb, if_pos rfl]
          rw [Int.toNat_natCast, sel_ns HG.out (natL_lt HNT.out)]
        have hns := HG.out.ns
        clear hv hi hgi hvf hea hf4 hfb HE
        go_enter Try.func37, Try.ntmps37
        go_upto_region 1 with fail
        clear hws
        refine wp_region_held_drew (S := (fun w' => (∀ b o, b < ws.heap.size → w'.cell? ⟨b, o, none⟩ = ws.cell? ⟨b, o, none⟩) ∧ Hid (Below ws.heap.size ws w'))) (by kernel_rfl) S0d (fun hHeld => ?_)
        (refine wpAnyH_take (i := 0) (v := ?_) rfl (by kernel_rfl) (by kernel_rfl) (by kernel_rfl) (fun _ _ _ h => h) (Or.inl ⟨by rfl, ?_⟩) (by assumption) ?_; rotate_left; (focus (intro w hSw; (try dsimp only at hSw); go_simp; (try with_reducible rfl))); (try simp only [List.getElem_toArray, List.getElem_cons_zero, List.getElem_cons_succ, Act.put, List.setIfInBounds_toArray, List.set_cons_zero, List.set_cons_succ])); (refine wpAnyH_take (i := 1) (v := ?_) rfl (by kernel_rfl) (by kernel_rfl) (by kernel_rfl) (fun _ _ _ h => h) (Or.inl ⟨by rfl, ?_⟩) (by assumption) ?_; rotate_left; (focus (intro w hSw; (try dsimp only at hSw); go_simp; (try with_reducible rfl))); (try simp only [List.getElem_toArray, List.getElem_cons_zero, List.getElem_cons_succ, Act.put, List.setIfInBounds_toArray, List.set_cons_zero, List.set_cons_succ])); (refine wpAnyH_take (i := 2) (v := ?_) rfl (by kernel_rfl) (by kernel_rfl) (by kernel_rfl) (fun _ _ _ h => h) (Or.inl ⟨by rfl, ?_⟩) (by assumption) ?_; rotate_left; (focus (intro w hSw; (try dsimp only at hSw); go_simp; (try with_reducible rfl))); (try simp only [List.getElem_toArray, List.getElem_cons_zero, List.getElem_cons_succ, Act.put, List.setIfInBounds_toArray, List.set_cons_zero, List.set_cons_succ]))
        refine wpAnyH_ready (rs := [3]) (by kernel_rfl) (by simp) ?_; refine AllReadyH.cons rfl (fun K hK => ?_) AllReadyH.nil; go_simp
        go_at_call 44
        refine (isGift_any N M _ _ B n x _ (HBK.out.go HB0d.out) (HX.out.go HM.out HB0d.out) (Nat.le_trans HM.out HB0d.out.size)).mono ?_
        rw [HGI.out]
        rintro e w1 ⟨rfl, hb1⟩
        have S1 := old_of (bel HB0d.out hb1)
        have HB1 := S1.2
        clear hb1
        refine hK.out _ _ S1 (fun hHeld => ?_); clear hK K; (try simp only [List.getElem_toArray, List.getElem_cons_zero, List.getElem_cons_succ, Act.put, List.setIfInBounds_toArray, List.set_cons_zero, List.set_cons_succ])
        (refine wpAnyH_take (i := 4) (v := ?_) rfl (by kernel_rfl) (by kernel_rfl) (by kernel_rfl) (fun _ _ _ h => h) (Or.inl ⟨by rfl, ?_⟩) (by assumption) ?_; rotate_left; (focus (intro w hSw; (try dsimp only at hSw); go_simp; (try with_reducible rfl))); (try simp only [List.getElem_toArray, List.getElem_cons_zero, List.getElem_cons_succ, Act.put, List.setIfInBounds_toArray, List.set_cons_zero, List.set_cons_succ])); (refine wpAnyH_take (i := 5) (v := ?_) rfl (by kernel_rfl) (by kernel_rfl) (by kernel_rfl) (fun _ _ _ h => h) (Or.inl ⟨by rfl, ?_⟩) (by assumption) ?_; rotate_left; (focus (intro w hSw; (try dsimp only at hSw); go_simp; (try with_reducible rfl))); (try simp only [List.getElem_toArray, List.getElem_cons_zero, List.getElem_cons_succ, Act.put, List.setIfInBounds_toArray, List.set_cons_zero, List.set_cons_succ]))
        refine wpAnyH_ready (rs := [6]) (by kernel_rfl) (by simp) ?_; refine AllReadyH.cons rfl (fun K hK => ?_) AllReadyH.nil; go_simp
        go_at_call 27
        refine (isFrost_eq _ _ _ HF4.out).mono ?_
        rintro e wz ⟨rfl, rfl⟩
        refine hK.out _ _ S1 (fun hHeld => ?_); clear hK K; (try simp only [List.getElem_toArray, List.getElem_cons_zero, List.getElem_cons_succ, Act.put, List.setIfInBounds_toArray, List.set_cons_zero, List.set_cons_succ])
        (refine wpAnyH_take (i := 7) (v := ?_) rfl (by kernel_rfl) (by kernel_rfl) (by kernel_rfl) (fun _ _ _ h => h) (Or.inl ⟨by rfl, ?_⟩) (by assumption) ?_; rotate_left; (focus (intro w hSw; (try dsimp only at hSw); go_simp; (try with_reducible rfl))); (try simp only [List.getElem_toArray, List.getElem_cons_zero, List.getElem_cons_succ, Act.put, List.setIfInBounds_toArray, List.set_cons_zero, List.set_cons_succ]))
        refine wpAnyH_ready (rs := [8]) (by kernel_rfl) (by simp) ?_; refine AllReadyH.cons rfl (fun K hK => ?_) AllReadyH.nil; go_simp
        go_at_call 67
        refine (rask_any N _ B true _ (HBK.out.go HB1.out)).mono ?_
        rintro e w2 ⟨rfl, hb2⟩
        rw [HEA.out]
        have S2 := old_of (bel HB1.out hb2)
        have HB2 := S2.2
        clear hb2 S1
        refine hK.out _ _ S2 (fun hHeld => ?_); clear hK K; (try simp only [List.getElem_toArray, List.getElem_cons_zero, List.getElem_cons_succ, Act.put, List.setIfInBounds_toArray, List.set_cons_zero, List.set_cons_succ])
        (refine wpAnyH_take (i := 9) (v := ?_) rfl (by kernel_rfl) (by kernel_rfl) (by kernel_rfl) (fun _ _ _ h => h) (Or.inl ⟨by rfl, ?_⟩) (by assumption) ?_; rotate_left; (focus (intro w hSw; (try dsimp only at hSw); go_simp; (try with_reducible rfl))); (try simp only [List.getElem_toArray, List.getElem_cons_zero, List.getElem_cons_succ, Act.put, List.setIfInBounds_toArray, List.set_cons_zero, List.set_cons_succ]))
        refine wpAnyH_done (by kernel_rfl) ?_ _; clear hHeld
        have c2 := S2.1
        clear S2
        go_wp2_with (go_at_call 45; refine (isFit_any N M _ _ B 4 n x _ (HBK.out.go HB2.out) HG.out (HX.out.go HM.out HB2.out) (Nat.le_trans HM.out HB2.out.size) HNT.out HNL.out).mono ?_; rw [HFB.out]; rintro e w3 ⟨rfl, hb3⟩; have HB3 := Lib.hid (bel HB2.out hb3); clear hb3 c2)
        go_loopw [9, 10] (fun ov i wr => ∃ k : Nat, k ≤ B.ns ∧ i = .int .i64 k ∧ Hid (OwnI ws.heap.size wr ov (sel (lostP B (natL n x) q) k)) ∧ Hid (Below ws.heap.size ws wr)) (fun _ i _ => B.ns - (intOf i).toNat)
        case atStart => exact ⟨0, Nat.zero_le _, rfl, World.ownsRow_nil _ _ _ _, HB3⟩
        case round =>
          obtain ⟨wo, hwo⟩ : ∃ wo, wo = wr := ⟨_, rfl⟩
          subst hwo
          obtain ⟨k, hk, rfl, ho, HBr⟩ := hrel
          have r0 := (HBr.out.cell (p := ⟨w.heap.size, 0, none⟩) hsz).trans q0
          by_cases hkn : k < B.ns
          · have hki : (k : Int) < (B.ns : Int) := by omega
            have HO := ho
            have HBo := HBr
            have hsl := sel_len (lostP B (natL n x) q) k
            have HLI := Lib.hid (lost_iff (s := k) (f := q) HFB.out)
            have hkns : k ≤ 4 := by omega
            have HPS : Hid (lostP B (natL n x) q k = true → sel (lostP B (natL n x) q) (k + 1) = sel (lostP B (natL n x) q) k ++ [(k : Int)]) := sel_hit
            have HPM : Hid (lostP B (natL n x) q k = false → sel (lostP B (natL n x) q) (k + 1) = sel (lostP B (natL n x) q) k) := sel_miss
            obtain ⟨sl, hsle⟩ : ∃ sl, sel (lostP B (natL n x) q) k = sl := ⟨_, rfl⟩
            rw [hsle] at HO hsl HPS HPM
            clear ho HBr hsle
            go_wp2
            go_loopw [11, 12, 13] (fun g t i wi => ∃ j : Nat, j ≤ n ∧ i = .int .i64 j ∧ g = .int .i64 (cS B (natL j x) k : Nat) ∧ t = .int .i64 (cT B (natL j x) k q : Nat) ∧ Hid (Below wo.heap.size wo wi)) (fun _ _ i _ => n - (intOf i).toNat)
            case atStart => exact ⟨0, Nat.zero_le _, rfl, rfl, rfl, Below.refl _ _⟩
            case round =>
              obtain ⟨wi, hwi⟩ : ∃ wi, wi = wr := ⟨_, rfl⟩
              subst hwi
              obtain ⟨j, hjn, rfl, rfl, rfl, HBi⟩ := hrel
              have hcsl : cS B (natL j x) k ≤ 1000 := Nat.le_trans List.countP_le_length (by rw [natL_len]; omega)
              have hctl : cT B (natL j x) k q ≤ 1000 := Nat.le_trans List.countP_le_length (by rw [natL_len]; omega)
              obtain ⟨zs, hzs⟩ : ∃ z, cS B (natL j x) k = z := ⟨_, rfl⟩
              obtain ⟨zt, hzt⟩ : ∃ z, cT B (natL j x) k q = z := ⟨_, rfl⟩
              have HZS := Lib.hid hzs
              have HZT := Lib.hid hzt
              rw [hzs] at hcsl ⊢
              rw [hzt] at hctl ⊢
              clear hzs hzt
              by_cases hjl : j < n
              · have hji : (j : Int) < (n : Int) := by omega
                obtain ⟨b, off, e, hbM, HR⟩ := HX.out.cells (by omega)
                cases e
                have hbs : b < ws.heap.size := by have := HM.out; omega
                obtain ⟨y', hy', hyn'⟩ : ∃ y : Nat, x j = y ∧ y < B.nw := ⟨(x j).toNat, by have := HNT.out j hjl; omega, by have := HNT.out j hjl; omega⟩
                obtain ⟨b3, off3, e3, hb3, HR3⟩ := HBK.out.wants.cells (by omega)
                cases e3
                have hb3s : b3 < ws.heap.size := by have := HNS.out; omega
                obtain ⟨s', hs', hsn', hse'⟩ : ∃ s, B.sN y' = s ∧ s < B.ns ∧ B.S y' = s := ⟨_, rfl, HG.out.sN hyn'⟩
                obtain ⟨a', ha', han', hae'⟩ : ∃ a, B.gN y' = a ∧ a < B.ng ∧ B.G y' = a := ⟨_, rfl, HG.out.gN hyn'⟩
                obtain ⟨f', hf', hfn', hfe'⟩ : ∃ f, B.fN y' = f ∧ f < 4 ∧ B.F (B.gN y') = f := ⟨_, rfl, HG.out.fN hyn'⟩
                rw [ha'] at hfe'
                obtain ⟨b2, off2, e2, hb2, HR2⟩ := HBK.out.gardens.cells (by omega)
                cases e2
                have hb2s : b2 < ws.heap.size := by have := HNS.out; omega
                have HL : Hid (natL (j + 1) x = natL j x ++ [y']) := by unfold Hid; rw [natL_succ, hy']; rfl
                have HC1 : Hid (cS B (natL (j + 1) x) k = zs + if s' = k then 1 else 0) := by unfold Hid; rw [HL.out, cS_snoc', hs', HZS.out]
                have HC2 : Hid (cT B (natL (j + 1) x) k q = zt + if s' = k ∧ f' = q then 1 else 0) := by unfold Hid; rw [HL.out, cT_snoc, hs', hf', HZT.out]
                have HBW : Hid (Below ws.heap.size ws wi) := bel HBo.out HBi.out
                have hwz : ws.heap.size ≤ wi.heap.size := HBW.out.size
                have hwz5 : wo.heap.size ≤ wi.heap.size := HBi.out.size
                have c0 := (HBW.out.cell (p := ⟨b, off + j, none⟩) hbs).trans (HR j hjl)
                rw [hy'] at c0
                have c1 := (HBW.out.cell (p := ⟨b3, off3 + y' * 2, none⟩) hb3s).trans (HR3 y' hyn').1
                have c2 := (HBW.out.cell (p := ⟨b3, off3 + y' * 2 + 1, none⟩) hb3s).trans (HR3 y' hyn').2
                have g3 := (HR2 a' han').2
                rw [hae'] at c1
                rw [hse'] at c2
                rw [hfe'] at g3
                have HG3 := Lib.hid g3
                have r2 := (HBW.out.cell (p := ⟨w.heap.size, 2, none⟩) hsz).trans q2
                have hyi' : (y' : Int) < (B.nw : Int) := by omega
                have hbw' : b < wi.heap.size := by omega
                have hb3w' : b3 < wi.heap.size := by omega
                have hhw' : w.heap.size < wi.heap.size := by omega
                have HBZi : Hid (Below wi.heap.size wi wi.drew) := (Below.refl _ _).drew
                have SId := old_of HBZi.out
                clear hy' hs' ha' hf' hse' hae' hfe' hyn' HR HR2 HR3 g3 r0
                go_wp2
                refine wp_region_held_drew (S := (fun w' => (∀ b o, b < wi.heap.size → w'.cell? ⟨b, o, none⟩ = wi.cell? ⟨b, o, none⟩) ∧ Hid (Below wi.heap.size wi w'))) (by kernel_rfl) SId (fun hHeld => ?_)
                (refine wpAnyH_take (i := 0) (v := ?_) rfl (by kernel_rfl) (by kernel_rfl) (by kernel_rfl) (fun _ _ _ h => h) (Or.inl ⟨by rfl, ?_⟩) (by assumption) ?_; rotate_left; (focus (intro w hSw; (try dsimp only at hSw); go_simp; (try with_reducible rfl))); (try simp only [List.getElem_toArray, List.getElem_cons_zero, List.getElem_cons_succ, Act.put, List.setIfInBounds_toArray, List.set_cons_zero, List.set_cons_succ])); (refine wpAnyH_take (i := 1) (v := ?_) rfl (by kernel_rfl) (by kernel_rfl) (by kernel_rfl) (fun _ _ _ h => h) (Or.inl ⟨by rfl, ?_⟩) (by assumption) ?_; rotate_left; (focus (intro w hSw; (try dsimp only at hSw); go_simp; (try with_reducible rfl))); (try simp only [List.getElem_toArray, List.getElem_cons_zero, List.getElem_cons_succ, Act.put, List.setIfInBounds_toArray, List.set_cons_zero, List.set_cons_succ])); (refine wpAnyH_take (i := 2) (v := ?_) rfl (by kernel_rfl) (by kernel_rfl) (by kernel_rfl) (fun _ _ _ h => h) (Or.inl ⟨by rfl, ?_⟩) (by assumption) ?_; rotate_left; (focus (intro w hSw; (try dsimp only at hSw); go_simp; (try with_reducible rfl))); (try simp only [List.getElem_toArray, List.getElem_cons_zero, List.getElem_cons_succ, Act.put, List.setIfInBounds_toArray, List.set_cons_zero, List.set_cons_succ])); (refine wpAnyH_take (i := 3) (v := ?_) rfl (by kernel_rfl) (by kernel_rfl) (by kernel_rfl) (fun _ _ _ h => h) (Or.inl ⟨by rfl, ?_⟩) (by assumption) ?_; rotate_left; (focus (intro w hSw; (try dsimp only at hSw); go_simp; (try with_reducible rfl))); (try simp only [List.getElem_toArray, List.getElem_cons_zero, List.getElem_cons_succ, Act.put, List.setIfInBounds_toArray, List.set_cons_zero, List.set_cons_succ])); (refine wpAnyH_take (i := 4) (v := ?_) rfl (by kernel_rfl) (by kernel_rfl) (by kernel_rfl) (fun _ _ _ h => h) (Or.inl ⟨by rfl, ?_⟩) (by assumption) ?_; rotate_left; (focus (intro w hSw; (try dsimp only at hSw); go_simp; (try with_reducible rfl))); (try simp only [List.getElem_toArray, List.getElem_cons_zero, List.getElem_cons_succ, Act.put, List.setIfInBounds_toArray, List.set_cons_zero, List.set_cons_succ])); (refine wpAnyH_take (i := 5) (v := ?_) rfl (by kernel_rfl) (by kernel_rfl) (by kernel_rfl) (fun _ _ _ h => h) (Or.inl ⟨by rfl, ?_⟩) (by assumption) ?_; rotate_left; (focus (intro w hSw; (try dsimp only at hSw); go_simp; (try with_reducible rfl))); (try simp only [List.getElem_toArray, List.getElem_cons_zero, List.getElem_cons_succ, Act.put, List.setIfInBounds_toArray, List.set_cons_zero, List.set_cons_succ])); (refine wpAnyH_take (i := 6) (v := ?_) rfl (by kernel_rfl) (by kernel_rfl) (by kernel_rfl) (fun _ _ _ h => h) (Or.inl ⟨by rfl, ?_⟩) (by assumption) ?_; rotate_left; (focus (intro w hSw; (try dsimp only at hSw); go_simp; (try with_reducible rfl))); (try simp only [List.getElem_toArray, List.getElem_cons_zero, List.getElem_cons_succ, Act.put, List.setIfInBounds_toArray, List.set_cons_zero, List.set_cons_succ])); (refine wpAnyH_take (i := 7) (v := ?_) rfl (by kernel_rfl) (by kernel_rfl) (by kernel_rfl) (fun _ _ _ h => h) (Or.inl ⟨by rfl, ?_⟩) (by assumption) ?_; rotate_left; (focus (intro w hSw; (try dsimp only at hSw); go_simp; (try with_reducible rfl))); (try simp only [List.getElem_toArray, List.getElem_cons_zero, List.getElem_cons_succ, Act.put, List.setIfInBounds_toArray, List.set_cons_zero, List.set_cons_succ]))
                refine wpAnyH_ready (rs := [8]) (by kernel_rfl) (by simp) ?_; refine AllReadyH.cons rfl (fun K hK => ?_) AllReadyH.nil; go_simp
                obtain ⟨wa, hwa, hba, hca⟩ : ∃ wa, (wi.alloc (.cells #[.int .i64 0, .int .i64 0] 43)).drew = wa ∧ Below wi.heap.size wi wa ∧ wa.heap[wi.heap.size]? = some (.cells #[.int .i64 0, .int .i64 0] 43) := ⟨_, rfl, (below_alloc (Nat.le_refl _) _).drew, World.alloc_heap_new _ _⟩
                rw [hwa]
                have HBa := Lib.hid hba
                have HCa := Lib.hid hca
                have Sa := old_of hba
                clear hwa hba hca
                refine hK.out _ _ Sa (fun hHeld => ?_)
                clear hK K
                (try simp only [List.getElem_toArray, List.getElem_cons_zero, List.getElem_cons_succ, Act.put, List.setIfInBounds_toArray, List.set_cons_zero, List.set_cons_succ])
                have z0 := cell_blk HCa.out 0 rfl
                have z1 := cell_blk HCa.out 1 rfl
                have zf0 := free_blk HCa.out 0
                have zf1 := free_blk HCa.out 1
                refine wpAnyH_ready (rs := [9]) (by kernel_rfl) (by simp) ?_; refine AllReadyH.cons rfl (fun K hK => ?_) AllReadyH.nil; go_simp
                obtain ⟨wb1, hwb, hcb, hbb⟩ := put2 HCa.out (.int .i64 a') (.int .i64 s')
                rw [hwb]
                have HBb1 : Hid (Below wi.heap.size wi wb1) := HBa.out.trans hbb
                have HCb1 := Lib.hid hcb
                have Sb := old_of HBb1.out
                clear hwb hcb hbb z0 z1 zf0 zf1 Sa
                refine hK.out _ _ Sb (fun hHeld => ?_)
                clear hK K
                (try simp only [List.getElem_toArray, List.getElem_cons_zero, List.getElem_cons_succ, Act.put, List.setIfInBounds_toArray, List.set_cons_zero, List.set_cons_succ])
                refine wpAnyH_done (by kernel_rfl) ?_ _; clear hHeld
                clear Sb SId
                obtain ⟨g1, hg1⟩ : ∃ g1, wi.heap.size = g1 := ⟨_, rfl⟩
                have HG1 := Lib.hid hg1
                have HBX : Hid (Below wo.heap.size wo wb1) := bel HBi.out HBb1.out
                rw [hg1] at HCb1 ⊢
                have y0 := cell_blk HCb1.out 0 rfl
                have y1 := cell_blk HCb1.out 1 rfl
                have HBY : Hid (Below ws.heap.size ws wb1) := bel HBo.out HBX.out
                have r1 := (HBY.out.cell (p := ⟨w.heap.size, 1, none⟩) hsz).trans q1
                have d1 := (HBY.out.cell (p := ⟨b2, off2 + a' * 2 + 1, none⟩) hb2s).trans HG3.out
                have hai' : (a' : Int) < (B.ng : Int) := by omega
                clear hg1 c0 c1 c2 r2
                by_cases hss : s' = k
                · have hb1 : ((s' : Int) != (k : Int)) = false := by simp; omega
                  by_cases hff : f' = q
                  · have hb2 : ((f' : Int) == (q : Int)) = true := by simp; omega
                    have HD1 : Hid (cS B (natL (j + 1) x) k = zs + 1) := by unfold Hid; rw [HC1.out, if_pos hss]
                    have HD2 : Hid (cT B (natL (j + 1) x) k q = zt + 1) := by unfold Hid; rw [HC2.out, if_pos ⟨hss, hff⟩]
                    clear hss hff
                    go_wp2
                    go_roundw
                    case rel => exact ⟨j + 1, by omega, by go_num, by rw [HD1.out]; go_num, by rw [HD2.out]; go_num, HBX⟩
                    case measure => simp [intOf]; omega
                  · have hb2 : ((f' : Int) == (q : Int)) = false := by simp; omega
                    have HD1 : Hid (cS B (natL (j + 1) x) k = zs + 1) := by unfold Hid; rw [HC1.out, if_pos hss]
                    have HD2 : Hid (cT B (natL (j + 1) x) k q = zt) := by unfold Hid; rw [HC2.out, if_neg fun e => hff e.2]; rfl
                    clear hss hff
                    go_wp2
                    go_roundw
                    case rel => exact ⟨j + 1, by omega, by go_num, by rw [HD1.out]; go_num, by rw [HD2.out], HBX⟩
                    case measure => simp [intOf]; omega
                · have hb1 : ((s' : Int) != (k : Int)) = true := by simp; omega
                  have HD1 : Hid (cS B (natL (j + 1) x) k = zs) := by unfold Hid; rw [HC1.out, if_neg hss]; rfl
                  have HD2 : Hid (cT B (natL (j + 1) x) k q = zt) := by unfold Hid; rw [HC2.out, if_neg fun e => hss e.1]; rfl
                  clear hss
                  go_wp2
                  go_roundw
                  case rel => exact ⟨j + 1, by omega, by go_num, by rw [HD1.out], by rw [HD2.out], HBX⟩
                  case measure => simp [intOf]; omega
              · have hjj : n = j := by omega
                subst hjj
                have HBW : Hid (Below ws.heap.size ws wi) := bel HBo.out HBi.out
                have HOI := Lib.hid (own_below HO.out HBi.out)
                rw [HZS.out, HZT.out] at HLI
                clear r0
                by_cases hg0 : 0 < zs
                · have hgi : (0 : Int) < (zs : Int) := by omega
                  by_cases hge : zs = zt
                  · have hgq : ((zs : Int) == (zt : Int)) = true := by simp; omega
                    have HP := Lib.hid (HPS.out (by rw [HLI.out, decide_eq_true hg0, decide_eq_true hge]; rfl))
                    have hs3 := HBW.out.size
                    clear hg0 hge
                    go_wp2_with (at_builtin; refine wpList_append_own _ rfl _ _ 22 rfl ws.heap.size 3 i0 (.int .i64 0) 1 8 Try.underlying22 hi0 hz0 hz1 hz2 rfl (by decide) _ _ _ rfl (HOI.out.alloc _) ⟨wi.heap.size, 0, none⟩ 1 1 [.int .i64 k] rfl rfl (cell_one_new _ _ _) (by simp [Value.oneCell']) (by unfold maxLen; omega) (by omega) (by simp; omega) ?_; intro v' w4 hown4 hgrow _)
                    go_roundw
                    case rel => exact ⟨k + 1, by omega, by go_num, by rw [HP.out]; unfold Hid OwnI; rw [List.length_append, List.map_append]; exact hown4, (HBW.out.alloc HBW.out.size _).grown hgrow (by simp; omega) (fun j e => (HOI.out.lt j e).1)⟩
                    case measure => simp [intOf]; omega
                  · have hgq : ((zs : Int) == (zt : Int)) = false := by simp; omega
                    have HP := Lib.hid (HPM.out (by rw [HLI.out, decide_eq_false hge, Bool.and_false]))
                    clear hg0 hge
                    go_wp2
                    go_roundw
                    case rel => exact ⟨k + 1, by omega, by go_num, by rw [HP.out]; exact HOI, HBW⟩
                    case measure => simp [intOf]; omega
                · have hgi : ¬ (0 : Int) < (zs : Int) := by omega
                  have HP := Lib.hid (HPM.out (by rw [HLI.out, decide_eq_false hg0, Bool.false_and]))
                  clear hg0
                  go_wp2
                  go_roundw
                  case rel => exact ⟨k + 1, by omega, by go_num, by rw [HP.out]; exact HOI, HBW⟩
                  case measure => simp [intOf]; omega
          · have hkk : k = B.ns := by omega
            subst hkk
            go_wp2
            go_ret2
            exact ⟨_, by rw [HE2.out]; rfl, by rw [HE2.out]; exact own_mono ho.out HB.out.size, fin HB.out HBr.out⟩

end Go.Proofs.Ytnnngbnimmcjiaa
