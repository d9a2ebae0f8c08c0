/-
  RSafe: how many sorts can be safe, how many scions can be given, as the reference finds it.
-/
import Derived.Test.YtnnngbnimmcjiaaRBest
namespace Go.Proofs.Ytnnngbnimmcjiaa
open Go.RowKit

theorem best_val {f : List Nat → Nat} (l : List (List Nat)) (g : List Nat) : f (bestL f (l ++ [g])) = Nat.max (f (bestL f l)) (f g) := by
  rw [bestL_snoc]
  unfold bestStep
  split
  · rename_i h; exact (Nat.max_eq_right (Nat.le_of_lt h)).symm
  · rename_i h; exact (Nat.max_eq_left (Nat.le_of_not_lt h)).symm
theorem safe_pad {c : Nat → Nat} {n : Nat} (hc : ∀ i, n ≤ i → c i = 0) : ∀ m, safeC c (n + m) = safeC c n := by
  intro m
  induction m with
  | zero => rfl
  | succ m ih =>
    rw [← Nat.add_assoc]
    simp only [safeC]
    rw [hc (n + m) (by omega), ih]
    simp
theorem safeG_ns {B : SB} (hG : GoodL B 4) {g : List Nat} (h : GOK B g) : safeG B g = safeC (cS B g) B.ns := by
  have h1 := safe_pad (n := B.ns) (h.cS0 hG) (4 - B.ns)
  have := hG.ns
  rw [show B.ns + (4 - B.ns) = 4 by omega] at h1
  exact h1
theorem safeC_le4 (c : Nat → Nat) : ∀ n, safeC c n ≤ n := by
  intro n
  induction n with
  | zero => exact Nat.le_refl _
  | succ n ih => simp only [safeC]; split <;> omega

set_option maxHeartbeats 1600000 in
set_option maxRecDepth 100000 in
theorem safeOf_any (N M : Nat) (v u : Value) (B : SB) (n : Nat) (x : Nat → Int) (g : List Nat) (w : World) (h : BookAt N w v B) (hG : GoodL B 4) (hg : GOK B g) (hu : IntsAt M w u n x) (hM : M ≤ w.heap.size) (hx : ∀ i, i < n → 0 ≤ x i ∧ x i < B.nw) (hn : n ≤ 1000) (hgx : natL n x = g) :
    Calls Try.prog 21 #[v, u] w fun e w' => e = .returned (.int .i64 (safeG B g : Nat)) ∧ Below w.heap.size w w' := by
  obtain ⟨au, cu, rfl, _, _⟩ := id hu
  have h' := h
  obtain ⟨_, a1, z1, a2, z2, a3, z3, rfl, _⟩ := h'
  obtain ⟨ws, hws, HB, hsz, hblk⟩ := box1 w (.cells #[.slice a1 B.ns z1, .slice a2 B.ng z2, .slice a3 B.nw z3] 26)
  have q0 := cell_blk hblk 0 rfl
  have q1 := cell_blk hblk 1 rfl
  have q2 := cell_blk hblk 2 rfl
  have HBK := Lib.hid (h.go HB.out)
  have HB0 : Hid (Below ws.heap.size ws ws) := Below.refl _ _
  have HNS : Hid (N ≤ ws.heap.size) := HBK.out.1
  have hlens := h.lens
  obtain ⟨hlv, hls, hln⟩ := hlens
  clear hblk h
  have HX := Lib.hid (hu.go hM HB.out)
  have HM : Hid (M ≤ ws.heap.size) := Nat.le_trans hM HB.out.size
  have HG := Lib.hid hG
  have HXX := Lib.hid hx
  have HGX := Lib.hid hgx
  have HSG := Lib.hid (safeG_ns hG hg)
  have hns := hG.ns
  clear hu hM hG hx hgx hg
  go_enter Try.func21, Try.ntmps21
  go_wp2_with (go_at_call 19; refine (counts_any N M _ _ B 4 n x _ (HBK.out.go HB0.out) HG.out (HX.out.go HM.out HB0.out) (Nat.le_trans HM.out HB0.out.size) HXX.out hn).mono ?_; rw [HGX.out]; rintro e w1 ⟨⟨g1, rfl, _, hnb⟩, hb1⟩; have HN1 := Lib.hid hnb; clear hnb; (try clear c0); have HB1 := Lib.hid (bel HB0.out hb1); have c1 := (old_of HB1.out).1; clear hb1)
  clear c1 hws
  go_loop [5, 7] (fun nv i => ∃ k : Nat, k ≤ B.ns ∧ i = .int .i64 k ∧ nv = .int .i64 (safeC (cS B g) k : Nat)) (fun _ i => B.ns - (intOf i).toNat)
  case atStart => exact ⟨0, Nat.zero_le _, rfl, rfl⟩
  case round =>
    obtain ⟨k, hk, rfl, rfl⟩ := hrel
    have hz := safeC_le4 (cS B g) k
    obtain ⟨z, hze⟩ : ∃ z, safeC (cS B g) k = z := ⟨_, rfl⟩
    have HZ := Lib.hid hze
    rw [hze] at hz ⊢
    clear hze
    by_cases hkn : k < B.ns
    · have hki : (k : Int) < (B.ns : Int) := by omega
      have cc := HN1.out.cell hkn
      obtain ⟨y, hy⟩ : ∃ y, cS B g k = y := ⟨_, rfl⟩
      have HY := Lib.hid hy
      rw [hy] at cc
      clear hy
      by_cases h2 : 2 ≤ y
      · have h2i : (2 : Int) ≤ (y : Int) := by omega
        have HS : Hid (safeC (cS B g) (k + 1) = z + 1) := by unfold Hid; simp only [safeC]; rw [HZ.out, HY.out, if_pos h2]
        clear h2
        go_wp2
        go_round
        case rel => exact ⟨k + 1, by omega, by go_num, by rw [HS.out]; go_num⟩
        case measure => simp [intOf]; omega
      · have h2i : ¬ (2 : Int) ≤ (y : Int) := by omega
        have HS : Hid (safeC (cS B g) (k + 1) = z) := by unfold Hid; simp only [safeC]; rw [HZ.out, HY.out, if_neg h2]; rfl
        clear h2
        go_wp2
        go_round
        case rel => exact ⟨k + 1, by omega, by go_num, by rw [HS.out]⟩
        case measure => simp [intOf]; omega
    · have hkk : k = B.ns := by omega
      rw [hkk] at HZ
      go_wp2
      go_ret
      exact ⟨by rw [HSG.out, HZ.out]; rfl, fin HB.out HB1.out⟩

theorem safe_nil (B : SB) : safeG B [] = 0 := by simp [safeG, safeC, cS]

set_option maxHeartbeats 3200000 in
set_option maxRecDepth 100000 in
theorem rsafe_any (N : Nat) (v : Value) (B : SB) (w : World) (h : BookAt N w v B) (hG : GoodL B 4) :
    Calls Try.prog 70 #[v] w fun e w' => e = .returned (.int .i64 (safeN B : Nat)) ∧ Below w.heap.size w w' := by
  have h' := h
  obtain ⟨_, a1, z1, a2, z2, a3, z3, rfl, _⟩ := h'
  obtain ⟨ws, hws, HB, hsz, hblk⟩ := box1 w (.cells #[.slice a1 B.ns z1, .slice a2 B.ng z2, .slice a3 B.nw z3] 26)
  have q0 := cell_blk hblk 0 rfl
  have q1 := cell_blk hblk 1 rfl
  have q2 := cell_blk hblk 2 rfl
  have HBK := Lib.hid (h.go HB.out)
  have HB0 : Hid (Below ws.heap.size ws ws) := Below.refl _ _
  have HNS : Hid (N ≤ ws.heap.size) := HBK.out.1
  have hlens := h.lens
  obtain ⟨hlv, hls, hln⟩ := hlens
  clear hblk h
  have HG := Lib.hid hG
  have HALL : Hid (∀ g, g ∈ giftsL B → GOK B g) := fun g hg => giftsL_ok hg
  obtain ⟨m, hm⟩ : ∃ m, (giftsL B).length = m := ⟨_, rfl⟩
  have HM := Lib.hid hm
  have hmp : 0 < m := by rw [← hm]; simp [giftsL]
  have hml : m ≤ 4096 := by rw [← hm]; have := tailG_len12 B hG.nw []; simpa [giftsL] using this
  have HNW := Lib.hid hG.nw
  clear hm hG
  go_enter Try.func70, Try.ntmps70
  go_wp2_with (go_at_call 69; refine (gifts_ref N _ B 4 HG.out B.nw [] (.slice none 0 0) 0 _ (HBK.out.go HB0.out) (by simp) (Nat.le_refl _) (.inl ⟨rfl, rfl⟩) (GOK.nil B) (by simp [nxG])).mono ?_; rw [show ([] :: tailG B B.nw []) = giftsL B from rfl]; rintro e w3 ⟨v2, rfl, hrl2, hb2⟩; obtain ⟨g2, c2', rows2, hv2, o2, l2, n2, m2, s2⟩ := hrl2.open (by rw [HM.out]; exact hmp); rw [HM.out] at hv2 l2; subst hv2; have HL2 := Lib.hid (And.intro l2 (And.intro n2 (And.intro m2 s2))); have HO2 := Lib.hid o2; clear hrl2 o2 l2 n2 m2 s2; have HB3 : Hid (Below ws.heap.size ws w3) := hb2; clear hb2)
  have HL3 : Hid (∀ (i : Nat) (b : List Nat), (giftsL B)[i]? = some b → ∃ r, w3.cell? ⟨g2, i, none⟩ = some r ∧ GU 0 w3 r b) := fun i b hi => by
    obtain ⟨r, h1, h2⟩ := HL2.out.2.2.1 i b hi
    have h3 := HL2.out.2.2.2 i r h1
    rw [show ((⟨g2, 0, none⟩ : Addr).add i) = ⟨g2, i, none⟩ by unfold Addr.add; split <;> simp_all] at h3
    exact ⟨r, h3, h2⟩
  have HGL : Hid (g2 < w3.heap.size) := (HO2.out.lt g2 rfl).2
  clear HL2 HO2 hws
  go_loopw [4, 5] (fun nv i wr => ∃ (k : Nat), k ≤ m ∧ i = .int .i64 k ∧ nv = .int .i64 (safeG B (bestL (safeG B) ((giftsL B).take k)) : Nat) ∧ Hid (Below w3.heap.size w3 wr)) (fun _ i _ => m - (intOf i).toNat)
  case atStart => exact ⟨0, Nat.zero_le _, rfl, by rw [List.take_zero]; show _ = Value.int .i64 ((safeG B [] : Nat) : Int); rw [safe_nil]; rfl, Below.refl _ _⟩
  case round =>
    obtain ⟨k, hk, rfl, rfl, HBr⟩ := hrel
    have HBw : Hid (Below ws.heap.size ws wr) := bel HB3.out HBr.out
    have r0 := (HBw.out.cell (p := ⟨w.heap.size, 0, none⟩) hsz).trans q0
    have r1 := (HBw.out.cell (p := ⟨w.heap.size, 1, none⟩) hsz).trans q1
    have r2 := (HBw.out.cell (p := ⟨w.heap.size, 2, none⟩) hsz).trans q2
    by_cases hkn : k < m
    · have hki : (k : Int) < (m : Int) := by omega
      obtain ⟨b, hbk⟩ : ∃ b, (giftsL B)[k]? = some b := ⟨_, List.getElem?_eq_getElem (by rw [HM.out]; exact hkn)⟩
      have HBG := Lib.hid (HALL.out b (List.mem_of_getElem? hbk))
      have HTK : Hid ((giftsL B).take (k + 1) = (giftsL B).take k ++ [b]) := by
        unfold Hid
        rw [List.take_add_one, hbk]; rfl
      obtain ⟨r, hr, hgu⟩ := HL3.out k b hbk
      obtain ⟨ar, cr', rfl⟩ := hgu.form
      obtain ⟨n, hn⟩ : ∃ n, b.length = n := ⟨_, rfl⟩
      have hn12 : n ≤ 1000 := by have := HBG.out.len; have := HBG.out.top; have := HNW.out; omega
      have HCN : Hid (natL n (fun i => ((b.getD i 0 : Nat) : Int)) = b) := by unfold Hid; rw [← hn, natL_nums]
      have hgi := hgu.ints (by omega)
      rw [hn] at hr hgi
      have HI := Lib.hid (hgi.mono HBr.out HBr.out.size)
      have cell := (HBr.out.cell (p := ⟨g2, k, none⟩) HGL.out).trans hr
      have HXL : Hid (∀ i, i < n → (0 : Int) ≤ ((b.getD i 0 : Nat) : Int) ∧ ((b.getD i 0 : Nat) : Int) < B.nw) := fun i hi => by
        have hm : b.getD i 0 ∈ b := by rw [List.getD_eq_getElem?_getD, List.getElem?_eq_getElem (by omega)]; exact List.getElem_mem _
        have h1 := HBG.out.lt _ hm; have h2 := HBG.out.top; omega
      have HVA : Hid (safeG B (bestL (safeG B) ((giftsL B).take (k + 1))) = Nat.max (safeG B (bestL (safeG B) ((giftsL B).take k))) (safeG B b)) := by unfold Hid; rw [HTK.out]; exact best_val _ _
      obtain ⟨z, hz⟩ : ∃ z, safeG B (bestL (safeG B) ((giftsL B).take k)) = z := ⟨_, rfl⟩
      obtain ⟨y, hy⟩ : ∃ y, safeG B b = y := ⟨_, rfl⟩
      have HY := Lib.hid hy
      rw [hz, hy] at HVA
      rw [hz]
      clear hbk hgu hn hgi hr hz hy
      have HBZ : Hid (Below wr.heap.size wr wr) := Below.refl _ _
      have SZd := old_of HBZ.out.drew; have HBZd := SZd.2
      have hg2r : g2 < wr.heap.size := Nat.lt_of_lt_of_le HGL.out HBr.out.size
      have hszr : w.heap.size < wr.heap.size := Nat.lt_of_lt_of_le hsz HBw.out.size
      go_wp2
      refine wp_region_held_drew (S := (fun w' => (∀ b o, b < wr.heap.size → w'.cell? ⟨b, o, none⟩ = wr.cell? ⟨b, o, none⟩) ∧ Hid (Below wr.heap.size wr w'))) (by kernel_rfl) SZd (fun hHeld => ?_)
      (refine wpAnyH_take (i := 0) (v := ?_) rfl (by kernel_rfl) (by kernel_rfl) (by kernel_rfl) (fun _ _ _ h => h) (Or.inl ⟨by rfl, ?_⟩) (by assumption) ?_; rotate_left; (focus (intro w hSw; (try dsimp only at hSw); go_simp; (try with_reducible rfl))); (try simp only [List.getElem_toArray, List.getElem_cons_zero, List.getElem_cons_succ, Act.put, List.setIfInBounds_toArray, List.set_cons_zero, List.set_cons_succ])); (refine wpAnyH_take (i := 1) (v := ?_) rfl (by kernel_rfl) (by kernel_rfl) (by kernel_rfl) (fun _ _ _ h => h) (Or.inl ⟨by rfl, ?_⟩) (by assumption) ?_; rotate_left; (focus (intro w hSw; (try dsimp only at hSw); go_simp; (try with_reducible rfl))); (try simp only [List.getElem_toArray, List.getElem_cons_zero, List.getElem_cons_succ, Act.put, List.setIfInBounds_toArray, List.set_cons_zero, List.set_cons_succ])); (refine wpAnyH_take (i := 2) (v := ?_) rfl (by kernel_rfl) (by kernel_rfl) (by kernel_rfl) (fun _ _ _ h => h) (Or.inl ⟨by rfl, ?_⟩) (by assumption) ?_; rotate_left; (focus (intro w hSw; (try dsimp only at hSw); go_simp; (try with_reducible rfl))); (try simp only [List.getElem_toArray, List.getElem_cons_zero, List.getElem_cons_succ, Act.put, List.setIfInBounds_toArray, List.set_cons_zero, List.set_cons_succ])); (refine wpAnyH_take (i := 3) (v := ?_) rfl (by kernel_rfl) (by kernel_rfl) (by kernel_rfl) (fun _ _ _ h => h) (Or.inl ⟨by rfl, ?_⟩) (by assumption) ?_; rotate_left; (focus (intro w hSw; (try dsimp only at hSw); go_simp; (try with_reducible rfl))); (try simp only [List.getElem_toArray, List.getElem_cons_zero, List.getElem_cons_succ, Act.put, List.setIfInBounds_toArray, List.set_cons_zero, List.set_cons_succ])); (refine wpAnyH_take (i := 4) (v := ?_) rfl (by kernel_rfl) (by kernel_rfl) (by kernel_rfl) (fun _ _ _ h => h) (Or.inl ⟨by rfl, ?_⟩) (by assumption) ?_; rotate_left; (focus (intro w hSw; (try dsimp only at hSw); go_simp; (try with_reducible rfl))); (try simp only [List.getElem_toArray, List.getElem_cons_zero, List.getElem_cons_succ, Act.put, List.setIfInBounds_toArray, List.set_cons_zero, List.set_cons_succ])); (refine wpAnyH_take (i := 5) (v := ?_) rfl (by kernel_rfl) (by kernel_rfl) (by kernel_rfl) (fun _ _ _ h => h) (Or.inl ⟨by rfl, ?_⟩) (by assumption) ?_; rotate_left; (focus (intro w hSw; (try dsimp only at hSw); go_simp; (try with_reducible rfl))); (try simp only [List.getElem_toArray, List.getElem_cons_zero, List.getElem_cons_succ, Act.put, List.setIfInBounds_toArray, List.set_cons_zero, List.set_cons_succ]))
      refine wpAnyH_ready (rs := [6]) (by kernel_rfl) (by simp) ?_; refine AllReadyH.cons rfl (fun K hK => ?_) AllReadyH.nil; go_simp
      go_at_call 21
      refine (safeOf_any N wr.heap.size _ _ B n (fun i => ((b.getD i 0 : Nat) : Int)) b _ (HBK.out.go (bel HBw.out HBZd.out)) HG.out HBG.out (HI.out.go (Nat.le_refl _) HBZd.out) HBZd.out.size HXL.out hn12 HCN.out).mono ?_
      rw [HY.out]
      rintro e w5 ⟨rfl, hb5⟩
      have S5 := old_of (bel HBZd.out hb5)
      have HB5 := S5.2
      clear hb5
      refine hK.out _ _ S5 (fun hHeld => ?_); clear hK K; (try simp only [List.getElem_toArray, List.getElem_cons_zero, List.getElem_cons_succ, Act.put, List.setIfInBounds_toArray, List.set_cons_zero, List.set_cons_succ])
      (refine wpAnyH_take (i := 7) (v := ?_) rfl (by kernel_rfl) (by kernel_rfl) (by kernel_rfl) (fun _ _ _ h => h) (Or.inl ⟨by rfl, ?_⟩) (by assumption) ?_; rotate_left; (focus (intro w hSw; (try dsimp only at hSw); go_simp; (try with_reducible rfl))); (try simp only [List.getElem_toArray, List.getElem_cons_zero, List.getElem_cons_succ, Act.put, List.setIfInBounds_toArray, List.set_cons_zero, List.set_cons_succ])); (refine wpAnyH_take (i := 8) (v := ?_) rfl (by kernel_rfl) (by kernel_rfl) (by kernel_rfl) (fun _ _ _ h => h) (Or.inl ⟨by rfl, ?_⟩) (by assumption) ?_; rotate_left; (focus (intro w hSw; (try dsimp only at hSw); go_simp; (try with_reducible rfl))); (try simp only [List.getElem_toArray, List.getElem_cons_zero, List.getElem_cons_succ, Act.put, List.setIfInBounds_toArray, List.set_cons_zero, List.set_cons_succ]))
      refine wpAnyH_done (by kernel_rfl) ?_ _; clear hHeld
      clear S5 SZd
      by_cases hlt : z < y
      · have HMX : Hid (Nat.max z y = y) := Nat.max_eq_right (Nat.le_of_lt hlt)
        have HLT := Lib.hid hlt
        have hli : (z : Int) < (y : Int) := by omega
        have HLI := Lib.hid hli
        clear hlt hli
        go_wp2
        go_roundw
        case rel => exact ⟨k + 1, by omega, by go_num, by rw [HVA.out, HMX.out]; first | rw [if_pos HLT.out] | rw [if_pos HLI.out], bel HBr.out HB5.out⟩
        case measure => simp [intOf]; omega
      · have HMX : Hid (Nat.max z y = z) := Nat.max_eq_left (by omega)
        have HLT := Lib.hid hlt
        have hli : ¬ (z : Int) < (y : Int) := by omega
        have HLI := Lib.hid hli
        clear hlt hli
        go_wp2
        go_roundw
        case rel => exact ⟨k + 1, by omega, by go_num, by rw [HVA.out, HMX.out]; first | rw [if_neg HLT.out] | rw [if_neg HLI.out], bel HBr.out HB5.out⟩
        case measure => simp [intOf]; omega
    · have hkm : k = m := by omega
      have HTA : Hid ((giftsL B).take k = giftsL B) := List.take_of_length_le (by rw [HM.out]; omega)
      rw [HTA.out]
      have HSN : Hid (safeG B (bestL (safeG B) (giftsL B)) = safeN B) := rfl
      rw [HSN.out]
      obtain ⟨sn, hsn⟩ : ∃ sn, safeN B = sn := ⟨_, rfl⟩
      have HSNN := Lib.hid hsn
      rw [hsn]
      clear hsn
      go_wp2
      go_ret
      exact ⟨by rw [HSNN.out]; rfl, fin HB.out HBw.out⟩

end Go.Proofs.Ytnnngbnimmcjiaa
