/-
  RAlone: how often a sort can be given, as the reference finds it.
-/
import Derived.Test.YtnnngbnimmcjiaaAlone
namespace Go.Proofs.Ytnnngbnimmcjiaa
open Go.RowKit

set_option maxHeartbeats 3200000 in
set_option maxRecDepth 100000 in
theorem rAlone_any (N : Nat) (v : Value) (B : SB) (a : Int) (w : World) (h : BookAt N w v B) :
    Calls Try.prog 40 #[v, .int .i64 a] w fun e w' => e = .returned (.tuple #[.int .i64 (eAlone B a).1, .int .i64 (eAlone B a).2]) ∧ Below w.heap.size w w' := by
  have h' := h
  obtain ⟨_, a1, z1, a2, z2, a3, z3, rfl, _⟩ := h'
  obtain ⟨ws, hws, HB, hsz, hblk⟩ := box1 w (.cells #[.slice a1 B.ns z1, .slice a2 B.ng z2, .slice a3 B.nw z3] 26)
  have q0 := cell_blk hblk 0 rfl
  have q1 := cell_blk hblk 1 rfl
  have q2 := cell_blk hblk 2 rfl
  have HBK := Lib.hid (h.go HB.out)
  have HB0 : Hid (Below ws.heap.size ws ws) := Below.refl _ _
  have HNS : Hid (N ≤ ws.heap.size) := HBK.out.1
  have hlens := h.lens
  obtain ⟨hlv, hls, hln⟩ := hlens
  clear hblk h
  have S0d := old_of HB0.out.drew; have HB0d := S0d.2
  obtain ⟨bs, hbs⟩ : ∃ bs, (decide (0 ≤ a) && decide (a < B.ns)) = bs := ⟨_, rfl⟩
  have HBS := Lib.hid hbs
  cases hvi : (okL B && bs) with
  | false =>
    have HE : Hid (eAlone B a = (0, errA (okL B) bs)) := by unfold Hid eAlone; rw [hbs, hvi]; rfl
    obtain ⟨er, her⟩ : ∃ er, errA (okL B) bs = er := ⟨_, rfl⟩
    have HER := Lib.hid her
    have hne : (er != 0) = true := by rw [← her]; simpa using errA_no hvi
    rw [her] at HE
    clear hvi her hbs
    go_enter Try.func40, Try.ntmps40
    go_upto_region 1 with fail
    clear hws
    refine wp_region_held_drew (S := (fun w' => (∀ b o, b < ws.heap.size → w'.cell? ⟨b, o, none⟩ = ws.cell? ⟨b, o, none⟩) ∧ Hid (Below ws.heap.size ws w'))) (by kernel_rfl) S0d (fun hHeld => ?_)
    (refine wpAnyH_take (i := 0) (v := ?_) rfl (by kernel_rfl) (by kernel_rfl) (by kernel_rfl) (fun _ _ _ h => h) (Or.inl ⟨by rfl, ?_⟩) (by assumption) ?_; rotate_left; (focus (intro w hSw; (try dsimp only at hSw); go_simp; (try with_reducible rfl))); (try simp only [List.getElem_toArray, List.getElem_cons_zero, List.getElem_cons_succ, Act.put, List.setIfInBounds_toArray, List.set_cons_zero, List.set_cons_succ])); (refine wpAnyH_take (i := 1) (v := ?_) rfl (by kernel_rfl) (by kernel_rfl) (by kernel_rfl) (fun _ _ _ h => h) (Or.inl ⟨by rfl, ?_⟩) (by assumption) ?_; rotate_left; (focus (intro w hSw; (try dsimp only at hSw); go_simp; (try with_reducible rfl))); (try simp only [List.getElem_toArray, List.getElem_cons_zero, List.getElem_cons_succ, Act.put, List.setIfInBounds_toArray, List.set_cons_zero, List.set_cons_succ])); (refine wpAnyH_take (i := 2) (v := ?_) rfl (by kernel_rfl) (by kernel_rfl) (by kernel_rfl) (fun _ _ _ h => h) (Or.inl ⟨by rfl, ?_⟩) (by assumption) ?_; rotate_left; (focus (intro w hSw; (try dsimp only at hSw); go_simp; (try with_reducible rfl))); (try simp only [List.getElem_toArray, List.getElem_cons_zero, List.getElem_cons_succ, Act.put, List.setIfInBounds_toArray, List.set_cons_zero, List.set_cons_succ]))
    refine wpAnyH_ready (rs := [3]) (by kernel_rfl) (by simp) ?_; refine AllReadyH.cons rfl (fun K hK => ?_) AllReadyH.nil; go_simp
    go_at_call 23
    refine (isSort_eq N _ B a bs _ (HBK.out.go HB0d.out) HBS.out).mono ?_
    rintro e w1 ⟨rfl, hb1⟩
    have S1 := old_of (bel HB0d.out hb1)
    have HB1 := S1.2
    clear hb1
    refine hK.out _ _ S1 (fun hHeld => ?_); clear hK K; (try simp only [List.getElem_toArray, List.getElem_cons_zero, List.getElem_cons_succ, Act.put, List.setIfInBounds_toArray, List.set_cons_zero, List.set_cons_succ])
    refine wpAnyH_ready (rs := [4]) (by kernel_rfl) (by simp) ?_; refine AllReadyH.cons rfl (fun K hK => ?_) AllReadyH.nil; go_simp
    go_at_call 67
    refine (rask_any N _ B bs _ (HBK.out.go HB1.out)).mono ?_
    rintro e w2 ⟨rfl, hb2⟩
    rw [HER.out]
    have S2 := old_of (bel HB1.out hb2)
    have HB2 := S2.2
    clear hb2 S1
    refine hK.out _ _ S2 (fun hHeld => ?_); clear hK K; (try simp only [List.getElem_toArray, List.getElem_cons_zero, List.getElem_cons_succ, Act.put, List.setIfInBounds_toArray, List.set_cons_zero, List.set_cons_succ])
    (refine wpAnyH_take (i := 5) (v := ?_) rfl (by kernel_rfl) (by kernel_rfl) (by kernel_rfl) (fun _ _ _ h => h) (Or.inl ⟨by rfl, ?_⟩) (by assumption) ?_; rotate_left; (focus (intro w hSw; (try dsimp only at hSw); go_simp; (try with_reducible rfl))); (try simp only [List.getElem_toArray, List.getElem_cons_zero, List.getElem_cons_succ, Act.put, List.setIfInBounds_toArray, List.set_cons_zero, List.set_cons_succ]))
    refine wpAnyH_done (by kernel_rfl) ?_ _; clear hHeld
    go_wp2
    go_ret2
    exact ⟨by rw [HE.out]; rfl, fin HB.out HB2.out⟩
  | true =>
    have hvi' := hvi
    rw [Bool.and_eq_true] at hvi'
    obtain ⟨hv, rfl⟩ := hvi'
    have hG := goodL hv
    have HG := Lib.hid hG
    have hea : errA (okL B) true = 0 := by rw [hv]; rfl
    have HEA := Lib.hid hea
    obtain ⟨s, rfl⟩ : ∃ s : Nat, a = s := ⟨a.toNat, by simp at hbs; omega⟩
    have hsn : s < B.ns := by simp at hbs; omega
    have hsi : (s : Int) < (B.ns : Int) := by omega
    have HE : Hid (eAlone B s = (((cS B (bestL (fun g => cS B g s) (giftsL B)) s : Nat) : Int), 0)) := by unfold Hid eAlone; rw [hv, hbs, Int.toNat_natCast]; rfl
    have HALL : Hid (∀ g, g ∈ giftsL B → GOK B g) := fun g hg => giftsL_ok hg
    obtain ⟨m, hm⟩ : ∃ m, (giftsL B).length = m := ⟨_, rfl⟩
    have HM := Lib.hid hm
    have hmp : 0 < m := by rw [← hm]; simp [giftsL]
    have hml : m ≤ 4096 := by rw [← hm]; have := tailG_len12 B hG.nw []; simpa [giftsL] using this
    have HNW := Lib.hid hG.nw
    have hns := hG.ns
    clear hm hG hv hvi hbs hea
    go_enter Try.func40, Try.ntmps40
    go_upto_region 1 with fail
    clear hws
    refine wp_region_held_drew (S := (fun w' => (∀ b o, b < ws.heap.size → w'.cell? ⟨b, o, none⟩ = ws.cell? ⟨b, o, none⟩) ∧ Hid (Below ws.heap.size ws w'))) (by kernel_rfl) S0d (fun hHeld => ?_)
    (refine wpAnyH_take (i := 0) (v := ?_) rfl (by kernel_rfl) (by kernel_rfl) (by kernel_rfl) (fun _ _ _ h => h) (Or.inl ⟨by rfl, ?_⟩) (by assumption) ?_; rotate_left; (focus (intro w hSw; (try dsimp only at hSw); go_simp; (try with_reducible rfl))); (try simp only [List.getElem_toArray, List.getElem_cons_zero, List.getElem_cons_succ, Act.put, List.setIfInBounds_toArray, List.set_cons_zero, List.set_cons_succ])); (refine wpAnyH_take (i := 1) (v := ?_) rfl (by kernel_rfl) (by kernel_rfl) (by kernel_rfl) (fun _ _ _ h => h) (Or.inl ⟨by rfl, ?_⟩) (by assumption) ?_; rotate_left; (focus (intro w hSw; (try dsimp only at hSw); go_simp; (try with_reducible rfl))); (try simp only [List.getElem_toArray, List.getElem_cons_zero, List.getElem_cons_succ, Act.put, List.setIfInBounds_toArray, List.set_cons_zero, List.set_cons_succ])); (refine wpAnyH_take (i := 2) (v := ?_) rfl (by kernel_rfl) (by kernel_rfl) (by kernel_rfl) (fun _ _ _ h => h) (Or.inl ⟨by rfl, ?_⟩) (by assumption) ?_; rotate_left; (focus (intro w hSw; (try dsimp only at hSw); go_simp; (try with_reducible rfl))); (try simp only [List.getElem_toArray, List.getElem_cons_zero, List.getElem_cons_succ, Act.put, List.setIfInBounds_toArray, List.set_cons_zero, List.set_cons_succ]))
    refine wpAnyH_ready (rs := [3]) (by kernel_rfl) (by simp) ?_; refine AllReadyH.cons rfl (fun K hK => ?_) AllReadyH.nil; go_simp
    go_at_call 23
    refine (isSort_eq N _ B s true _ (HBK.out.go HB0d.out) HBS.out).mono ?_
    rintro e w1 ⟨rfl, hb1⟩
    have S1 := old_of (bel HB0d.out hb1)
    have HB1 := S1.2
    clear hb1
    refine hK.out _ _ S1 (fun hHeld => ?_); clear hK K; (try simp only [List.getElem_toArray, List.getElem_cons_zero, List.getElem_cons_succ, Act.put, List.setIfInBounds_toArray, List.set_cons_zero, List.set_cons_succ])
    refine wpAnyH_ready (rs := [4]) (by kernel_rfl) (by simp) ?_; refine AllReadyH.cons rfl (fun K hK => ?_) AllReadyH.nil; go_simp
    go_at_call 67
    refine (rask_any N _ B true _ (HBK.out.go HB1.out)).mono ?_
    rintro e w2 ⟨rfl, hb2⟩
    rw [HEA.out]
    have S2 := old_of (bel HB1.out hb2)
    have HB2 := S2.2
    clear hb2 S1
    refine hK.out _ _ S2 (fun hHeld => ?_); clear hK K; (try simp only [List.getElem_toArray, List.getElem_cons_zero, List.getElem_cons_succ, Act.put, List.setIfInBounds_toArray, List.set_cons_zero, List.set_cons_succ])
    (refine wpAnyH_take (i := 5) (v := ?_) rfl (by kernel_rfl) (by kernel_rfl) (by kernel_rfl) (fun _ _ _ h => h) (Or.inl ⟨by rfl, ?_⟩) (by assumption) ?_; rotate_left; (focus (intro w hSw; (try dsimp only at hSw); go_simp; (try with_reducible rfl))); (try simp only [List.getElem_toArray, List.getElem_cons_zero, List.getElem_cons_succ, Act.put, List.setIfInBounds_toArray, List.set_cons_zero, List.set_cons_succ]))
    refine wpAnyH_done (by kernel_rfl) ?_ _; clear hHeld
    have c2 := S2.1
    clear S2
    go_wp2_with (go_at_call 69; refine (gifts_ref N _ B 4 HG.out B.nw [] (.slice none 0 0) 0 _ (HBK.out.go HB2.out) (by simp) (Nat.le_refl _) (.inl ⟨rfl, rfl⟩) (GOK.nil B) (by simp [nxG])).mono ?_; rw [show ([] :: tailG B B.nw []) = giftsL B from rfl]; rintro e w3 ⟨v2, rfl, hrl2, hb2⟩; obtain ⟨g2, c2', rows2, hv2, o2, l2, n2, m2, s2⟩ := hrl2.open (by rw [HM.out]; exact hmp); rw [HM.out] at hv2 l2; subst hv2; have HL2 := Lib.hid (And.intro l2 (And.intro n2 (And.intro m2 s2))); have HO2 := Lib.hid o2; clear hrl2 o2 l2 n2 m2 s2; have HB3 : Hid (Below ws.heap.size ws w3) := bel HB2.out hb2; clear hb2 c2)
    have HL3 : Hid (∀ (i : Nat) (b : List Nat), (giftsL B)[i]? = some b → ∃ r, w3.cell? ⟨g2, i, none⟩ = some r ∧ GU 0 w3 r b) := fun i b hi => by
      obtain ⟨r, h1, h2⟩ := HL2.out.2.2.1 i b hi
      have h3 := HL2.out.2.2.2 i r h1
      rw [show ((⟨g2, 0, none⟩ : Addr).add i) = ⟨g2, i, none⟩ by unfold Addr.add; split <;> simp_all] at h3
      exact ⟨r, h3, h2⟩
    have HGL : Hid (g2 < w3.heap.size) := (HO2.out.lt g2 rfl).2
    clear HL2 HO2
    go_loopw [8, 9] (fun nv i wr => ∃ (k : Nat), k ≤ m ∧ i = .int .i64 k ∧ nv = .int .i64 (cS B (bestL (fun g => cS B g s) ((giftsL B).take k)) s : Nat) ∧ Hid (Below w3.heap.size w3 wr)) (fun _ i _ => m - (intOf i).toNat)
    case atStart => exact ⟨0, Nat.zero_le _, rfl, by rw [List.take_zero]; rfl, Below.refl _ _⟩
    case round =>
      obtain ⟨k, hk, rfl, rfl, HBr⟩ := hrel
      have HBw : Hid (Below ws.heap.size ws wr) := bel HB3.out HBr.out
      have r0 := (HBw.out.cell (p := ⟨w.heap.size, 0, none⟩) hsz).trans q0
      have r1 := (HBw.out.cell (p := ⟨w.heap.size, 1, none⟩) hsz).trans q1
      have r2 := (HBw.out.cell (p := ⟨w.heap.size, 2, none⟩) hsz).trans q2
      by_cases hkn : k < m
      · have hki : (k : Int) < (m : Int) := by omega
        obtain ⟨b, hbk⟩ : ∃ b, (giftsL B)[k]? = some b := ⟨_, List.getElem?_eq_getElem (by rw [HM.out]; exact hkn)⟩
        have HBG := Lib.hid (HALL.out b (List.mem_of_getElem? hbk))
        have HTK : Hid ((giftsL B).take (k + 1) = (giftsL B).take k ++ [b]) := by
          unfold Hid
          rw [List.take_add_one, hbk]; rfl
        obtain ⟨r, hr, hgu⟩ := HL3.out k b hbk
        obtain ⟨ar, cr', rfl⟩ := hgu.form
        obtain ⟨n, hn⟩ : ∃ n, b.length = n := ⟨_, rfl⟩
        have hn12 : n ≤ 1000 := by have := HBG.out.len; have := HBG.out.top; have := HNW.out; omega
        have HCN : Hid (cS B (natL n (fun i => ((b.getD i 0 : Nat) : Int))) = cS B b) := by unfold Hid; rw [← hn, natL_nums]
        have hgi := hgu.ints (by omega)
        rw [hn] at hr hgi
        have HI := Lib.hid (hgi.mono HBr.out HBr.out.size)
        have cell := (HBr.out.cell (p := ⟨g2, k, none⟩) HGL.out).trans hr
        have HXL : Hid (∀ i, i < n → (0 : Int) ≤ ((b.getD i 0 : Nat) : Int) ∧ ((b.getD i 0 : Nat) : Int) < B.nw) := fun i hi => by
          have hm : b.getD i 0 ∈ b := by rw [List.getD_eq_getElem?_getD, List.getElem?_eq_getElem (by omega)]; exact List.getElem_mem _
          have h1 := HBG.out.lt _ hm; have h2 := HBG.out.top; omega
        have HVA : Hid (cS B (bestL (fun g => cS B g s) ((giftsL B).take (k + 1))) s = Nat.max (cS B (bestL (fun g => cS B g s) ((giftsL B).take k)) s) (cS B b s)) := by unfold Hid; rw [HTK.out]; exact best_val (f := fun g => cS B g s) _ _
        obtain ⟨z, hz⟩ : ∃ z, cS B (bestL (fun g => cS B g s) ((giftsL B).take k)) s = z := ⟨_, rfl⟩
        obtain ⟨y, hy⟩ : ∃ y, cS B b s = y := ⟨_, rfl⟩
        have HY := Lib.hid hy
        rw [hz, hy] at HVA
        rw [hz]
        clear hbk hgu hn hgi hr hz hy
        have HBZ : Hid (Below wr.heap.size wr wr) := Below.refl _ _
        have SZd := old_of HBZ.out.drew; have HBZd := SZd.2
        have hg2r : g2 < wr.heap.size := Nat.lt_of_lt_of_le HGL.out HBr.out.size
        have hszr : w.heap.size < wr.heap.size := Nat.lt_of_lt_of_le hsz HBw.out.size
        go_wp2
        refine wp_region_held_drew (S := (fun w' => (∀ b o, b < wr.heap.size → w'.cell? ⟨b, o, none⟩ = wr.cell? ⟨b, o, none⟩) ∧ Hid (Below wr.heap.size wr w'))) (by kernel_rfl) SZd (fun hHeld => ?_)
        (refine wpAnyH_take (i := 0) (v := ?_) rfl (by kernel_rfl) (by kernel_rfl) (by kernel_rfl) (fun _ _ _ h => h) (Or.inl ⟨by rfl, ?_⟩) (by assumption) ?_; rotate_left; (focus (intro w hSw; (try dsimp only at hSw); go_simp; (try with_reducible rfl))); (try simp only [List.getElem_toArray, List.getElem_cons_zero, List.getElem_cons_succ, Act.put, List.setIfInBounds_toArray, List.set_cons_zero, List.set_cons_succ])); (refine wpAnyH_take (i := 1) (v := ?_) rfl (by kernel_rfl) (by kernel_rfl) (by kernel_rfl) (fun _ _ _ h => h) (Or.inl ⟨by rfl, ?_⟩) (by assumption) ?_; rotate_left; (focus (intro w hSw; (try dsimp only at hSw); go_simp; (try with_reducible rfl))); (try simp only [List.getElem_toArray, List.getElem_cons_zero, List.getElem_cons_succ, Act.put, List.setIfInBounds_toArray, List.set_cons_zero, List.set_cons_succ])); (refine wpAnyH_take (i := 2) (v := ?_) rfl (by kernel_rfl) (by kernel_rfl) (by kernel_rfl) (fun _ _ _ h => h) (Or.inl ⟨by rfl, ?_⟩) (by assumption) ?_; rotate_left; (focus (intro w hSw; (try dsimp only at hSw); go_simp; (try with_reducible rfl))); (try simp only [List.getElem_toArray, List.getElem_cons_zero, List.getElem_cons_succ, Act.put, List.setIfInBounds_toArray, List.set_cons_zero, List.set_cons_succ])); (refine wpAnyH_take (i := 3) (v := ?_) rfl (by kernel_rfl) (by kernel_rfl) (by kernel_rfl) (fun _ _ _ h => h) (Or.inl ⟨by rfl, ?_⟩) (by assumption) ?_; rotate_left; (focus (intro w hSw; (try dsimp only at hSw); go_simp; (try with_reducible rfl))); (try simp only [List.getElem_toArray, List.getElem_cons_zero, List.getElem_cons_succ, Act.put, List.setIfInBounds_toArray, List.set_cons_zero, List.set_cons_succ])); (refine wpAnyH_take (i := 4) (v := ?_) rfl (by kernel_rfl) (by kernel_rfl) (by kernel_rfl) (fun _ _ _ h => h) (Or.inl ⟨by rfl, ?_⟩) (by assumption) ?_; rotate_left; (focus (intro w hSw; (try dsimp only at hSw); go_simp; (try with_reducible rfl))); (try simp only [List.getElem_toArray, List.getElem_cons_zero, List.getElem_cons_succ, Act.put, List.setIfInBounds_toArray, List.set_cons_zero, List.set_cons_succ])); (refine wpAnyH_take (i := 5) (v := ?_) rfl (by kernel_rfl) (by kernel_rfl) (by kernel_rfl) (fun _ _ _ h => h) (Or.inl ⟨by rfl, ?_⟩) (by assumption) ?_; rotate_left; (focus (intro w hSw; (try dsimp only at hSw); go_simp; (try with_reducible rfl))); (try simp only [List.getElem_toArray, List.getElem_cons_zero, List.getElem_cons_succ, Act.put, List.setIfInBounds_toArray, List.set_cons_zero, List.set_cons_succ]))
        (refine wpAnyH_take (i := 7) (v := ?_) rfl (by kernel_rfl) (by kernel_rfl) (by kernel_rfl) (fun _ _ _ h => h) (Or.inl ⟨by rfl, ?_⟩) (by assumption) ?_; rotate_left; (focus (intro w hSw; (try dsimp only at hSw); go_simp; (try with_reducible rfl))); (try simp only [List.getElem_toArray, List.getElem_cons_zero, List.getElem_cons_succ, Act.put, List.setIfInBounds_toArray, List.set_cons_zero, List.set_cons_succ]))
        refine wpAnyH_ready (rs := [6]) (by kernel_rfl) (by simp) ?_; refine AllReadyH.cons rfl (fun K hK => ?_) AllReadyH.nil; go_simp
        go_at_call 19
        refine (counts_any N wr.heap.size _ _ B 4 n (fun i => ((b.getD i 0 : Nat) : Int)) _ (HBK.out.go (bel HBw.out HBZd.out)) HG.out (HI.out.go (Nat.le_refl _) HBZd.out) HBZd.out.size HXL.out hn12).mono ?_
        rw [HCN.out]
        rintro e w5 ⟨⟨g5, rfl, _, hnb5⟩, hb5⟩
        have cc := hnb5.cell hsn
        rw [HY.out] at cc
        have S5 := old_of (bel HBZd.out hb5)
        have HB5 := S5.2
        clear hb5 hnb5
        refine hK.out _ _ S5 (fun hHeld => ?_); clear hK K; (try simp only [List.getElem_toArray, List.getElem_cons_zero, List.getElem_cons_succ, Act.put, List.setIfInBounds_toArray, List.set_cons_zero, List.set_cons_succ])
        (refine wpAnyH_take (i := 8) (v := ?_) rfl (by kernel_rfl) (by kernel_rfl) (by kernel_rfl) (fun _ _ _ h => h) (Or.inl ⟨by rfl, ?_⟩) (by assumption) ?_; rotate_left; (focus (intro w hSw; (try dsimp only at hSw); go_simp; (try with_reducible rfl))); (try simp only [List.getElem_toArray, List.getElem_cons_zero, List.getElem_cons_succ, Act.put, List.setIfInBounds_toArray, List.set_cons_zero, List.set_cons_succ]))
        refine wpAnyH_ready (rs := [9]) (by kernel_rfl) (by simp) ?_; refine AllReadyH.cons rfl (fun K hK => ?_) AllReadyH.nil; go_simp
        refine hK.out _ _ S5 (fun hHeld => ?_); clear hK K; (try simp only [List.getElem_toArray, List.getElem_cons_zero, List.getElem_cons_succ, Act.put, List.setIfInBounds_toArray, List.set_cons_zero, List.set_cons_succ])
        (refine wpAnyH_take (i := 10) (v := ?_) rfl (by kernel_rfl) (by kernel_rfl) (by kernel_rfl) (fun _ _ _ h => h) (Or.inl ⟨by rfl, ?_⟩) (by assumption) ?_; rotate_left; (focus (intro w hSw; (try dsimp only at hSw); go_simp; (try with_reducible rfl))); (try simp only [List.getElem_toArray, List.getElem_cons_zero, List.getElem_cons_succ, Act.put, List.setIfInBounds_toArray, List.set_cons_zero, List.set_cons_succ])); (refine wpAnyH_take (i := 11) (v := ?_) rfl (by kernel_rfl) (by kernel_rfl) (by kernel_rfl) (fun _ _ _ h => h) (Or.inl ⟨by rfl, ?_⟩) (by assumption) ?_; rotate_left; (focus (intro w hSw; (try dsimp only at hSw); go_simp; (try with_reducible rfl))); (try simp only [List.getElem_toArray, List.getElem_cons_zero, List.getElem_cons_succ, Act.put, List.setIfInBounds_toArray, List.set_cons_zero, List.set_cons_succ]))
        refine wpAnyH_done (by kernel_rfl) ?_ _; clear hHeld
        clear S5 SZd cc
        by_cases hlt : z < y
        · have HMX : Hid (Nat.max z y = y) := Nat.max_eq_right (Nat.le_of_lt hlt)
          have HLT := Lib.hid hlt
          have hli : (z : Int) < (y : Int) := by omega
          have HLI := Lib.hid hli
          clear hlt hli
          go_wp2
          go_roundw
          case rel => exact ⟨k + 1, by omega, by go_num, by rw [HVA.out, HMX.out]; first | rw [if_pos HLT.out] | rw [if_pos HLI.out], bel HBr.out HB5.out⟩
          case measure => simp [intOf]; omega
        · have HMX : Hid (Nat.max z y = z) := Nat.max_eq_left (by omega)
          have HLT := Lib.hid hlt
          have hli : ¬ (z : Int) < (y : Int) := by omega
          have HLI := Lib.hid hli
          clear hlt hli
          go_wp2
          go_roundw
          case rel => exact ⟨k + 1, by omega, by go_num, by rw [HVA.out, HMX.out]; first | rw [if_neg HLT.out] | rw [if_neg HLI.out], bel HBr.out HB5.out⟩
          case measure => simp [intOf]; omega
      · have hkm : k = m := by omega
        have HTA : Hid ((giftsL B).take k = giftsL B) := List.take_of_length_le (by rw [HM.out]; omega)
        rw [HTA.out]
        obtain ⟨sn, hsn⟩ : ∃ sn, cS B (bestL (fun g => cS B g s) (giftsL B)) s = sn := ⟨_, rfl⟩
        have HSNN := Lib.hid hsn
        rw [hsn]
        clear hsn
        go_wp2
        go_ret2
        exact ⟨by rw [HE.out, HSNN.out]; rfl, fin HB.out HBw.out⟩

end Go.Proofs.Ytnnngbnimmcjiaa
