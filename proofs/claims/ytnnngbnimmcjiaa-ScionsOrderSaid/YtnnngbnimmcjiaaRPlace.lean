/-
  RPlace: Place of the reference.
-/
import Derived.Test.YtnnngbnimmcjiaaCopyT
namespace Go.Proofs.Ytnnngbnimmcjiaa
open Go.RowKit

theorem IT.turn {lo : Nat} {W W' : World} {v : Value} {n : Nat} {x : Nat → Int} (h : IT lo W v n x) (hk : ∀ (g : Nat) (cur : Array Value), W.heap[g]? = some (.cells cur 3) → W'.heap[g]? = W.heap[g]?) : IB lo W' v n x := by
  obtain ⟨h | ⟨h0, g, cap, cur, t, rfl, h1, h2, h3, h4⟩, ht⟩ := h
  · exact .inl h
  · obtain ⟨_, cur', hc⟩ := ht g cap rfl h0
    exact .inr ⟨h0, g, cap, cur, t, rfl, h1, h2, (hk g cur' hc).trans h3, h4⟩
theorem PT.turn {T : TypeId} {lo : Nat} {W W' : World} {v : Value} {n : Nat} {x y : Nat → Int} (h : PT T lo W v n x y) (hk : ∀ (g : Nat) (cur : Array Value), W.heap[g]? = some (.cells cur T) → W'.heap[g]? = W.heap[g]?) : PB lo W' v n x y := by
  obtain ⟨h | ⟨h0, g, cap, cur, t, rfl, h1, h2, h3, h4⟩, ht, _⟩ := h
  · exact .inl h
  · obtain ⟨_, cur', hc⟩ := ht g cap rfl h0
    exact .inr ⟨h0, g, cap, cur, t, rfl, h1, h2, (hk g cur' hc).trans h3, h4⟩

set_option maxHeartbeats 3200000 in
set_option maxRecDepth 100000 in
theorem rPlace_any (N : Nat) (v : Value) (B : SB) (a : Int) (w : World) (h : BookAt N w v B) :
    Calls Try.prog 41 #[v, .int .i64 a] w fun e w' => e = .returned (.tuple #[.int .i64 (ePlace B a).1, .int .i64 (ePlace B a).2]) ∧ Below w.heap.size w w' := by
  have h' := h
  obtain ⟨_, a1, z1, a2, z2, a3, z3, rfl, _⟩ := h'
  obtain ⟨ws, hws, HB, hsz, hblk⟩ := box1 w (.cells #[.slice a1 B.ns z1, .slice a2 B.ng z2, .slice a3 B.nw z3] 26)
  have q0 := cell_blk hblk 0 rfl
  have q1 := cell_blk hblk 1 rfl
  have q2 := cell_blk hblk 2 rfl
  have HBK := Lib.hid (h.go HB.out)
  have HB0 : Hid (Below ws.heap.size ws ws) := Below.refl _ _
  have HNS : Hid (N ≤ ws.heap.size) := HBK.out.1
  have hlens := h.lens
  obtain ⟨hlv, hls, hln⟩ := hlens
  clear hblk h
  have S0d := old_of HB0.out.drew; have HB0d := S0d.2
  obtain ⟨bs, hbs⟩ : ∃ bs, (decide (0 ≤ a) && decide (a < B.ng)) = bs := ⟨_, rfl⟩
  have HBS := Lib.hid hbs
  cases hvi : (okL B && bs) with
  | false =>
    have HE : Hid (ePlace B a = (0, errA (okL B) bs)) := by unfold Hid ePlace; rw [hbs, hvi]; rfl
    obtain ⟨er, her⟩ : ∃ er, errA (okL B) bs = er := ⟨_, rfl⟩
    have HER := Lib.hid her
    have hne : (er != 0) = true := by rw [← her]; simpa using errA_no hvi
    rw [her] at HE
    clear hvi her hbs
    go_enter Try.func41, Try.ntmps41
    go_upto_region 1 with fail
    clear hws
    refine wp_region_held_drew (S := (fun w' => (∀ b o, b < ws.heap.size → w'.cell? ⟨b, o, none⟩ = ws.cell? ⟨b, o, none⟩) ∧ Hid (Below ws.heap.size ws w'))) (by kernel_rfl) S0d (fun hHeld => ?_)
    (refine wpAnyH_take (i := 0) (v := ?_) rfl (by kernel_rfl) (by kernel_rfl) (by kernel_rfl) (fun _ _ _ h => h) (Or.inl ⟨by rfl, ?_⟩) (by assumption) ?_; rotate_left; (focus (intro w hSw; (try dsimp only at hSw); go_simp; (try with_reducible rfl))); (try simp only [List.getElem_toArray, List.getElem_cons_zero, List.getElem_cons_succ, Act.put, List.setIfInBounds_toArray, List.set_cons_zero, List.set_cons_succ])); (refine wpAnyH_take (i := 1) (v := ?_) rfl (by kernel_rfl) (by kernel_rfl) (by kernel_rfl) (fun _ _ _ h => h) (Or.inl ⟨by rfl, ?_⟩) (by assumption) ?_; rotate_left; (focus (intro w hSw; (try dsimp only at hSw); go_simp; (try with_reducible rfl))); (try simp only [List.getElem_toArray, List.getElem_cons_zero, List.getElem_cons_succ, Act.put, List.setIfInBounds_toArray, List.set_cons_zero, List.set_cons_succ])); (refine wpAnyH_take (i := 2) (v := ?_) rfl (by kernel_rfl) (by kernel_rfl) (by kernel_rfl) (fun _ _ _ h => h) (Or.inl ⟨by rfl, ?_⟩) (by assumption) ?_; rotate_left; (focus (intro w hSw; (try dsimp only at hSw); go_simp; (try with_reducible rfl))); (try simp only [List.getElem_toArray, List.getElem_cons_zero, List.getElem_cons_succ, Act.put, List.setIfInBounds_toArray, List.set_cons_zero, List.set_cons_succ]))
    refine wpAnyH_ready (rs := [3]) (by kernel_rfl) (by simp) ?_; refine AllReadyH.cons rfl (fun K hK => ?_) AllReadyH.nil; go_simp
    go_at_call 24
    refine (isGarden_eq N _ B a bs _ (HBK.out.go HB0d.out) HBS.out).mono ?_
    rintro e w1 ⟨rfl, hb1⟩
    have S1 := old_of (bel HB0d.out hb1)
    have HB1 := S1.2
    clear hb1
    refine hK.out _ _ S1 (fun hHeld => ?_); clear hK K; (try simp only [List.getElem_toArray, List.getElem_cons_zero, List.getElem_cons_succ, Act.put, List.setIfInBounds_toArray, List.set_cons_zero, List.set_cons_succ])
    refine wpAnyH_ready (rs := [4]) (by kernel_rfl) (by simp) ?_; refine AllReadyH.cons rfl (fun K hK => ?_) AllReadyH.nil; go_simp
    go_at_call 67
    refine (rask_any N _ B bs _ (HBK.out.go HB1.out)).mono ?_
    rintro e w2 ⟨rfl, hb2⟩
    rw [HER.out]
    have S2 := old_of (bel HB1.out hb2)
    have HB2 := S2.2
    clear hb2 S1
    refine hK.out _ _ S2 (fun hHeld => ?_); clear hK K; (try simp only [List.getElem_toArray, List.getElem_cons_zero, List.getElem_cons_succ, Act.put, List.setIfInBounds_toArray, List.set_cons_zero, List.set_cons_succ])
    (refine wpAnyH_take (i := 5) (v := ?_) rfl (by kernel_rfl) (by kernel_rfl) (by kernel_rfl) (fun _ _ _ h => h) (Or.inl ⟨by rfl, ?_⟩) (by assumption) ?_; rotate_left; (focus (intro w hSw; (try dsimp only at hSw); go_simp; (try with_reducible rfl))); (try simp only [List.getElem_toArray, List.getElem_cons_zero, List.getElem_cons_succ, Act.put, List.setIfInBounds_toArray, List.set_cons_zero, List.set_cons_succ]))
    refine wpAnyH_done (by kernel_rfl) ?_ _; clear hHeld
    go_wp2
    go_ret2
    exact ⟨by rw [HE.out]; rfl, fin HB.out HB2.out⟩
  | true =>
    have hvi' := hvi
    rw [Bool.and_eq_true] at hvi'
    obtain ⟨hv, rfl⟩ := hvi'
    have hG := goodL hv
    have HG := Lib.hid hG
    have hea : errA (okL B) true = 0 := by rw [hv]; rfl
    have HEA := Lib.hid hea
    obtain ⟨s, rfl⟩ : ∃ s : Nat, a = s := ⟨a.toNat, by simp at hbs; omega⟩
    have hsn : s < B.ng := by simp at hbs; omega
    have hsi : (s : Int) < (B.ng : Int) := by omega
    have HGP := Lib.hid (plusB_good hG s)
    obtain ⟨s1, hs1⟩ : ∃ z, sumN (plusB B s) = z := ⟨_, rfl⟩
    obtain ⟨s0, hs0⟩ : ∃ z, sumN B = z := ⟨_, rfl⟩
    have hl1 : s1 ≤ 12 := by rw [← hs1]; exact sumN_le HGP.out
    have hl0 : s0 ≤ 12 := by rw [← hs0]; exact sumN_le HG.out
    have HE : Hid (ePlace B s = ((s1 : Int) - (s0 : Int), 0)) := by unfold Hid ePlace; rw [hv, hbs, Int.toNat_natCast, hs1, hs0]; rfl
    have HS1 := Lib.hid hs1
    have HS0 := Lib.hid hs0
    have hns := hG.ns
    have hng := hG.ng
    have hnw := hG.nw
    have HP := Lib.hid (hG.P s hsn)
    clear hG hv hvi hbs hea hs1 hs0
    go_enter Try.func41, Try.ntmps41
    go_upto_region 1 with fail
    clear hws
    refine wp_region_held_drew (S := (fun w' => (∀ b o, b < ws.heap.size → w'.cell? ⟨b, o, none⟩ = ws.cell? ⟨b, o, none⟩) ∧ Hid (Below ws.heap.size ws w'))) (by kernel_rfl) S0d (fun hHeld => ?_)
    (refine wpAnyH_take (i := 0) (v := ?_) rfl (by kernel_rfl) (by kernel_rfl) (by kernel_rfl) (fun _ _ _ h => h) (Or.inl ⟨by rfl, ?_⟩) (by assumption) ?_; rotate_left; (focus (intro w hSw; (try dsimp only at hSw); go_simp; (try with_reducible rfl))); (try simp only [List.getElem_toArray, List.getElem_cons_zero, List.getElem_cons_succ, Act.put, List.setIfInBounds_toArray, List.set_cons_zero, List.set_cons_succ])); (refine wpAnyH_take (i := 1) (v := ?_) rfl (by kernel_rfl) (by kernel_rfl) (by kernel_rfl) (fun _ _ _ h => h) (Or.inl ⟨by rfl, ?_⟩) (by assumption) ?_; rotate_left; (focus (intro w hSw; (try dsimp only at hSw); go_simp; (try with_reducible rfl))); (try simp only [List.getElem_toArray, List.getElem_cons_zero, List.getElem_cons_succ, Act.put, List.setIfInBounds_toArray, List.set_cons_zero, List.set_cons_succ])); (refine wpAnyH_take (i := 2) (v := ?_) rfl (by kernel_rfl) (by kernel_rfl) (by kernel_rfl) (fun _ _ _ h => h) (Or.inl ⟨by rfl, ?_⟩) (by assumption) ?_; rotate_left; (focus (intro w hSw; (try dsimp only at hSw); go_simp; (try with_reducible rfl))); (try simp only [List.getElem_toArray, List.getElem_cons_zero, List.getElem_cons_succ, Act.put, List.setIfInBounds_toArray, List.set_cons_zero, List.set_cons_succ]))
    refine wpAnyH_ready (rs := [3]) (by kernel_rfl) (by simp) ?_; refine AllReadyH.cons rfl (fun K hK => ?_) AllReadyH.nil; go_simp
    go_at_call 24
    refine (isGarden_eq N _ B s true _ (HBK.out.go HB0d.out) HBS.out).mono ?_
    rintro e w1 ⟨rfl, hb1⟩
    have S1 := old_of (bel HB0d.out hb1)
    have HB1 := S1.2
    clear hb1
    refine hK.out _ _ S1 (fun hHeld => ?_); clear hK K; (try simp only [List.getElem_toArray, List.getElem_cons_zero, List.getElem_cons_succ, Act.put, List.setIfInBounds_toArray, List.set_cons_zero, List.set_cons_succ])
    refine wpAnyH_ready (rs := [4]) (by kernel_rfl) (by simp) ?_; refine AllReadyH.cons rfl (fun K hK => ?_) AllReadyH.nil; go_simp
    go_at_call 67
    refine (rask_any N _ B true _ (HBK.out.go HB1.out)).mono ?_
    rintro e w2 ⟨rfl, hb2⟩
    rw [HEA.out]
    have S2 := old_of (bel HB1.out hb2)
    have HB2 := S2.2
    clear hb2 S1
    refine hK.out _ _ S2 (fun hHeld => ?_); clear hK K; (try simp only [List.getElem_toArray, List.getElem_cons_zero, List.getElem_cons_succ, Act.put, List.setIfInBounds_toArray, List.set_cons_zero, List.set_cons_succ])
    (refine wpAnyH_take (i := 5) (v := ?_) rfl (by kernel_rfl) (by kernel_rfl) (by kernel_rfl) (fun _ _ _ h => h) (Or.inl ⟨by rfl, ?_⟩) (by assumption) ?_; rotate_left; (focus (intro w hSw; (try dsimp only at hSw); go_simp; (try with_reducible rfl))); (try simp only [List.getElem_toArray, List.getElem_cons_zero, List.getElem_cons_succ, Act.put, List.setIfInBounds_toArray, List.set_cons_zero, List.set_cons_succ]))
    refine wpAnyH_done (by kernel_rfl) ?_ _; clear hHeld
    have c2 := S2.1
    clear S2
    go_upto_region 5 with (go_at_call 26; refine (copyT_any N _ B _ (HBK.out.go HB2.out) (by omega) (by omega) (by omega)).mono ?_; rintro e w3 ⟨v3, rfl, ho3, hb3⟩; obtain ⟨u1, u2, u3, rfl, i1, i2, i3⟩ := ho3; obtain ⟨b1, d1, rfl⟩ := i1.form; obtain ⟨g, d2, rfl, hgl, hgw, _, _⟩ := i2.1.open (by omega); obtain ⟨b3, d3, rfl⟩ := i3.form; have HI1 := Lib.hid i1; have HI2 := Lib.hid i2; have HI3 := Lib.hid i3; have HB3 : Hid (Below ws.heap.size ws w3) := bel HB2.out hb3; have HGL : Hid (ws.heap.size ≤ g ∧ g < w3.heap.size) := ⟨Nat.le_trans HB2.out.size hgl, hgw⟩; clear i1 i2 i3 hb3 hgl hgw c2; obtain ⟨w4, hw4, HB34, hsz4, hblk4⟩ := box1 w3 (.cells #[.slice b1 B.ns d1, .slice (some ⟨g, 0, none⟩) B.ng d2, .slice b3 B.nw d3] 26); have HZ4 := Lib.hid hblk4; clear hblk4)
    have HB4 : Hid (Below ws.heap.size ws w4) := bel HB3.out HB34.out
    have HI14 := Lib.hid (HI1.out.grow HB34.out)
    have HI24 := Lib.hid (HI2.out.grow HB34.out)
    have HI34 := Lib.hid (HI3.out.grow HB34.out)
    obtain ⟨_, _, e, _, hg4, hcl, hfr⟩ := HI24.out.1.open (by omega)
    cases e
    have x1 := cell_blk HZ4.out 1 rfl
    have pk := hcl s hsn
    have pf := hfr (s * 2)
    obtain ⟨pv, hpv⟩ : ∃ pv : Nat, B.P s = pv := ⟨(B.P s).toNat, by have := HP.out; omega⟩
    have hp4 : pv ≤ 4 := by have := HP.out; omega
    have HPV := Lib.hid hpv
    rw [hpv] at pk
    clear hcl hfr hpv
    go_upto_region 6 with fail
    obtain ⟨w5, hw5⟩ : ∃ w5, w4.setCell ⟨g, s * 2, none⟩ (.int .i64 ((pv : Int) + 1)) = w5 := ⟨_, rfl⟩
    have hb5 : Below g w4 w5 := by rw [← hw5]; exact (Below.refl g w4).setCell (p := ⟨g, s * 2, none⟩) (Nat.le_refl _) _
    have hsz5 : w5.heap.size = w4.heap.size := by rw [← hw5]; simp [World.setCell]
    have hoth : ∀ k, k ≠ g → w5.heap[k]? = w4.heap[k]? := fun k hk => by rw [← hw5]; exact Below.heap_setCell _ _ _ _ (by exact hk)
    have hset := HI24.out.1.set hsn ((pv : Int) + 1)
    rw [hw5] at hset
    (try rw [hw5])
    obtain ⟨_, curg, hcg⟩ := HI24.out.2.1 g d2 rfl (by omega)
    have hne : ∀ (T : TypeId) (k : Nat) (cur : Array Value), T ≠ 49 → w4.heap[k]? = some (.cells cur T) → w5.heap[k]? = w4.heap[k]? := fun T k cur hT hk => hoth k fun e => by
      subst e
      rw [hk] at hcg
      injection hcg with hcg
      injection hcg with _ ht
      exact hT ht
    have e : (fun j => if j = s then (pv : Int) + 1 else B.P j) = (plusB B s).P := by
      funext j
      show _ = if j = s then B.P j + 1 else B.P j
      by_cases e : j = s
      · subst e; rw [if_pos rfl, if_pos rfl, HPV.out]
      · rw [if_neg e, if_neg e]
    rw [e] at hset
    have HBKo : Hid (BookAt w5.heap.size w5 (.agg #[.slice b1 B.ns d1, .slice (some ⟨g, 0, none⟩) B.ng d2, .slice b3 B.nw d3]) (plusB B s)) :=
      ⟨Nat.le_refl _, b1, d1, _, d2, b3, d3, rfl, (HI14.out.turn fun k cur hk => hne _ k cur (by decide) hk).ints (by omega), hset.pairs (by omega), (HI34.out.turn fun k cur hk => hne _ k cur (by decide) hk).pairs (by omega)⟩
    have hgs := HGL.out.1
    have hgw3 := HGL.out.2
    have HB5 : Hid (Below ws.heap.size ws w5) := HB4.out.trans (hb5.mono hgs)
    have HZ5 := (hoth w3.heap.size (by omega)).trans HZ4.out
    have o0 := cell_blk HZ5 0 rfl
    have o1 := cell_blk HZ5 1 rfl
    have o2 := cell_blk HZ5 2 rfl
    have r0 := (HB5.out.cell (p := ⟨w.heap.size, 0, none⟩) hsz).trans q0
    have r1 := (HB5.out.cell (p := ⟨w.heap.size, 1, none⟩) hsz).trans q1
    have r2 := (HB5.out.cell (p := ⟨w.heap.size, 2, none⟩) hsz).trans q2
    have hsz5w : w.heap.size < w5.heap.size := by have := HB5.out.size; omega
    have hsz35 : w3.heap.size < w5.heap.size := by omega
    clear hw5 hb5 hoth hset hcg hne e HZ5 x1 pk pf q0 q1 q2 hsz5
    have HBZ : Hid (Below w5.heap.size w5 w5) := Below.refl _ _
    have SZd := old_of HBZ.out.drew; have HBZd := SZd.2
    refine wp_region_held_drew (S := (fun w' => (∀ b o, b < w5.heap.size → w'.cell? ⟨b, o, none⟩ = w5.cell? ⟨b, o, none⟩) ∧ Hid (Below w5.heap.size w5 w'))) (by kernel_rfl) SZd (fun hHeld => ?_)
    (refine wpAnyH_take (i := 0) (v := ?_) rfl (by kernel_rfl) (by kernel_rfl) (by kernel_rfl) (fun _ _ _ h => h) (Or.inl ⟨by rfl, ?_⟩) (by assumption) ?_; rotate_left; (focus (intro w hSw; (try dsimp only at hSw); go_simp; (try with_reducible rfl))); (try simp only [List.getElem_toArray, List.getElem_cons_zero, List.getElem_cons_succ, Act.put, List.setIfInBounds_toArray, List.set_cons_zero, List.set_cons_succ]))
    (refine wpAnyH_take (i := 2) (v := ?_) rfl (by kernel_rfl) (by kernel_rfl) (by kernel_rfl) (fun _ _ _ h => h) (Or.inl ⟨by rfl, ?_⟩) (by assumption) ?_; rotate_left; (focus (intro w hSw; (try dsimp only at hSw); go_simp; (try with_reducible rfl))); (try simp only [List.getElem_toArray, List.getElem_cons_zero, List.getElem_cons_succ, Act.put, List.setIfInBounds_toArray, List.set_cons_zero, List.set_cons_succ]))
    refine wpAnyH_ready (rs := [1]) (by kernel_rfl) (by simp) ?_; refine AllReadyH.cons rfl (fun K hK => ?_) AllReadyH.nil; go_simp
    go_at_call 68
    refine (rmost_any w5.heap.size _ (plusB B s) 5 _ (HBKo.out.go HBZd.out) HGP.out).mono ?_
    rw [HS1.out]
    rintro e w6 ⟨rfl, hb6⟩
    have S6 := old_of (bel HBZd.out hb6)
    have HB6 := S6.2
    clear hb6
    refine hK.out _ _ S6 (fun hHeld => ?_); clear hK K; (try simp only [List.getElem_toArray, List.getElem_cons_zero, List.getElem_cons_succ, Act.put, List.setIfInBounds_toArray, List.set_cons_zero, List.set_cons_succ])
    refine wpAnyH_ready (rs := [3]) (by kernel_rfl) (by simp) ?_; refine AllReadyH.cons rfl (fun K hK => ?_) AllReadyH.nil; go_simp
    go_at_call 68
    refine (rmost_any N _ B 4 _ (HBK.out.go (bel HB5.out HB6.out)) HG.out).mono ?_
    rw [HS0.out]
    rintro e w7 ⟨rfl, hb7⟩
    have S7 := old_of (bel HB6.out hb7)
    have HB7 := S7.2
    clear hb7 S6
    refine hK.out _ _ S7 (fun hHeld => ?_); clear hK K; (try simp only [List.getElem_toArray, List.getElem_cons_zero, List.getElem_cons_succ, Act.put, List.setIfInBounds_toArray, List.set_cons_zero, List.set_cons_succ])
    have hwr : IntKind.i64.wrap ((s1 : Int) - (s0 : Int)) = (s1 : Int) - (s0 : Int) := by rw [IntWalk.i64_in _ (by omega)]
    (refine wpAnyH_take (i := 4) (v := ?_) rfl (by kernel_rfl) (by kernel_rfl) (by kernel_rfl) (fun _ _ _ h => h) (Or.inl ⟨by rfl, ?_⟩) (by assumption) ?_; rotate_left; (focus (intro w hSw; (try dsimp only at hSw); go_simp; (try with_reducible rfl))); (try simp only [List.getElem_toArray, List.getElem_cons_zero, List.getElem_cons_succ, Act.put, List.setIfInBounds_toArray, List.set_cons_zero, List.set_cons_succ])); (refine wpAnyH_take (i := 5) (v := ?_) rfl (by kernel_rfl) (by kernel_rfl) (by kernel_rfl) (fun _ _ _ h => h) (Or.inl ⟨by rfl, ?_⟩) (by assumption) ?_; rotate_left; (focus (intro w hSw; (try dsimp only at hSw); go_simp; (try with_reducible rfl))); (try simp only [List.getElem_toArray, List.getElem_cons_zero, List.getElem_cons_succ, Act.put, List.setIfInBounds_toArray, List.set_cons_zero, List.set_cons_succ])); (refine wpAnyH_take (i := 6) (v := ?_) rfl (by kernel_rfl) (by kernel_rfl) (by kernel_rfl) (fun _ _ _ h => h) (Or.inl ⟨by rfl, ?_⟩) (by assumption) ?_; rotate_left; (focus (intro w hSw; (try dsimp only at hSw); go_simp; (try with_reducible rfl))); (try simp only [List.getElem_toArray, List.getElem_cons_zero, List.getElem_cons_succ, Act.put, List.setIfInBounds_toArray, List.set_cons_zero, List.set_cons_succ]))
    refine wpAnyH_done (by kernel_rfl) ?_ _; clear hHeld
    clear S7 SZd
    go_wp2
    go_ret2
    exact ⟨by rw [HE.out]; rfl, fin HB.out (bel HB5.out HB7.out)⟩

end Go.Proofs.Ytnnngbnimmcjiaa
