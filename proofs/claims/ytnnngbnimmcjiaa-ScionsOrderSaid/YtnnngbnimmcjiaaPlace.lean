/-
  Place: Place and Alone of package scions.
-/
import Derived.Test.YtnnngbnimmcjiaaRMost
namespace Go.Proofs.Ytnnngbnimmcjiaa
open Go.RowKit

theorem PB.set {lo : Nat} {W : World} {g n cap : Nat} {x y : Nat → Int} (h : PB lo W (.slice (some ⟨g, 0, none⟩) n cap) n x y) {i : Nat} (hi : i < n) (z : Int) :
    PB lo (W.setCell ⟨g, i * 2, none⟩ (.int .i64 z)) (.slice (some ⟨g, 0, none⟩) n cap) n (fun j => if j = i then z else x j) y := by
  rcases h with ⟨h0, _⟩ | ⟨h0, g', cap', cur, t, e, h1, h2, h3, h4⟩
  · omega
  · cases e
    refine .inr ⟨h0, g, cap, cur.setIfInBounds (i * 2) (.int .i64 z), t, rfl, h1, h2, blk_set h3 (i * 2) _, fun j hj => ?_⟩
    obtain ⟨k1, k2⟩ := h4 j hj
    have hs : i * 2 < cur.size := by
      have := (Array.getElem?_eq_some_iff.1 (h4 i hi).1).1
      exact this
    rw [Array.getElem?_setIfInBounds, Array.getElem?_setIfInBounds]
    constructor
    · by_cases e : j = i
      · subst e; simp [hs]
      · rw [if_neg (by omega)]
        show cur[j * 2]? = some (Value.int .i64 (if j = i then z else x j))
        rw [if_neg e]; exact k1
    · rw [if_neg (by omega)]; exact k2
theorem PB.open {lo : Nat} {W : World} {v : Value} {n : Nat} {x y : Nat → Int} (h : PB lo W v n x y) (h0 : 0 < n) : ∃ g cap, v = .slice (some ⟨g, 0, none⟩) n cap ∧ lo ≤ g ∧ g < W.heap.size ∧ (∀ i, i < n → W.cell? ⟨g, i * 2, none⟩ = some (.int .i64 (x i))) ∧ ∀ i, W.frozen? ⟨g, i, none⟩ = false := by
  rcases h with ⟨h1, _⟩ | ⟨_, g, cap, cur, t, rfl, h1, h2, h3, h4⟩
  · omega
  · exact ⟨g, cap, rfl, h1, heap_lt h3, fun i hi => cell_blk h3 _ (h4 i hi).1, fun i => free_blk h3 i⟩

set_option maxHeartbeats 3200000 in
set_option maxRecDepth 100000 in
theorem withPlace_any (N : Nat) (v : Value) (B : SB) (k : Nat) (w : World) (h : BookAt N w v B) (hG : GoodL B 4) (hk : k < B.ng) :
    Calls Try.prog 61 #[v, .int .i64 k] w fun e w' => (∃ v', e = .returned v' ∧ BookAt w'.heap.size w' v' (plusB B k)) ∧ Below w.heap.size w w' := by
  obtain ⟨a1, z1, a2, z2, a3, z3, rfl⟩ := h.form
  obtain ⟨ws, hws, HB, hsz, hsz1, hblk, hblk1⟩ := box2 w (.cells #[.slice a1 B.ns z1, .slice a2 B.ng z2, .slice a3 B.nw z3] 62) (.cells #[.slice none 0 0, .slice none 0 0, .slice none 0 0] 62)
  have q0 := cell_blk hblk 0 rfl
  have q1 := cell_blk hblk 1 rfl
  have q2 := cell_blk hblk 2 rfl
  have HBK := Lib.hid (h.go HB.out)
  have HB0 : Hid (Below ws.heap.size ws ws) := Below.refl _ _
  have HNS : Hid (N ≤ ws.heap.size) := HBK.out.1
  have HK0 := Lib.hid hblk
  have HK1 := Lib.hid hblk1
  have hng := hG.ng
  have hNw := h.1
  have HBO := Lib.hid h
  have HG := Lib.hid hG
  have HP := Lib.hid (hG.P k hk)
  have hki : (k : Int) < (B.ng : Int) := by omega
  clear hblk hblk1 h hG
  go_enter Try.func61, Try.ntmps61
  go_upto_region 2 with (go_at_call 78; refine (cloneG_any N _ B.ng B.P B.F _ (HBK.out.go HB0.out).gardens HNS.out (by omega)).mono ?_; rintro e w1 ⟨⟨v1, rfl, hpb⟩, hb1⟩; obtain ⟨g, cp, rfl, hg1, hg2, _, _⟩ := hpb.open (by omega); have HPB := Lib.hid hpb; have HB1 : Hid (Below ws.heap.size ws w1) := hb1; have HGL : Hid (ws.heap.size ≤ g ∧ g < w1.heap.size) := ⟨hg1, hg2⟩; have hz := (hb1.block w.heap.size hsz).trans HK0.out; have x1 := cell_blk hz 1 rfl; have y1 := free_blk hz 1; have HZ := Lib.hid hz; clear hpb hb1 hg1 hg2 hz)
  obtain ⟨w2, hw2, hg2, ho2, hb2⟩ := set_step (n := w.heap.size) (W0 := w1) HZ.out (fun _ _ => rfl) 1 (.slice (some ⟨g, 0, none⟩) B.ng cp) (Nat.le_refl _)
  (try rw [hw2])
  have HZ2 : Hid (w2.heap[w.heap.size]? = some (.cells #[.slice a1 B.ns z1, .slice (some ⟨g, 0, none⟩) B.ng cp, .slice a3 B.nw z3] 62)) := hg2
  have hgw : g ≠ w.heap.size := by have := HGL.out.1; omega
  have HPB2 : Hid (PB ws.heap.size w2 (.slice (some ⟨g, 0, none⟩) B.ng cp) B.ng B.P B.F) := HPB.out.keep fun j hj _ => ho2 j (by omega)
  have HO2 := Lib.hid ho2
  have HB2 := Lib.hid hb2
  obtain ⟨_, _, e, _, _, hcl, hfr⟩ := HPB2.out.open (by omega)
  cases e
  have r1 := cell_blk HZ2.out 1 rfl
  have pk := hcl k hk
  have pf := hfr (k * 2)
  obtain ⟨pv, hpv⟩ : ∃ pv : Nat, B.P k = pv := ⟨(B.P k).toNat, by have := HP.out; omega⟩
  have hp4 : pv ≤ 4 := by have := HP.out; omega
  have HPV := Lib.hid hpv
  rw [hpv] at pk
  clear hcl hfr hw2 hg2 ho2 hb2 x1 y1 hpv
  go_upto_region 3 with fail
  obtain ⟨w3, hw3⟩ : ∃ w3, w2.setCell ⟨g, k * 2, none⟩ (.int .i64 ((pv : Int) + 1)) = w3 := ⟨_, rfl⟩
  have HPB3 := HPB2.out.set hk ((pv : Int) + 1)
  have hb3 : Below g w2 w3 := by rw [← hw3]; exact (Below.refl g w2).setCell (p := ⟨g, k * 2, none⟩) (Nat.le_refl _) _
  rw [hw3] at HPB3
  (try rw [hw3])
  have hgs := HGL.out.1
  have HZ3 := (hb3.block w.heap.size (by omega)).trans HZ2.out
  have t0 := cell_blk HZ3 0 rfl
  have t1 := cell_blk HZ3 1 rfl
  have t2 := cell_blk HZ3 2 rfl
  have hb1w : Below w.heap.size ws w1 := HB1.out.mono HB.out.size
  have hy := (hb3.block (w.heap.size + 1) (by omega)).trans ((HO2.out _ (by omega)).trans ((HB1.out.block _ hsz1).trans HK1.out))
  have f0 := cell_blk hy 0 rfl
  have f1 := cell_blk hy 1 rfl
  have f2 := cell_blk hy 2 rfl
  have u0 := free_blk hy 0
  have u1 := free_blk hy 1
  have u2 := free_blk hy 2
  have HY := Lib.hid hy
  have HQ := Lib.hid HPB3
  have HB3 := Lib.hid hb3
  clear hw3 HZ3 hy HPB3 hb3 r1 pk pf
  go_wp2
  obtain ⟨w4, hw4, hg4, ho4, hb4⟩ := put3o HY.out (.slice a1 B.ns z1) (.slice (some ⟨g, 0, none⟩) B.ng cp) (.slice a3 B.nw z3)
  rw [hw4]
  refine bodyPost_ret (v := .agg #[.slice a1 B.ns z1, .slice (some ⟨g, 0, none⟩) B.ng cp, .slice a3 B.nw z3]) (resN rfl rfl hg4) rfl ?_
  have hB3 : Below w.heap.size w w3 := (HB.out.trans hb1w).trans (HB2.out.trans (HB3.out.mono (by omega)))
  have hB4 : Below w.heap.size w w4 := hB3.trans (hb4.mono (by omega))
  have j2 := HQ.out.keep (W' := w4) fun j hj _ => ho4 j (by omega)
  have hB := HBO.out.mono (hB4.mono hNw) (Nat.le_refl _) (Nat.le_trans hNw hB4.size)
  have hs4 := hB4.size
  have e : (fun j => if j = k then (pv : Int) + 1 else B.P j) = (plusB B k).P := by
    funext j
    show _ = if j = k then B.P j + 1 else B.P j
    by_cases e : j = k
    · subst e; rw [if_pos rfl, if_pos rfl, HPV.out]
    · rw [if_neg e, if_neg e]
  rw [e] at j2
  exact ⟨⟨_, rfl, Nat.le_refl _, a1, z1, _, cp, a3, z3, rfl, hB.scions.mono (Below.refl _ _) hB.1, j2.pairs (by omega), hB.wants.mono (Below.refl _ _) hB.1⟩, hB4⟩

def ePlace (B : SB) (a : Int) : Int × Int := if okL B && (decide (0 ≤ a) && decide (a < B.ng)) then (((sumN (plusB B a.toNat) : Nat) : Int) - ((sumN B : Nat) : Int), 0) else (0, errA (okL B) (decide (0 ≤ a) && decide (a < B.ng)))
theorem sumN_le {B : SB} {p : Nat} (hG : GoodL B p) : sumN B ≤ 12 := by
  have h := bestL_ok (B := B) (sumG B)
  have h2 := h.le12 hG
  show sumG B (bestL (sumG B) (giftsL B)) ≤ 12
  rw [sum_len hG _ _ rfl fun k hk => by have := h.lt k hk; have := h.top; omega]
  exact h2

set_option maxHeartbeats 3200000 in
set_option maxRecDepth 100000 in
theorem kPlace_any (N : Nat) (v : Value) (B : SB) (a : Int) (w : World) (h : BookAt N w v B) :
    Calls Try.prog 25 #[v, .int .i64 a] w fun e w' => e = .returned (.tuple #[.int .i64 (ePlace B a).1, .int .i64 (ePlace B a).2]) ∧ Below w.heap.size w w' := by
  have h' := h
  obtain ⟨_, a1, z1, a2, z2, a3, z3, rfl, _⟩ := h'
  obtain ⟨ws, hws, HB, hsz, hblk⟩ := box1 w (.cells #[.slice a1 B.ns z1, .slice a2 B.ng z2, .slice a3 B.nw z3] 26)
  have q0 := cell_blk hblk 0 rfl
  have q1 := cell_blk hblk 1 rfl
  have q2 := cell_blk hblk 2 rfl
  have HBK := Lib.hid (h.go HB.out)
  have HB0 : Hid (Below ws.heap.size ws ws) := Below.refl _ _
  have HNS : Hid (N ≤ ws.heap.size) := HBK.out.1
  have hlens := h.lens
  obtain ⟨hlv, hls, hln⟩ := hlens
  clear hblk h
  cases hvi : (okL B && (decide (0 ≤ a) && decide (a < B.ng))) with
  | false =>
    have HVI := Lib.hid hvi
    have HE : Hid (ePlace B a = (0, errA (okL B) (decide (0 ≤ a) && decide (a < B.ng)))) := by unfold Hid ePlace; rw [hvi]; rfl
    obtain ⟨er, her⟩ : ∃ er, errA (okL B) (decide (0 ≤ a) && decide (a < B.ng)) = er := ⟨_, rfl⟩
    have HER := Lib.hid her
    have hne : (er != 0) = true := by rw [← her]; simpa using errA_no hvi
    rw [her] at HE
    clear hvi her
    go_enter Try.func25, Try.ntmps25
    go_wp2_with (go_at_call 58; refine (enterAsked_any N _ B a B.ng _ (HBK.out.go HB0.out)).mono ?_; rintro e w1 ⟨⟨u, rfl, _, hu⟩, hb1⟩; obtain rfl := hu HVI.out; rw [HER.out]; have HB1 := Lib.hid hb1; clear hb1; obtain ⟨wv, hwv, HBv, hszv, hblkv⟩ := box1 w1 (.cells #[.slice none 0 0, .slice none 0 0, .slice none 0 0] 62); have x0 := cell_blk hblkv 0 rfl; have x1 := cell_blk hblkv 1 rfl; have x2 := cell_blk hblkv 2 rfl; have y0 := free_blk hblkv 0; have y1 := free_blk hblkv 1; have y2 := free_blk hblkv 2; have HBq := Lib.hid (bel HB1.out HBv.out); have HZv := Lib.hid hblkv; clear hblkv)
    obtain ⟨w3, hw3, hz3, hb3⟩ := put3 (n := w1.heap.size) HZv.out (.slice none 0 0) (.slice none 0 0) (.slice none 0 0) (Nat.le_refl _)
    (try rw [hw3])
    go_ret2
    exact ⟨by rw [HE.out]; rfl, (fin HB.out HBq.out).trans (hb3.mono (Nat.le_trans HB.out.size HB1.out.size))⟩
  | true =>
    have hvi' := hvi
    rw [Bool.and_eq_true] at hvi'
    obtain ⟨hv, hi⟩ := hvi'
    have HV := Lib.hid hv
    have HI := Lib.hid hi
    obtain ⟨k, rfl⟩ : ∃ k : Nat, a = k := ⟨a.toNat, by simp at hi; omega⟩
    have hk : k < B.ng := by simp at hi; omega
    have HG := Lib.hid (goodL hv)
    have HGP := Lib.hid (plusB_good (goodL hv) k)
    obtain ⟨s1, hs1⟩ : ∃ s, sumN (plusB B k) = s := ⟨_, rfl⟩
    obtain ⟨s0, hs0⟩ : ∃ s, sumN B = s := ⟨_, rfl⟩
    have hl1 : s1 ≤ 12 := by rw [← hs1]; exact sumN_le HGP.out
    have hl0 : s0 ≤ 12 := by rw [← hs0]; exact sumN_le HG.out
    have HE : Hid (ePlace B k = ((s1 : Int) - (s0 : Int), 0)) := by unfold Hid ePlace; rw [hvi, Int.toNat_natCast, hs1, hs0]; rfl
    have HS1 := Lib.hid hs1
    have HS0 := Lib.hid hs0
    clear hv hi hvi hs1 hs0
    go_enter Try.func25, Try.ntmps25
    go_upto_region 4 with (go_at_call 58; refine (enterAsked_any N _ B k B.ng _ (HBK.out.go HB0.out)).mono ?_; rintro e w1 ⟨⟨u, rfl, hu, _⟩, hb1⟩; obtain rfl := hu HV.out HI.out; rw [HV.out, HI.out, show errA true true = 0 from rfl]; have HB1 := Lib.hid hb1; clear hb1; obtain ⟨wv, hwv, HBv, hszv, hblkv⟩ := box1 w1 (.cells #[.slice a1 B.ns z1, .slice a2 B.ng z2, .slice a3 B.nw z3] 62); have x0 := cell_blk hblkv 0 rfl; have x1 := cell_blk hblkv 1 rfl; have x2 := cell_blk hblkv 2 rfl; have HBq := Lib.hid (bel HB1.out HBv.out); clear hblkv)
    clear hws
    have HBZ : Hid (Below wv.heap.size wv wv) := Below.refl _ _
    have SZd := old_of HBZ.out.drew; have HBZd := SZd.2
    refine wp_region_held_drew (S := (fun w' => (∀ b o, b < wv.heap.size → w'.cell? ⟨b, o, none⟩ = wv.cell? ⟨b, o, none⟩) ∧ Hid (Below wv.heap.size wv w'))) (by kernel_rfl) SZd (fun hHeld => ?_)
    (refine wpAnyH_take (i := 0) (v := ?_) rfl (by kernel_rfl) (by kernel_rfl) (by kernel_rfl) (fun _ _ _ h => h) (Or.inl ⟨by rfl, ?_⟩) (by assumption) ?_; rotate_left; (focus (intro w hSw; (try dsimp only at hSw); go_simp; (try with_reducible rfl))); (try simp only [List.getElem_toArray, List.getElem_cons_zero, List.getElem_cons_succ, Act.put, List.setIfInBounds_toArray, List.set_cons_zero, List.set_cons_succ])); (refine wpAnyH_take (i := 1) (v := ?_) rfl (by kernel_rfl) (by kernel_rfl) (by kernel_rfl) (fun _ _ _ h => h) (Or.inl ⟨by rfl, ?_⟩) (by assumption) ?_; rotate_left; (focus (intro w hSw; (try dsimp only at hSw); go_simp; (try with_reducible rfl))); (try simp only [List.getElem_toArray, List.getElem_cons_zero, List.getElem_cons_succ, Act.put, List.setIfInBounds_toArray, List.set_cons_zero, List.set_cons_succ]))
    (refine wpAnyH_take (i := 4) (v := ?_) rfl (by kernel_rfl) (by kernel_rfl) (by kernel_rfl) (fun _ _ _ h => h) (Or.inl ⟨by rfl, ?_⟩) (by assumption) ?_; rotate_left; (focus (intro w hSw; (try dsimp only at hSw); go_simp; (try with_reducible rfl))); (try simp only [List.getElem_toArray, List.getElem_cons_zero, List.getElem_cons_succ, Act.put, List.setIfInBounds_toArray, List.set_cons_zero, List.set_cons_succ]))
    refine wpAnyH_ready (rs := [2]) (by kernel_rfl) (by simp) ?_; refine AllReadyH.cons rfl (fun K hK => ?_) AllReadyH.nil; go_simp
    go_at_call 61
    refine (withPlace_any N _ B k _ (HBK.out.go (bel HBq.out HBZd.out)) HG.out hk).mono ?_
    rintro e w5 ⟨⟨v5, rfl, hbk5⟩, hb5⟩
    have HBK5 := Lib.hid hbk5
    have S5 := old_of (bel HBZd.out hb5)
    have HB5 := S5.2
    clear hb5 hbk5
    refine hK.out _ _ S5 (fun hHeld => ?_); clear hK K; (try simp only [List.getElem_toArray, List.getElem_cons_zero, List.getElem_cons_succ, Act.put, List.setIfInBounds_toArray, List.set_cons_zero, List.set_cons_succ])
    refine wpAnyH_ready (rs := [3]) (by kernel_rfl) (by simp) ?_; refine AllReadyH.cons rfl (fun K hK => ?_) AllReadyH.nil; go_simp
    go_at_call 50
    refine (mostSum_any w5.heap.size _ (plusB B k) 5 _ HBK5.out HGP.out).mono ?_
    rw [HS1.out]
    rintro e w6 ⟨rfl, hb6⟩
    have S6 := old_of (bel HB5.out hb6)
    have HB6 := S6.2
    clear hb6 S5
    refine hK.out _ _ S6 (fun hHeld => ?_); clear hK K; (try simp only [List.getElem_toArray, List.getElem_cons_zero, List.getElem_cons_succ, Act.put, List.setIfInBounds_toArray, List.set_cons_zero, List.set_cons_succ])
    refine wpAnyH_ready (rs := [5]) (by kernel_rfl) (by simp) ?_; refine AllReadyH.cons rfl (fun K hK => ?_) AllReadyH.nil; go_simp
    go_at_call 50
    refine (mostSum_any N _ B 4 _ (HBK.out.go (bel HBq.out HB6.out)) HG.out).mono ?_
    rw [HS0.out]
    rintro e w7 ⟨rfl, hb7⟩
    have S7 := old_of (bel HB6.out hb7)
    have HB7 := S7.2
    clear hb7 S6
    refine hK.out _ _ S7 (fun hHeld => ?_); clear hK K; (try simp only [List.getElem_toArray, List.getElem_cons_zero, List.getElem_cons_succ, Act.put, List.setIfInBounds_toArray, List.set_cons_zero, List.set_cons_succ])
    have hwr : IntKind.i64.wrap ((s1 : Int) - (s0 : Int)) = (s1 : Int) - (s0 : Int) := by rw [IntWalk.i64_in _ (by omega)]
    (refine wpAnyH_take (i := 6) (v := ?_) rfl (by kernel_rfl) (by kernel_rfl) (by kernel_rfl) (fun _ _ _ h => h) (Or.inl ⟨by rfl, ?_⟩) (by assumption) ?_; rotate_left; (focus (intro w hSw; (try dsimp only at hSw); go_simp; (try with_reducible rfl))); (try simp only [List.getElem_toArray, List.getElem_cons_zero, List.getElem_cons_succ, Act.put, List.setIfInBounds_toArray, List.set_cons_zero, List.set_cons_succ])); (refine wpAnyH_take (i := 7) (v := ?_) rfl (by kernel_rfl) (by kernel_rfl) (by kernel_rfl) (fun _ _ _ h => h) (Or.inl ⟨by rfl, ?_⟩) (by assumption) ?_; rotate_left; (focus (intro w hSw; (try dsimp only at hSw); go_simp; (try with_reducible rfl))); (try simp only [List.getElem_toArray, List.getElem_cons_zero, List.getElem_cons_succ, Act.put, List.setIfInBounds_toArray, List.set_cons_zero, List.set_cons_succ])); (refine wpAnyH_take (i := 8) (v := ?_) rfl (by kernel_rfl) (by kernel_rfl) (by kernel_rfl) (fun _ _ _ h => h) (Or.inl ⟨by rfl, ?_⟩) (by assumption) ?_; rotate_left; (focus (intro w hSw; (try dsimp only at hSw); go_simp; (try with_reducible rfl))); (try simp only [List.getElem_toArray, List.getElem_cons_zero, List.getElem_cons_succ, Act.put, List.setIfInBounds_toArray, List.set_cons_zero, List.set_cons_succ]))
    refine wpAnyH_done (by kernel_rfl) ?_ _; clear hHeld
    clear S7 SZd
    go_wp2
    go_ret2
    exact ⟨by rw [HE.out]; rfl, fin HB.out (bel HBq.out HB7.out)⟩

end Go.Proofs.Ytnnngbnimmcjiaa
