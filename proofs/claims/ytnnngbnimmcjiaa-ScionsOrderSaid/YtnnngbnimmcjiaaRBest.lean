/-
  RBest: the best counts, as the reference finds them.
-/
import Derived.Test.YtnnngbnimmcjiaaRGifts
namespace Go.Proofs.Ytnnngbnimmcjiaa
open Go.RowKit

theorem rank_lt {c d : Nat → Nat} {k : Nat} : ∀ n, (∀ i, i < n → c i ≤ 4 ∧ d i ≤ 4) → k < n → (∀ j, j < k → c j = d j) → d k < c k → rankC d n < rankC c n := by
  intro n
  induction n with
  | zero => intro _ h; omega
  | succ n ih =>
    intro hb hk he hd
    have hn := hb n (by omega)
    simp only [rankC]
    by_cases e : k = n
    · subst e
      have hs : ∀ m, m ≤ k → rankC d m = rankC c m := by
        intro m
        induction m with
        | zero => intro _; rfl
        | succ m ihm => intro hm; simp only [rankC]; rw [ihm (by omega), he m (by omega)]
      rw [hs k (Nat.le_refl _)]
      omega
    · have := ih (fun i hi => hb i (by omega)) (by omega) he hd
      omega
theorem rank_eq {c d : Nat → Nat} : ∀ n, (∀ j, j < n → c j = d j) → rankC c n = rankC d n := by
  intro n
  induction n with
  | zero => intro _; rfl
  | succ n ih => intro h; simp only [rankC]; rw [ih fun j hj => h j (by omega), h n (by omega)]
theorem rank_pad {c d : Nat → Nat} {n : Nat} (hc : ∀ i, n ≤ i → c i = 0) (hd : ∀ i, n ≤ i → d i = 0) : ∀ m, (rankC d (n + m) < rankC c (n + m)) ↔ (rankC d n < rankC c n) := by
  intro m
  induction m with
  | zero => exact Iff.rfl
  | succ m ih =>
    rw [← Nat.add_assoc]
    simp only [rankC]
    rw [hc (n + m) (by omega), hd (n + m) (by omega)]
    omega

set_option maxHeartbeats 1600000 in
theorem better_any (N M : Nat) (v u : Value) (n : Nat) (c d : Nat → Nat) (w : World) (h1 : IntsAt N w v n (fun i => (c i : Nat))) (h2 : IntsAt M w u n (fun i => (d i : Nat))) (hb : ∀ i, i < n → c i ≤ 4 ∧ d i ≤ 4) :
    Calls Try.prog 20 #[v, u] w fun e w' => e = .returned (.bool (decide (rankC d n < rankC c n))) ∧ Below w.heap.size w w' := by
  have hn := h1.len
  obtain ⟨a1, z1, rfl, _, _⟩ := id h1
  obtain ⟨a2, z2, rfl, _, _⟩ := id h2
  have H1 := Lib.hid h1
  have H2 := Lib.hid h2
  have HBD := Lib.hid hb
  clear h1 h2 hb
  go_enter Try.func20, Try.ntmps20
  go_wp2
  go_loopw [5] (fun i wr => ∃ k : Nat, k ≤ n ∧ i = .int .i64 k ∧ Hid (∀ j, j < k → c j = d j) ∧ Hid (Drawn w wr)) (fun i _ => n - (intOf i).toNat)
  case atStart => exact ⟨0, Nat.zero_le _, rfl, fun j hj => absurd hj (Nat.not_lt_zero j), Drawn.refl _⟩
  case round =>
    obtain ⟨k, hk, rfl, hj, HD⟩ := hrel
    by_cases hkn : k < n
    · have hki : (k : Int) < (n : Int) := by omega
      obtain ⟨b1, o1, e1, _, r1⟩ := H1.out.cells (by omega)
      obtain ⟨b2, o2, e2, _, r2⟩ := H2.out.cells (by omega)
      cases e1
      cases e2
      have c1 := HD.out.cell (r1 k hkn)
      have c2 := HD.out.cell (r2 k hkn)
      clear r1 r2
      obtain ⟨x, hx⟩ : ∃ x, c k = x := ⟨_, rfl⟩
      obtain ⟨y, hy⟩ : ∃ y, d k = y := ⟨_, rfl⟩
      have HX := Lib.hid hx
      have HY := Lib.hid hy
      rw [hx] at c1
      rw [hy] at c2
      clear hx hy
      by_cases hxy : x = y
      · subst hxy
        have HE : Hid (c k = d k) := HX.out.trans HY.out.symm
        go_wp2
        go_quiet (fail)
        go_wp2
        go_roundw
        case rel => exact ⟨k + 1, by omega, by go_num, lt_succ hj.out HE.out, HD.out.more _⟩
        case measure => simp [intOf]; omega
      · have hxi : ¬ (x : Int) = (y : Int) := by omega
        by_cases hlt : y < x
        · have HO : Hid (decide (rankC d n < rankC c n) = true) := decide_eq_true (rank_lt n HBD.out hkn hj.out (by rw [HX.out, HY.out]; exact hlt))
          have hlt' : decide ((y : Int) < (x : Int)) = true := decide_eq_true (by omega)
          have hlt2 : decide (y < x) = true := decide_eq_true hlt
          have hne' : ¬ x = y := hxy
          clear hxy hlt
          go_wp2
          go_quiet (fail)
          go_wp2
          go_quiet (fail)
          go_wp2
          go_ret
          exact ⟨ret_bool HO.out.symm, ((HD.out.more _).more _).below _⟩
        · have HO : Hid (decide (rankC d n < rankC c n) = false) := decide_eq_false (fun h => by
            have := rank_lt (c := d) (d := c) n (fun i hi => (HBD.out i hi).symm) hkn (fun j h => (hj.out j h).symm) (by rw [HX.out, HY.out]; omega)
            omega)
          have hlt' : decide ((y : Int) < (x : Int)) = false := decide_eq_false (by omega)
          have hlt2 : decide (y < x) = false := decide_eq_false hlt
          have hne' : ¬ x = y := hxy
          clear hxy hlt
          go_wp2
          go_quiet (fail)
          go_wp2
          go_quiet (fail)
          go_wp2
          go_ret
          exact ⟨ret_bool HO.out.symm, ((HD.out.more _).more _).below _⟩
    · have HO : Hid (decide (rankC d n < rankC c n) = false) := decide_eq_false (fun h => by
        have := rank_eq (c := c) (d := d) n (fun j hjn => hj.out j (by omega))
        omega)
      go_wp2
      go_ret
      exact ⟨ret_bool HO.out.symm, HD.out.below _⟩

theorem NB.ints {W : World} {g n : Nat} {c : Nat → Nat} (h : NB W g n c) (hn : n ≤ 1000) : IntsAt W.heap.size W (.slice (some ⟨g, 0, none⟩) n n) n (fun i => (c i : Nat)) :=
  ⟨_, n, rfl, by omega, fun _ => ⟨g, 0, rfl, h.lt, fun i hi => ⟨_, by rw [Nat.zero_add]; exact h.cell hi, rfl⟩⟩⟩
theorem GOK.cS4 {B : SB} {g : List Nat} (hG : GoodL B 4) (h : GOK B g) : ∀ i, i < B.ns → cS B g i ≤ 4 := fun i hi => by
  have h1 := (fit_le hG g (fun k hk => by have := h.lt k hk; have := h.top; omega) h.fit).1 i hi
  have h2 := (hG.C i hi).2
  omega
theorem GOK.cS0 {B : SB} {g : List Nat} {p : Nat} (hG : GoodL B p) (h : GOK B g) : ∀ i, B.ns ≤ i → cS B g i = 0 := fun i hi => by
  unfold cS
  rw [List.countP_eq_zero]
  intro k hk e
  have := (hG.sN (show k < B.nw by have := h.lt k hk; have := h.top; omega)).1
  simp at e
  omega
theorem better_step {B : SB} (hG : GoodL B 4) {b g : List Nat} (hb : GOK B b) (hg : GOK B g) : decide (rankC (cS B b) B.ns < rankC (cS B g) B.ns) = decide (rankG B b < rankG B g) := by
  refine decide_eq_decide.2 ?_
  have h := rank_pad (n := B.ns) (hg.cS0 hG) (hb.cS0 hG) (4 - B.ns)
  have := hG.ns
  rw [show B.ns + (4 - B.ns) = 4 by omega] at h
  unfold rankG
  exact h.symm
theorem bestL_okl {B : SB} (f : List Nat → Nat) {l : List (List Nat)} (h : ∀ g, g ∈ l → GOK B g) : GOK B (bestL f l) := by
  rcases bestL_mem f l with e | e
  · rw [e]; exact GOK.nil B
  · exact h _ e

set_option maxHeartbeats 3200000 in
set_option maxRecDepth 100000 in
theorem rBest_any (N : Nat) (v : Value) (B : SB) (w : World) (h : BookAt N w v B) :
    Calls Try.prog 42 #[v] w (GivesIE w.heap.size w (eBest B).1 (eBest B).2) := by
  have h' := h
  obtain ⟨_, a1, z1, a2, z2, a3, z3, rfl, _⟩ := h'
  obtain ⟨ws, hws, HB, hsz, hblk⟩ := box1 w (.cells #[.slice a1 B.ns z1, .slice a2 B.ng z2, .slice a3 B.nw z3] 26)
  have q0 := cell_blk hblk 0 rfl
  have q1 := cell_blk hblk 1 rfl
  have q2 := cell_blk hblk 2 rfl
  have HBK := Lib.hid (h.go HB.out)
  have HB0 : Hid (Below ws.heap.size ws ws) := Below.refl _ _
  have HNS : Hid (N ≤ ws.heap.size) := HBK.out.1
  have hlens := h.lens
  obtain ⟨hlv, hls, hln⟩ := hlens
  clear hblk h
  cases hv : okL B with
  | false =>
    have HV := Lib.hid hv
    have HE : Hid (eBest B = ([], 60)) := by unfold Hid eBest eList; rw [hv]; rfl
    clear hv
    go_enter Try.func42, Try.ntmps42
    go_wp2_with (go_at_call 35; refine (rCheck_any N _ B _ (HBK.out.go HB0.out)).mono ?_; rw [HV.out]; rintro e w1 ⟨rfl, hb1⟩; (try clear c0); have HB1 := Lib.hid (bel HB0.out hb1); have c1 := (old_of HB1.out).1; clear hb1)
    go_ret2
    exact ⟨.slice none 0 0, by rw [HE.out]; rfl, by rw [HE.out]; exact World.ownsRow_nil _ _ _ _, fin HB.out HB1.out⟩
  | true =>
    have HV := Lib.hid hv
    have hG := goodL hv
    have HG := Lib.hid hG
    have HE : Hid (eBest B = (cntL B (bestL (rankG B) (giftsL B)), 0)) := by unfold Hid eBest eList; rw [hv]; rfl
    have HALL : Hid (∀ g, g ∈ giftsL B → GOK B g) := fun g hg => giftsL_ok hg
    obtain ⟨m, hm⟩ : ∃ m, (giftsL B).length = m := ⟨_, rfl⟩
    have HM := Lib.hid hm
    have hmp : 0 < m := by rw [← hm]; simp [giftsL]
    have hml : m ≤ 4096 := by rw [← hm]; have := tailG_len12 B hG.nw []; simpa [giftsL] using this
    have hns := hG.ns
    have hns1 : B.ns ≤ 1000 := by omega
    have HNW := Lib.hid hG.nw
    clear hv hm hG
    go_enter Try.func42, Try.ntmps42
    go_wp2_with (first
      | (go_at_call 35; refine (rCheck_any N _ B _ (HBK.out.go HB0.out)).mono ?_; rw [HV.out]; rintro e w1 ⟨rfl, hb1⟩; (try clear c0); have HB1 := Lib.hid (bel HB0.out hb1); have c1 := (old_of HB1.out).1; clear hb1)
      | (go_at_call 69; refine (gifts_ref N _ B 4 HG.out B.nw [] (.slice none 0 0) 0 _ (HBK.out.go HB1.out) (by simp) (Nat.le_refl _) (.inl ⟨rfl, rfl⟩) (GOK.nil B) (by simp [nxG])).mono ?_; rw [show ([] :: tailG B B.nw []) = giftsL B from rfl]; rintro e w2 ⟨v2, rfl, hrl2, hb2⟩; obtain ⟨g2, c2', rows2, hv2, o2, l2, n2, m2, s2⟩ := hrl2.open (by rw [HM.out]; exact hmp); rw [HM.out] at hv2 l2; subst hv2; have HL2 := Lib.hid (And.intro l2 (And.intro n2 (And.intro m2 s2))); have HO2 := Lib.hid o2; clear hrl2 o2 l2 n2 m2 s2; (try clear c1); have HB2 := Lib.hid (bel HB1.out hb2); have c2 := (old_of HB2.out).1; clear hb2)
      | (go_at_call 19; refine (counts_any N w2.heap.size _ (.slice none 0 0) B 4 0 (fun _ => 0) _ (HBK.out.go HB2.out) HG.out ⟨none, 0, rfl, by omega, fun h => absurd h (Nat.lt_irrefl 0)⟩ (Nat.le_refl _) (fun i hi => absurd hi (Nat.not_lt_zero i)) (by omega)).mono ?_; rintro e w3 ⟨⟨g3, rfl, hg3, hnb3⟩, hb3⟩; have HN3 := Lib.hid hnb3; have HG3 := Lib.hid hg3; have HC3 := Lib.hid hb3; clear hnb3 hg3; (try clear c2); have HB3 := Lib.hid (bel HB2.out hb3); have c3 := (old_of HB3.out).1; clear hb3))
    have HL3 : Hid (∀ (i : Nat) (b : List Nat), (giftsL B)[i]? = some b → ∃ r, w3.cell? ⟨g2, i, none⟩ = some r ∧ GU 0 w3 r b) := fun i b hi => by
      obtain ⟨r, h1, h2⟩ := HL2.out.2.2.1 i b hi
      have h3 := HL2.out.2.2.2 i r h1
      rw [show ((⟨g2, 0, none⟩ : Addr).add i) = ⟨g2, i, none⟩ by unfold Addr.add; split <;> simp_all] at h3
      have hlt : g2 < w2.heap.size := (HO2.out.lt g2 rfl).2
      exact ⟨r, (HC3.out.cell (p := ⟨g2, i, none⟩) hlt).trans h3, h2.below HC3.out⟩
    have hg2l : g2 < w3.heap.size := Nat.lt_of_lt_of_le (HO2.out.lt g2 rfl).2 HC3.out.size
    have HGL := Lib.hid hg2l
    clear HL2 HO2
    clear c3
    go_loopw [6, 7] (fun bv i wr => ∃ (k g : Nat), k ≤ m ∧ i = .int .i64 k ∧ bv = .slice (some ⟨g, 0, none⟩) B.ns B.ns ∧ Hid (ws.heap.size ≤ g) ∧ Hid (NB wr g B.ns (cS B (bestL (rankG B) ((giftsL B).take k)))) ∧ Hid (Below w3.heap.size w3 wr)) (fun _ i _ => m - (intOf i).toNat)
    case atStart => exact ⟨0, g3, Nat.zero_le _, rfl, rfl, Nat.le_trans HB2.out.size HG3.out, HN3, Below.refl _ _⟩
    case round =>
      obtain ⟨k, g, hk, rfl, rfl, HGG, HNB, HBr⟩ := hrel
      have HBw : Hid (Below ws.heap.size ws wr) := bel HB3.out HBr.out
      have r0 := (HBw.out.cell (p := ⟨w.heap.size, 0, none⟩) hsz).trans q0
      have r1 := (HBw.out.cell (p := ⟨w.heap.size, 1, none⟩) hsz).trans q1
      have r2 := (HBw.out.cell (p := ⟨w.heap.size, 2, none⟩) hsz).trans q2
      by_cases hkn : k < m
      · have hki : (k : Int) < (m : Int) := by omega
        obtain ⟨b, hbk⟩ : ∃ b, (giftsL B)[k]? = some b := ⟨_, List.getElem?_eq_getElem (by rw [HM.out]; exact hkn)⟩
        have HBG := Lib.hid (HALL.out b (List.mem_of_getElem? hbk))
        have HTK : Hid ((giftsL B).take (k + 1) = (giftsL B).take k ++ [b]) := by
          unfold Hid
          rw [List.take_add_one, hbk]; rfl
        obtain ⟨r, hr, hgu⟩ := HL3.out k b hbk
        obtain ⟨ar, cr', rfl⟩ := hgu.form
        obtain ⟨n, hn⟩ : ∃ n, b.length = n := ⟨_, rfl⟩
        have hn12 : n ≤ 1000 := by have := HBG.out.len; have := HBG.out.top; have := HNW.out; omega
        have HCN : Hid (cS B (natL n (fun i => ((b.getD i 0 : Nat) : Int))) = cS B b) := by unfold Hid; rw [← hn, natL_nums]
        have hgi := hgu.ints (by omega)
        rw [hn] at hr hgi
        have HI := Lib.hid (hgi.mono HBr.out HBr.out.size)
        have cell := (HBr.out.cell (p := ⟨g2, k, none⟩) HGL.out).trans hr
        have HXL : Hid (∀ i, i < n → (0 : Int) ≤ ((b.getD i 0 : Nat) : Int) ∧ ((b.getD i 0 : Nat) : Int) < B.nw) := fun i hi => by
          have hm : b.getD i 0 ∈ b := by rw [List.getD_eq_getElem?_getD, List.getElem?_eq_getElem (by omega)]; exact List.getElem_mem _
          have h1 := HBG.out.lt _ hm; have h2 := HBG.out.top; omega
        clear hbk hgu hn hgi hr
        have HBZ : Hid (Below wr.heap.size wr wr) := Below.refl _ _
        have SZd := old_of HBZ.out.drew; have HBZd := SZd.2
        have hg2r : g2 < wr.heap.size := Nat.lt_of_lt_of_le HGL.out HBr.out.size
        have hszr : w.heap.size < wr.heap.size := Nat.lt_of_lt_of_le hsz HBw.out.size
        go_wp2
        refine wp_region_held_drew (S := (fun w' => (∀ b o, b < wr.heap.size → w'.cell? ⟨b, o, none⟩ = wr.cell? ⟨b, o, none⟩) ∧ Hid (Below wr.heap.size wr w'))) (by kernel_rfl) SZd (fun hHeld => ?_)
        (refine wpAnyH_take (i := 0) (v := ?_) rfl (by kernel_rfl) (by kernel_rfl) (by kernel_rfl) (fun _ _ _ h => h) (Or.inl ⟨by rfl, ?_⟩) (by assumption) ?_; rotate_left; (focus (intro w hSw; (try dsimp only at hSw); go_simp; (try with_reducible rfl))); (try simp only [List.getElem_toArray, List.getElem_cons_zero, List.getElem_cons_succ, Act.put, List.setIfInBounds_toArray, List.set_cons_zero, List.set_cons_succ])); (refine wpAnyH_take (i := 1) (v := ?_) rfl (by kernel_rfl) (by kernel_rfl) (by kernel_rfl) (fun _ _ _ h => h) (Or.inl ⟨by rfl, ?_⟩) (by assumption) ?_; rotate_left; (focus (intro w hSw; (try dsimp only at hSw); go_simp; (try with_reducible rfl))); (try simp only [List.getElem_toArray, List.getElem_cons_zero, List.getElem_cons_succ, Act.put, List.setIfInBounds_toArray, List.set_cons_zero, List.set_cons_succ])); (refine wpAnyH_take (i := 2) (v := ?_) rfl (by kernel_rfl) (by kernel_rfl) (by kernel_rfl) (fun _ _ _ h => h) (Or.inl ⟨by rfl, ?_⟩) (by assumption) ?_; rotate_left; (focus (intro w hSw; (try dsimp only at hSw); go_simp; (try with_reducible rfl))); (try simp only [List.getElem_toArray, List.getElem_cons_zero, List.getElem_cons_succ, Act.put, List.setIfInBounds_toArray, List.set_cons_zero, List.set_cons_succ])); (refine wpAnyH_take (i := 3) (v := ?_) rfl (by kernel_rfl) (by kernel_rfl) (by kernel_rfl) (fun _ _ _ h => h) (Or.inl ⟨by rfl, ?_⟩) (by assumption) ?_; rotate_left; (focus (intro w hSw; (try dsimp only at hSw); go_simp; (try with_reducible rfl))); (try simp only [List.getElem_toArray, List.getElem_cons_zero, List.getElem_cons_succ, Act.put, List.setIfInBounds_toArray, List.set_cons_zero, List.set_cons_succ])); (refine wpAnyH_take (i := 4) (v := ?_) rfl (by kernel_rfl) (by kernel_rfl) (by kernel_rfl) (fun _ _ _ h => h) (Or.inl ⟨by rfl, ?_⟩) (by assumption) ?_; rotate_left; (focus (intro w hSw; (try dsimp only at hSw); go_simp; (try with_reducible rfl))); (try simp only [List.getElem_toArray, List.getElem_cons_zero, List.getElem_cons_succ, Act.put, List.setIfInBounds_toArray, List.set_cons_zero, List.set_cons_succ]))
        refine wpAnyH_ready (rs := [5]) (by kernel_rfl) (by simp) ?_; refine AllReadyH.cons rfl (fun K hK => ?_) AllReadyH.nil; go_simp
        go_at_call 19
        refine (counts_any N wr.heap.size _ _ B 4 n (fun i => ((b.getD i 0 : Nat) : Int)) _ (HBK.out.go (bel HBw.out HBZd.out)) HG.out (HI.out.go (Nat.le_refl _) HBZd.out) HBZd.out.size HXL.out hn12).mono ?_
        rw [HCN.out]
        rintro e w5 ⟨⟨g5, rfl, hg5, hnb5⟩, hb5⟩
        have HN5 := Lib.hid hnb5
        have HG5 := Lib.hid hg5
        have S5 := old_of (bel HBZd.out hb5)
        have HB5 := S5.2
        clear hb5 hnb5 hg5
        refine hK.out _ _ S5 (fun hHeld => ?_); clear hK K; (try simp only [List.getElem_toArray, List.getElem_cons_zero, List.getElem_cons_succ, Act.put, List.setIfInBounds_toArray, List.set_cons_zero, List.set_cons_succ])
        (refine wpAnyH_take (i := 6) (v := ?_) rfl (by kernel_rfl) (by kernel_rfl) (by kernel_rfl) (fun _ _ _ h => h) (Or.inl ⟨by rfl, ?_⟩) (by assumption) ?_; rotate_left; (focus (intro w hSw; (try dsimp only at hSw); go_simp; (try with_reducible rfl))); (try simp only [List.getElem_toArray, List.getElem_cons_zero, List.getElem_cons_succ, Act.put, List.setIfInBounds_toArray, List.set_cons_zero, List.set_cons_succ]))
        refine wpAnyH_done (by kernel_rfl) ?_ _; clear hHeld
        clear S5 SZd
        have HNO := Lib.hid (HNB.out.keep (HB5.out.block _ HNB.out.lt))
        have HOKB : Hid (GOK B (bestL (rankG B) ((giftsL B).take k))) := bestL_okl _ fun g hg => HALL.out g (List.mem_of_mem_take hg)
        have HBS : Hid (bestL (rankG B) ((giftsL B).take (k + 1)) = bestStep (rankG B) (bestL (rankG B) ((giftsL B).take k)) b) := by unfold Hid; rw [HTK.out, bestL_snoc]
        obtain ⟨cur, hcur⟩ : ∃ cur, bestL (rankG B) ((giftsL B).take k) = cur := ⟨_, rfl⟩
        rw [hcur] at HNO HOKB HBS
        have HST := Lib.hid (better_step HG.out HOKB.out HBG.out)
        have HBD : Hid (∀ i, i < B.ns → cS B b i ≤ 4 ∧ cS B cur i ≤ 4) := fun i hi => ⟨HBG.out.cS4 HG.out i hi, HOKB.out.cS4 HG.out i hi⟩
        have HG5' : Hid (ws.heap.size ≤ g5) := Nat.le_trans (Nat.le_trans HBw.out.size HBZd.out.size) HG5.out
        clear hcur cell
        cases hlt : decide (rankG B cur < rankG B b) with
        | true =>
          have HLT := Lib.hid (HST.out.trans hlt)
          have HNX : Hid (bestL (rankG B) ((giftsL B).take (k + 1)) = b) := by unfold Hid; rw [HBS.out]; unfold bestStep; rw [if_pos (of_decide_eq_true hlt)]
          clear hlt
          go_wp2_with (go_at_call 20; refine (better_any w5.heap.size w5.heap.size _ _ B.ns (cS B b) (cS B cur) _ (HN5.out.ints hns1) (HNO.out.ints hns1) HBD.out).mono ?_; rw [HLT.out]; rintro e w6 ⟨rfl, hb6⟩; have HB6 := Lib.hid hb6; clear hb6)
          go_roundw
          case rel => exact ⟨k + 1, g5, by omega, by go_num, rfl, HG5', by rw [HNX.out]; exact HN5.out.keep (HB6.out.block _ HN5.out.lt), bel HBr.out (bel HB5.out HB6.out)⟩
          case measure => simp [intOf]; omega
        | false =>
          have HLT := Lib.hid (HST.out.trans hlt)
          have HNX : Hid (bestL (rankG B) ((giftsL B).take (k + 1)) = cur) := by unfold Hid; rw [HBS.out]; unfold bestStep; rw [if_neg (of_decide_eq_false hlt)]
          clear hlt
          go_wp2_with (go_at_call 20; refine (better_any w5.heap.size w5.heap.size _ _ B.ns (cS B b) (cS B cur) _ (HN5.out.ints hns1) (HNO.out.ints hns1) HBD.out).mono ?_; rw [HLT.out]; rintro e w6 ⟨rfl, hb6⟩; have HB6 := Lib.hid hb6; clear hb6)
          go_roundw
          case rel => exact ⟨k + 1, g, by omega, by go_num, rfl, HGG, by rw [HNX.out]; exact HNO.out.keep (HB6.out.block _ HNO.out.lt), bel HBr.out (bel HB5.out HB6.out)⟩
          case measure => simp [intOf]; omega
      · have hkm : k = m := by omega
        have HTA : Hid ((giftsL B).take k = giftsL B) := List.take_of_length_le (by rw [HM.out]; omega)
        rw [HTA.out] at HNB
        go_wp2
        go_ret2
        exact ⟨.slice (some ⟨g, 0, none⟩) B.ns B.ns, by rw [HE.out]; rfl, by rw [HE.out]; exact HNB.out.own (Nat.le_trans HB.out.size HGG.out) hns1, fin HB.out HBw.out⟩

end Go.Proofs.Ytnnngbnimmcjiaa
