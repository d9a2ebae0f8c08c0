/-
  Jdg: judged of the chapter.
-/
import Derived.Test.YtffnlimgjnhmpaaJReady
namespace Go.Proofs.Ytffnlimgjnhmpaa
open Go.RowKit

/-- what a number of a show can become -/
def ok1 (a b : Int) : Prop := (a = -1 → 0 ≤ b ∧ b ≤ 20) ∧ (a ≠ -1 → b = a)
/-- the rows while they are filled: those ahead of k, and m numbers of row k -/
def JP (S : JB) (k m : Nat) (P : Nat → List Int) : Prop := ∀ j, j < S.np → (P j).length = (S.pts j).length ∧ ∀ i, i < (S.pts j).length → (j < k ∨ (j = k ∧ i < m) → ok1 ((S.pts j).getD i 0) ((P j).getD i 0)) ∧ (k < j ∨ (j = k ∧ m ≤ i) → (P j).getD i 0 = (S.pts j).getD i 0)
theorem JP.start (S : JB) : JP S 0 0 S.pts := fun j _ => ⟨rfl, fun i _ => ⟨fun h => by omega, fun _ => rfl⟩⟩
theorem getD_set {l : List Int} {k : Nat} {x : Int} (hk : k < l.length) (i : Nat) : (l.set k x).getD i 0 = if i = k then x else l.getD i 0 := by
  rw [List.getD_eq_getElem?_getD, List.getD_eq_getElem?_getD, List.getElem?_set]
  by_cases e : k = i
  · subst e; rw [if_pos rfl, if_pos hk, if_pos rfl]; rfl
  · rw [if_neg e, if_neg (fun h => e h.symm)]
theorem JP.put {S : JB} {k m m' : Nat} {P : Nat → List Int} (h : JP S k m' P) (hmm : m' = m ∨ m' = m + 1) (hk : k < S.np) (hm : m < (S.pts k).length) (hx : (S.pts k).getD m 0 = -1) {y : Int} (hy : 0 ≤ y ∧ y ≤ 20) : JP S k (m + 1) (fun j => if j = k then (P j).set m y else P j) := fun j hj => by
  obtain ⟨hl, hi⟩ := h j hj
  show (if j = k then (P j).set m y else P j).length = (S.pts j).length ∧ ∀ i, i < (S.pts j).length → (j < k ∨ (j = k ∧ i < m + 1) → ok1 ((S.pts j).getD i 0) ((if j = k then (P j).set m y else P j).getD i 0)) ∧ (k < j ∨ (j = k ∧ m + 1 ≤ i) → (if j = k then (P j).set m y else P j).getD i 0 = (S.pts j).getD i 0)
  by_cases e : j = k
  · subst e
    rw [if_pos rfl]
    refine ⟨by rw [List.length_set]; exact hl, fun i hil => ?_⟩
    rw [getD_set (by rw [hl]; exact hm)]
    obtain ⟨h1, h2⟩ := hi i hil
    by_cases e2 : i = m
    · subst e2
      rw [if_pos rfl]
      exact ⟨fun _ => ⟨fun _ => hy, fun hne => absurd hx hne⟩, fun hh => by omega⟩
    · rw [if_neg e2]
      exact ⟨fun hh => h1 (by omega), fun hh => h2 (by omega)⟩
  · rw [if_neg e]
    exact ⟨hl, fun i hil => ⟨fun hh => (hi i hil).1 (by omega), fun hh => (hi i hil).2 (by omega)⟩⟩
theorem JP.skip {S : JB} {k m : Nat} {P : Nat → List Int} (h : JP S k m P) (hx : (S.pts k).getD m 0 ≠ -1) : JP S k (m + 1) P := fun j hj => by
  obtain ⟨hl, hi⟩ := h j hj
  refine ⟨hl, fun i hil => ?_⟩
  obtain ⟨h1, h2⟩ := hi i hil
  refine ⟨fun hh => ?_, fun hh => h2 (by omega)⟩
  by_cases e : j = k ∧ i = m
  · obtain ⟨rfl, rfl⟩ := e
    rw [h2 (by omega)]
    exact ⟨fun e => absurd e hx, fun _ => rfl⟩
  · exact h1 (by omega)
theorem JP.next {S : JB} {k m : Nat} {P : Nat → List Int} (h : JP S k m P) (hm : (S.pts k).length ≤ m) : JP S (k + 1) 0 P := fun j hj => by
  obtain ⟨hl, hi⟩ := h j hj
  refine ⟨hl, fun i hil => ?_⟩
  obtain ⟨h1, h2⟩ := hi i hil
  refine ⟨fun hh => h1 ?_, fun hh => h2 (by omega)⟩
  by_cases e : j = k
  · subst e; omega
  · omega
theorem JP.done {S : JB} {P : Nat → List Int} (h : JP S S.np 0 P) {j : Nat} (hj : j < S.np) : Jdg (S.pts j) (P j) := by
  obtain ⟨hl, hi⟩ := h j hj
  refine ⟨hl, fun i h1 h2 => ?_⟩
  have := (hi i h1).1 (.inl hj)
  rw [List.getD_eq_getElem?_getD, List.getD_eq_getElem?_getD, List.getElem?_eq_getElem h1, List.getElem?_eq_getElem h2] at this
  exact this
theorem JP.at {S : JB} {k m : Nat} {P : Nat → List Int} (h : JP S k m P) (hk : k < S.np) (hm : m < (S.pts k).length) : (P k).getD m 0 = (S.pts k).getD m 0 := ((h k hk).2 m hm).2 (.inr ⟨rfl, Nat.le_refl _⟩)

/-- a judging of a show -/
def JGS (S : JB) (m : Nat → List Int) : JB := { S with pts := m }
set_option maxHeartbeats 6400000 in
set_option maxRecDepth 100000 in
theorem judged_any (N : Nat) (v u : Value) (S : JB) (F : List Int) (w : World) (h : ShowAt N w v S) (hf : LI N w u F) (hG : GoodS S) :
    Calls Try.prog 14 #[v, u] w fun e w' => ∃ v' m, e = .returned v' ∧ OwnS w.heap.size w' v' (JGS S m) ∧ (∀ i, i < S.np → Jdg (S.pts i) (m i)) ∧ Below w.heap.size w w' := by
  obtain ⟨a1, c1, rfl⟩ := h.form
  obtain ⟨ws, hws, HB, hsz, hsz1, hblk, hblk1⟩ := box2 w (.cells #[.int .i64 S.J, .int .i64 S.D, .int .i64 S.Z, .slice a1 S.np c1] 24) (.cells #[.int .i64 0, .int .i64 0, .int .i64 0, .slice none 0 0] 24)
  have q0 := cell_blk hblk 0 rfl
  have q1 := cell_blk hblk 1 rfl
  have q2 := cell_blk hblk 2 rfl
  have q3 := cell_blk hblk 3 rfl
  have HBK := Lib.hid (h.go HB.out)
  have HNS : Hid (N ≤ ws.heap.size) := HBK.out.1
  have HFL : Hid (LI N ws u F) := hf.go h.1 HB.out
  have HZ1 := Lib.hid hblk1
  have hnp6 := hG.np
  have HL5 : Hid (∀ i, i < S.np → (S.pts i).length ≤ 5) := fun i hi => by have := hG.len i hi; have := hG.J5; omega
  obtain ⟨nF, hnF⟩ : ∃ nF, F.length = nF := ⟨_, rfl⟩
  obtain ⟨aF, cF, rfl⟩ : ∃ a c, u = .slice a nF c := by
    obtain ⟨a, c, e, _⟩ := hf
    rw [hnF] at e
    exact ⟨a, c, e⟩
  have HNF := Lib.hid hnF
  clear hblk hblk1 h hf hG hnF
  go_enter Try.func14, Try.ntmps14
  go_upto_region 2 with (go_at_call 34; refine (copy_any N _ S _ HBK.out (by omega) (fun i hi => by have := HL5.out i hi; omega)).mono ?_; rintro e w1 ⟨v1, rfl, ⟨a2, c2, rv, rfl, hop⟩, hb1⟩; have HOP := Lib.hid hop; have HB1 : Hid (Below ws.heap.size ws w1) := hb1; clear hop hb1; obtain ⟨wo, hwo, HBo, hszo, hblko⟩ := box1 w1 (.cells #[.int .i64 0, .int .i64 0, .int .i64 0, .slice none 0 0] 24); have HZo := Lib.hid hblko; have z0 := cell_blk hblko 0 rfl; have z1 := cell_blk hblko 1 rfl; have z2 := cell_blk hblko 2 rfl; have z3 := cell_blk hblko 3 rfl; have f0 := free_blk hblko 0; have f1 := free_blk hblko 1; have f2 := free_blk hblko 2; have f3 := free_blk hblko 3; clear hblko)
  obtain ⟨w2, hw2, hz2, ho2, hb2⟩ := put4o HZo.out (.int .i64 S.J) (.int .i64 S.D) (.int .i64 S.Z) (.slice a2 S.np c2)
  rw [hw2]
  have HOP2 : Hid (OwnP ws.heap.size w2 40 (.slice a2 S.np c2) S.np S.sz rv S.pts) := HOP.out.keep fun g _ h => (hb2.block g h).trans (HBo.out.block g h)
  have HZ2 := Lib.hid hz2
  have HB2 : Hid (Below ws.heap.size ws w2) := HB1.out.trans ((HBo.out.trans hb2).mono HB1.out.size)
  have hs1w := HB1.out.size
  have hsw12 : w1.heap.size < w2.heap.size := Nat.lt_of_lt_of_le hszo hb2.size
  clear hw2 hz2 ho2 hb2 z0 z1 z2 z3 f0 f1 f2 f3 hwo HZo HBo HOP q0 q1 q2 q3
  obtain ⟨B, hB⟩ : ∃ B, w1.heap.size = B := ⟨_, rfl⟩
  rw [hB] at HZ2 hs1w hsw12 ⊢
  clear hB hszo
  go_wp2_with fail
  go_loopw [6, 7] (fun nv i wr => ∃ nx k : Nat, k ≤ S.np ∧ nx ≤ k * 5 ∧ nv = .int .i64 nx ∧ i = .int .i64 k ∧ Hid ((∃ P, OwnP ws.heap.size wr 40 (.slice a2 S.np c2) S.np S.sz rv P ∧ JP S k 0 P) ∧ wr.heap[B]? = some (.cells #[.int .i64 S.J, .int .i64 S.D, .int .i64 S.Z, .slice a2 S.np c2] 24) ∧ Below ws.heap.size ws wr)) (fun _ i _ => S.np - (intOf i).toNat)
  case atStart => exact ⟨0, 0, Nat.zero_le _, Nat.zero_le _, rfl, rfl, ⟨S.pts, HOP2.out, JP.start S⟩, HZ2.out, HB2.out⟩
  case round =>
    obtain ⟨nx0, k, hk, hnx0, rfl, rfl, hI⟩ := hrel
    obtain ⟨⟨P, hop, hP⟩, hz, hb⟩ := hI
    have HOP := Lib.hid hop
    have HP := Lib.hid hP
    have HZ := Lib.hid hz
    have HBr := Lib.hid hb
    have t3 := cell_blk hz 3 rfl
    have hBw := heap_lt hz
    by_cases hkn : k < S.np
    · have hki : (k : Int) < (S.np : Int) := by omega
      have hl5 := HL5.out k hkn
      clear hop hP hz hb
      go_upto_region 6 with fail
      obtain ⟨wo, hwo⟩ : ∃ wo, wo = wr := ⟨_, rfl⟩
      subst hwo
      go_wp2_with fail
      go_loopw [6, 8] (fun nv i wr => ∃ nx m : Nat, m ≤ (S.pts k).length ∧ nx ≤ k * 5 + m ∧ nv = .int .i64 nx ∧ i = .int .i64 m ∧ Hid ((∃ P, OwnP ws.heap.size wr 40 (.slice a2 S.np c2) S.np S.sz rv P ∧ JP S k m P) ∧ wr.heap[B]? = some (.cells #[.int .i64 S.J, .int .i64 S.D, .int .i64 S.Z, .slice a2 S.np c2] 24) ∧ Below ws.heap.size ws wr)) (fun _ i _ => (S.pts k).length - (intOf i).toNat)
      case atStart => exact ⟨nx0, 0, Nat.zero_le _, by omega, rfl, rfl, ⟨P, HOP.out, HP.out⟩, HZ.out, HBr.out⟩
      case round =>
        obtain ⟨nx, m, hm, hnx, rfl, rfl, hI⟩ := hrel
        obtain ⟨⟨Q, hop, hQ⟩, hz, hb⟩ := hI
        obtain ⟨g, e, _, _, hg1, hg2, hgc, hgf, cgp, hcgp⟩ := hop.pk.at (by omega)
        cases e
        have gk := (hgc k hkn).2
        have hrow := hop.row k hkn
        obtain ⟨ra, rc, hre⟩ := hrow.form
        have hHre := Lib.hid hre
        rw [hre] at gk hrow
        have hQl := (hQ k hkn).1
        obtain ⟨L, hL⟩ : ∃ L, (S.pts k).length = L := ⟨_, rfl⟩
        rw [hQl, hL] at gk hrow
        rw [hL] at hm hl5
        have HLL := Lib.hid hL
        have HOPm := Lib.hid hop
        have HJm := Lib.hid hQ
        have HZm := Lib.hid hz
        have HBm := Lib.hid hb
        have t3 := cell_blk hz 3 rfl
        have HQL := Lib.hid (hQl.trans hL)
        have HCP := Lib.hid hcgp
        clear hop hQ hz hb hgc hgf hre hQl hL hcgp
        by_cases hml : m < L
        · obtain ⟨rg, rfl, hq⟩ := hrow.addr (by rw [HQL.out]; omega)
          clear hq
          obtain ⟨hrw, hrl, hrc, hrf, crg, hcrg⟩ := hrow.at (by rw [HQL.out]; omega)
          obtain ⟨x, hx⟩ : ∃ x, (S.pts k).getD m 0 = x := ⟨_, rfl⟩
          have cm := hrc m (by rw [HQL.out]; omega)
          rw [HJm.out.at hkn (by rw [HLL.out]; exact hml), hx] at cm
          have fm := hrf m
          have HX := Lib.hid hx
          have HRE : Hid (rv k = .slice (some ⟨rg, 0, none⟩) L rc) := by have := hHre.out; rw [HQL.out] at this; exact this
          have hBrg : B ≠ rg := types_ne HZm.out hcrg (by decide)
          have hgrg : g ≠ rg := types_ne HCP.out hcrg (by decide)
          have hmi : (m : Int) < (L : Int) := by omega
          clear hrow hrc hrf hx hcrg
          by_cases hx1 : x = -1
          · have hx1b : (x == -1) = true := by simp [hx1]
            have HX1 := Lib.hid hx1
            have HXS : Hid ((S.pts k).getD m 0 = -1) := HX.out.trans hx1
            clear hx1
            go_upto_region 11 with fail
            obtain ⟨wn, hwn⟩ : ∃ wn, wr.setCell ⟨rg, m, none⟩ (.int .i64 0) = wn := ⟨_, rfl⟩
            rw [hwn]
            have HOPn : Hid (OwnP ws.heap.size wn 40 (.slice (some ⟨g, 0, none⟩) S.np c2) S.np S.sz rv (fun j => if j = k then (Q j).set m (0 : Int) else Q j)) := by
              rw [← hwn]; exact HOPm.out.point (by decide) hkn (by rw [(HJm.out k hkn).1, HLL.out]; exact hml) (0 : Int) HRE.out
            have HZn : Hid (wn.heap[B]? = some (.cells #[.int .i64 S.J, .int .i64 S.D, .int .i64 S.Z, .slice (some ⟨g, 0, none⟩) S.np c2] 24)) := by rw [← hwn]; exact (Below.heap_setCell _ _ _ _ (by exact hBrg)).trans HZm.out
            have HBn : Hid (Below ws.heap.size ws wn) := by rw [← hwn]; exact HBm.out.setCell (p := ⟨rg, m, none⟩) hrl _
            have HJn : Hid (JP S k (m + 1) (fun j => if j = k then (Q j).set m (0 : Int) else Q j)) := HJm.out.put (.inl rfl) hkn (by rw [HLL.out]; exact hml) HXS.out (by omega)
            have hgn : wn.cell? ⟨g, k * 2 + 1, none⟩ = some (.slice (some ⟨rg, 0, none⟩) L rc) := by rw [← hwn]; exact (World.cell?_of_block (w := wr) (Below.heap_setCell _ _ _ _ (by exact hgrg))).trans gk
            have t3n := cell_blk HZn.out 3 rfl
            obtain ⟨_, _, hrc2, hrf2, _⟩ := (show RI ws.heap.size wn (.slice (some ⟨rg, 0, none⟩) L rc) ((Q k).set m 0) from by have := HOPn.out.row k hkn; rw [HRE.out, if_pos rfl] at this; exact this).at (by rw [List.length_set, HQL.out]; omega)
            have frn := hrf2 m
            have crn := hrc2 m (by rw [List.length_set, HQL.out]; exact hml)
            clear hrc2 hrf2
            clear hwn cm fm gk t3
            by_cases hnf : nx < nF
            · have hni : (nx : Int) < (nF : Int) := by omega
              obtain ⟨bF, oF, rfl, hbF, hFc⟩ := (HFL.out.go HNS.out HBn.out).cell (by rw [HNF.out]; omega)
              obtain ⟨y, hy⟩ : ∃ y, F.getD nx 0 = y := ⟨_, rfl⟩
              have cF := hFc nx (by rw [HNF.out]; exact hnf)
              rw [hy] at cF
              clear hFc hy
              cases hpy : (decide (0 ≤ y) && decide (y ≤ 20)) with
              | false =>
                have HPY := Lib.hid hpy
                clear hpy
                go_wp2_with (go_at_call 25; refine (isPoints_eq _ _ _ HPY.out).mono ?_; rintro e w' ⟨rfl, hw'⟩; rw [hw']; clear hw')
                go_roundw
                case rel => exact ⟨nx + 1, m + 1, by have := HLL.out; omega, by omega, by go_num, by go_num, ⟨_, HOPn.out, HJn.out⟩, HZn.out, HBn.out⟩
                case measure => have := HLL.out; simp [intOf]; omega
              | true =>
                have HPY := Lib.hid hpy
                have HYB : Hid (0 ≤ y ∧ y ≤ 20) := by
                  rw [Bool.and_eq_true, decide_eq_true_eq, decide_eq_true_eq] at hpy
                  exact hpy
                clear hpy
                have hbr : bF ≠ rg := by have := HNS.out; omega
                go_upto_region 12 with (go_at_call 25; refine (isPoints_eq _ _ _ HPY.out).mono ?_; rintro e w' ⟨rfl, hw'⟩; rw [hw']; clear hw')
                refine wp_region_held_drew (S := fun W => W.cell? ⟨B, 3, none⟩ = some (.slice (some ⟨g, 0, none⟩) S.np c2) ∧ W.cell? ⟨g, k * 2 + 1, none⟩ = some (.slice (some ⟨rg, 0, none⟩) L rc) ∧ W.cell? ⟨bF, oF + nx, none⟩ = some (.int .i64 y)) (by kernel_rfl) ⟨t3n, hgn, cF⟩ (fun hHeld => ?_)
                (refine wpAnyH_take (i := 0) (v := ?_) rfl (by kernel_rfl) (by kernel_rfl) (by kernel_rfl) (fun _ _ _ h => h) (Or.inl ⟨by rfl, ?_⟩) (by assumption) ?_; rotate_left; (focus (intro w hSw; (try dsimp only at hSw); go_simp; (try with_reducible rfl))); (try simp only [List.getElem_toArray, List.getElem_cons_zero, List.getElem_cons_succ, Act.put, List.setIfInBounds_toArray, List.set_cons_zero, List.set_cons_succ])); (refine wpAnyH_take (i := 1) (v := ?_) rfl (by kernel_rfl) (by kernel_rfl) (by kernel_rfl) (fun _ _ _ h => h) (Or.inl ⟨by rfl, ?_⟩) (by assumption) ?_; rotate_left; (focus (intro w hSw; (try dsimp only at hSw); go_simp; (try with_reducible rfl))); (try simp only [List.getElem_toArray, List.getElem_cons_zero, List.getElem_cons_succ, Act.put, List.setIfInBounds_toArray, List.set_cons_zero, List.set_cons_succ])); (refine wpAnyH_take (i := 2) (v := ?_) rfl (by kernel_rfl) (by kernel_rfl) (by kernel_rfl) (fun _ _ _ h => h) (Or.inl ⟨by rfl, ?_⟩) (by assumption) ?_; rotate_left; (focus (intro w hSw; (try dsimp only at hSw); go_simp; (try with_reducible rfl))); (try simp only [List.getElem_toArray, List.getElem_cons_zero, List.getElem_cons_succ, Act.put, List.setIfInBounds_toArray, List.set_cons_zero, List.set_cons_succ])); (refine wpAnyH_take (i := 3) (v := ?_) rfl (by kernel_rfl) (by kernel_rfl) (by kernel_rfl) (fun _ _ _ h => h) (Or.inl ⟨by rfl, ?_⟩) (by assumption) ?_; rotate_left; (focus (intro w hSw; (try dsimp only at hSw); go_simp; (try with_reducible rfl))); (try simp only [List.getElem_toArray, List.getElem_cons_zero, List.getElem_cons_succ, Act.put, List.setIfInBounds_toArray, List.set_cons_zero, List.set_cons_succ])); (refine wpAnyH_take (i := 4) (v := ?_) rfl (by kernel_rfl) (by kernel_rfl) (by kernel_rfl) (fun _ _ _ h => h) (Or.inl ⟨by rfl, ?_⟩) (by assumption) ?_; rotate_left; (focus (intro w hSw; (try dsimp only at hSw); go_simp; (try with_reducible rfl))); (try simp only [List.getElem_toArray, List.getElem_cons_zero, List.getElem_cons_succ, Act.put, List.setIfInBounds_toArray, List.set_cons_zero, List.set_cons_succ])); (refine wpAnyH_take (i := 5) (v := ?_) rfl (by kernel_rfl) (by kernel_rfl) (by kernel_rfl) (fun _ _ _ h => h) (Or.inl ⟨by rfl, ?_⟩) (by assumption) ?_; rotate_left; (focus (intro w hSw; (try dsimp only at hSw); go_simp; (try with_reducible rfl))); (try simp only [List.getElem_toArray, List.getElem_cons_zero, List.getElem_cons_succ, Act.put, List.setIfInBounds_toArray, List.set_cons_zero, List.set_cons_succ])); (refine wpAnyH_take (i := 6) (v := ?_) rfl (by kernel_rfl) (by kernel_rfl) (by kernel_rfl) (fun _ _ _ h => h) (Or.inl ⟨by rfl, ?_⟩) (by assumption) ?_; rotate_left; (focus (intro w hSw; (try dsimp only at hSw); go_simp; (try with_reducible rfl))); (try simp only [List.getElem_toArray, List.getElem_cons_zero, List.getElem_cons_succ, Act.put, List.setIfInBounds_toArray, List.set_cons_zero, List.set_cons_succ])); (refine wpAnyH_take (i := 7) (v := ?_) rfl (by kernel_rfl) (by kernel_rfl) (by kernel_rfl) (fun _ _ _ h => h) (Or.inl ⟨by rfl, ?_⟩) (by assumption) ?_; rotate_left; (focus (intro w hSw; (try dsimp only at hSw); go_simp; (try with_reducible rfl))); (try simp only [List.getElem_toArray, List.getElem_cons_zero, List.getElem_cons_succ, Act.put, List.setIfInBounds_toArray, List.set_cons_zero, List.set_cons_succ])); (refine wpAnyH_take (i := 8) (v := ?_) rfl (by kernel_rfl) (by kernel_rfl) (by kernel_rfl) (fun _ _ _ h => h) (Or.inl ⟨by rfl, ?_⟩) (by assumption) ?_; rotate_left; (focus (intro w hSw; (try dsimp only at hSw); go_simp; (try with_reducible rfl))); (try simp only [List.getElem_toArray, List.getElem_cons_zero, List.getElem_cons_succ, Act.put, List.setIfInBounds_toArray, List.set_cons_zero, List.set_cons_succ])); (refine wpAnyH_take (i := 9) (v := ?_) rfl (by kernel_rfl) (by kernel_rfl) (by kernel_rfl) (fun _ _ _ h => h) (Or.inl ⟨by rfl, ?_⟩) (by assumption) ?_; rotate_left; (focus (intro w hSw; (try dsimp only at hSw); go_simp; (try with_reducible rfl))); (try simp only [List.getElem_toArray, List.getElem_cons_zero, List.getElem_cons_succ, Act.put, List.setIfInBounds_toArray, List.set_cons_zero, List.set_cons_succ])); (refine wpAnyH_take (i := 10) (v := ?_) rfl (by kernel_rfl) (by kernel_rfl) (by kernel_rfl) (fun _ _ _ h => h) (Or.inl ⟨by rfl, ?_⟩) (by assumption) ?_; rotate_left; (focus (intro w hSw; (try dsimp only at hSw); go_simp; (try with_reducible rfl))); (try simp only [List.getElem_toArray, List.getElem_cons_zero, List.getElem_cons_succ, Act.put, List.setIfInBounds_toArray, List.set_cons_zero, List.set_cons_succ])); (refine wpAnyH_take (i := 11) (v := ?_) rfl (by kernel_rfl) (by kernel_rfl) (by kernel_rfl) (fun _ _ _ h => h) (Or.inl ⟨by rfl, ?_⟩) (by assumption) ?_; rotate_left; (focus (intro w hSw; (try dsimp only at hSw); go_simp; (try with_reducible rfl))); (try simp only [List.getElem_toArray, List.getElem_cons_zero, List.getElem_cons_succ, Act.put, List.setIfInBounds_toArray, List.set_cons_zero, List.set_cons_succ]))
                refine wpAnyH_ready (rs := [12]) (by kernel_rfl) (by simp) ?_; refine AllReadyH.cons rfl (fun K hK => ?_) AllReadyH.nil; go_simp
                obtain ⟨wp, hwp⟩ : ∃ wp, (wn.setCell ⟨rg, m, none⟩ (.int .i64 y)).drew = wp := ⟨_, rfl⟩
                rw [hwp]
                have hop5 : ∀ b, b ≠ rg → wp.heap[b]? = wn.heap[b]? := fun b hb => by rw [← hwp]; exact Below.heap_setCell _ _ _ _ (by exact hb)
                have HBp : Hid (Below ws.heap.size ws wp) := by rw [← hwp]; exact (HBn.out.setCell (p := ⟨rg, m, none⟩) hrl _).drew
                have HOPp : Hid (OwnP ws.heap.size wp 40 (.slice (some ⟨g, 0, none⟩) S.np c2) S.np S.sz rv (fun j => if j = k then ((fun j => if j = k then (Q j).set m (0 : Int) else Q j) j).set m y else (fun j => if j = k then (Q j).set m (0 : Int) else Q j) j)) := by
                  rw [← hwp]
                  exact (HOPn.out.point (by decide) hkn (by rw [(HJn.out k hkn).1, HLL.out]; exact hml) y HRE.out).keep fun _ _ _ => rfl
                have HJp : Hid (JP S k (m + 1) (fun j => if j = k then ((fun j => if j = k then (Q j).set m (0 : Int) else Q j) j).set m y else (fun j => if j = k then (Q j).set m (0 : Int) else Q j) j)) := HJn.out.put (.inr rfl) hkn (by rw [HLL.out]; exact hml) HXS.out HYB.out
                have HZp := Lib.hid ((hop5 B hBrg).trans HZn.out)
                have hSp : wp.cell? ⟨B, 3, none⟩ = some (.slice (some ⟨g, 0, none⟩) S.np c2) ∧ wp.cell? ⟨g, k * 2 + 1, none⟩ = some (.slice (some ⟨rg, 0, none⟩) L rc) ∧ wp.cell? ⟨bF, oF + nx, none⟩ = some (.int .i64 y) := ⟨(World.cell?_of_block (w := wn) (hop5 B hBrg)).trans t3n, (World.cell?_of_block (w := wn) (hop5 g hgrg)).trans hgn, (World.cell?_of_block (w := wn) (hop5 bF hbr)).trans cF⟩
                clear hwp hop5
                refine hK.out _ _ hSp (fun hHeld => ?_); clear hK K; (try simp only [List.getElem_toArray, List.getElem_cons_zero, List.getElem_cons_succ, Act.put, List.setIfInBounds_toArray, List.set_cons_zero, List.set_cons_succ])
                refine wpAnyH_done (by kernel_rfl) ?_ _; clear hHeld
                clear hSp t3n hgn cF crn frn
                go_wp2_with fail
                go_roundw
                case rel => exact ⟨nx + 1, m + 1, by have := HLL.out; omega, by omega, by go_num, by go_num, ⟨_, HOPp.out, HJp.out⟩, HZp.out, HBp.out⟩
                case measure => have := HLL.out; simp [intOf]; omega
            · have hni : ¬ (nx : Int) < (nF : Int) := by omega
              go_wp2_with fail
              go_roundw
              case rel => exact ⟨nx + 1, m + 1, by have := HLL.out; omega, by omega, by go_num, by go_num, ⟨_, HOPn.out, HJn.out⟩, HZn.out, HBn.out⟩
              case measure => have := HLL.out; simp [intOf]; omega
          · have hx1b : (x == -1) = false := by simp [hx1]
            have HXS : Hid ((S.pts k).getD m 0 ≠ -1) := fun h => hx1 (HX.out.symm.trans h)
            go_wp2_with fail
            go_roundw
            case rel => exact ⟨nx, m + 1, by have := HLL.out; omega, by omega, by go_num, by go_num, ⟨Q, HOPm.out, HJm.out.skip HXS.out⟩, HZm.out, HBm.out⟩
            case measure => have := HLL.out; simp [intOf]; omega
        · have hmi : ¬ (m : Int) < (L : Int) := by omega
          clear hrow
          go_wp2_with fail
          go_roundw
          case rel => exact ⟨nx, k + 1, by omega, by omega, by go_num, by go_num, ⟨Q, HOPm.out, HJm.out.next (by have := HLL.out; omega)⟩, HZm.out, HBm.out⟩
          case measure => simp [intOf]; omega
    · have t0 := cell_blk hz 0 rfl
      have t1 := cell_blk hz 1 rfl
      have t2 := cell_blk hz 2 rfl
      have hke : k = S.np := by omega
      have HKE : Hid (JP S S.np 0 P) := by unfold Hid; rw [← hke]; exact hP
      have hki : ¬ (k : Int) < (S.np : Int) := by omega
      have hzr := (HBr.out.block _ hsz1).trans HZ1.out
      have x0 := cell_blk hzr 0 rfl
      have x1 := cell_blk hzr 1 rfl
      have x2 := cell_blk hzr 2 rfl
      have x3 := cell_blk hzr 3 rfl
      have y0 := free_blk hzr 0
      have y1 := free_blk hzr 1
      have y2 := free_blk hzr 2
      have y3 := free_blk hzr 3
      have HZR := Lib.hid hzr
      clear hzr hke hop hP hz hb
      go_wp2_with fail
      obtain ⟨w6, hw6, hz6, ho6, hb6⟩ := put4o HZR.out (.int .i64 S.J) (.int .i64 S.D) (.int .i64 S.Z) (.slice a2 S.np c2)
      rw [hw6]
      have s0 := cell_blk hz6 0 rfl
      have s1 := cell_blk hz6 1 rfl
      have s2 := cell_blk hz6 2 rfl
      have s3 := cell_blk hz6 3 rfl
      have hBf : Below w.heap.size w w6 := HB.out.trans ((HBr.out.mono HB.out.size).trans (hb6.mono (by omega)))
      have hop6 := HOP.out.keep (W' := w6) fun g' h1 _ => ho6 g' (by omega)
      have hlo : w.heap.size ≤ ws.heap.size := HB.out.size
      exact bodyPost_ret (v := .agg #[.int .i64 S.J, .int .i64 S.D, .int .i64 S.Z, .slice a2 S.np c2]) (by simp [results, Try.results14, go_sem, s0, s1, s2, s3]) rfl ⟨_, rfl, P, ⟨_, _, rv, rfl, hop6.lower hlo⟩, fun i hi => HKE.out.done hi, hBf⟩

end Go.Proofs.Ytffnlimgjnhmpaa
