/-
  JRefD: Filled of the reference.
-/
import Derived.Test.YtffnlimgjnhmpaaJRefC
namespace Go.Proofs.Ytffnlimgjnhmpaa
open Go.RowKit

theorem OwnP.congr {lo : Nat} {W : World} {TP : TypeId} {v : Value} {np : Nat} {sz : Nat → Int} {rv : Nat → Value} {pts pts' : Nat → List Int} (h : OwnP lo W TP v np sz rv pts) (e : ∀ i, i < np → pts i = pts' i) : OwnP lo W TP v np sz rv pts' :=
  ⟨fun i hi => e i hi ▸ h.row i hi, fun i j hi hj hij g h1 h2 h3 => by rw [← e j hj]; exact h.apart i j hi hj hij g h1 (by rw [e i hi]; exact h2) h3, h.body⟩
theorem OwnP.lower {lo lo' : Nat} {W : World} {TP : TypeId} {v : Value} {np : Nat} {sz : Nat → Int} {rv : Nat → Value} {pts : Nat → List Int} (h : OwnP lo W TP v np sz rv pts) (hl : lo' ≤ lo) : OwnP lo' W TP v np sz rv pts := by
  refine ⟨fun i hi => (h.row i hi).lower hl, h.apart, ?_⟩
  rcases h.body with hb | ⟨h0, g, cap, cur, rfl, h1, h2⟩
  · exact .inl hb
  · exact .inr ⟨h0, g, cap, cur, rfl, Nat.le_trans hl h1, h2⟩
theorem OwnP.pk {lo : Nat} {W : World} {v : Value} {np : Nat} {sz : Nat → Int} {rv : Nat → Value} {pts : Nat → List Int} (h : OwnP lo W 40 v np sz rv pts) : PK lo W v np sz rv := h.body
theorem OwnS.show {lo : Nat} {W : World} {v : Value} {S : JB} (h : OwnS lo W v S) (hn : S.np ≤ 1000) (hl : ∀ i, i < S.np → (S.pts i).length ≤ 1000) : ShowAt W.heap.size W v S := by
  obtain ⟨a, c, rv, rfl, hp⟩ := h
  exact hp.show hn hl S.J S.D S.Z
theorem OwnS.keep {lo : Nat} {W W' : World} {v : Value} {S : JB} (h : OwnS lo W v S) (hk : ∀ g, lo ≤ g → g < W.heap.size → W'.heap[g]? = W.heap[g]?) : OwnS lo W' v S := by
  obtain ⟨a, c, rv, rfl, hp⟩ := h
  exact ⟨a, c, rv, rfl, hp.keep hk⟩
theorem OwnS.lower {lo lo' : Nat} {W : World} {v : Value} {S : JB} (h : OwnS lo W v S) (hl : lo' ≤ lo) : OwnS lo' W v S := by
  obtain ⟨a, c, rv, rfl, hp⟩ := h
  exact ⟨a, c, rv, rfl, hp.lower hl⟩

/-- all points of a plate that are not in are one number, those of the others another one -/
def filS (S : JB) (p own oth : Int) : JB := { S with pts := fun i => fil (if (i : Int) = p then own else oth) (S.pts i) }
/-- the first m points are filled -/
def filU (n : Int) (m : Nat) (l : List Int) : List Int := fil n (l.take m) ++ l.drop m
theorem filU_zero (n : Int) (l : List Int) : filU n 0 l = l := by simp [filU, fil]
theorem filU_all (n : Int) (l : List Int) : filU n l.length l = fil n l := by simp [filU]
theorem filU_len (n : Int) (m : Nat) (l : List Int) : (filU n m l).length = l.length := by simp [filU, fil]; omega
theorem filU_at (n : Int) (m : Nat) (l : List Int) : (filU n m l).getD m 0 = l.getD m 0 := by
  unfold filU
  rcases Nat.lt_or_ge m l.length with h | h
  · have h1 : (fil n (l.take m)).length = m := by simp [fil]; omega
    rw [List.getD_eq_getElem?_getD, List.getD_eq_getElem?_getD, List.getElem?_append_right (by omega), h1, Nat.sub_self, List.getElem?_drop, Nat.add_zero]
  · rw [List.getD_eq_getElem?_getD, List.getD_eq_getElem?_getD, List.getElem?_eq_none (by simp [fil]; omega), List.getElem?_eq_none h]
theorem filU_succ {n : Int} {m : Nat} {l : List Int} (h : m < l.length) : filU n (m + 1) l = fil n (l.take m) ++ (if l.getD m 0 = -1 then n else l.getD m 0) :: l.drop (m + 1) := by
  unfold filU
  rw [List.take_succ_eq_append_getElem h, getD_at h]
  unfold fil
  rw [List.map_append, List.append_assoc]
  rfl
theorem filU_drop {n : Int} {m : Nat} {l : List Int} (h : m < l.length) : filU n m l = fil n (l.take m) ++ l.getD m 0 :: l.drop (m + 1) := by
  unfold filU
  rw [List.drop_eq_getElem_cons h]
  simp [List.getD, List.getElem?_eq_getElem h]
theorem filU_skip {n : Int} {m : Nat} {l : List Int} (h : m < l.length) (hx : l.getD m 0 ≠ -1) : filU n (m + 1) l = filU n m l := by
  rw [filU_succ h, if_neg hx, filU_drop h]
theorem filU_set {n : Int} {m : Nat} {l : List Int} (h : m < l.length) (hx : l.getD m 0 = -1) : (filU n m l).set m n = filU n (m + 1) l := by
  rw [filU_succ h, if_pos hx, filU_drop h]
  have h1 : (fil n (l.take m)).length = m := by simp [fil]; omega
  rw [List.set_append_right _ _ (by omega), h1, Nat.sub_self]
  rfl
/-- the rows while they are filled -/
def flK (S : JB) (p own oth : Int) (k m : Nat) (j : Nat) : List Int := if j < k then fil (if (j : Int) = p then own else oth) (S.pts j) else if j = k then filU (if (j : Int) = p then own else oth) m (S.pts j) else S.pts j

set_option maxHeartbeats 6400000 in
set_option maxRecDepth 100000 in
theorem filled_any (N : Nat) (v : Value) (S : JB) (p own oth : Int) (w : World) (h : ShowAt N w v S) (hnp : S.np ≤ 40) (hl : ∀ i, i < S.np → (S.pts i).length ≤ 40) :
    Calls Try.prog 75 #[v, .int .i64 p, .int .i64 own, .int .i64 oth] w fun e w' => ∃ v', e = .returned v' ∧ OwnS w.heap.size w' v' (filS S p own oth) ∧ Below w.heap.size w w' := by
  obtain ⟨a1, c1, rfl⟩ := h.form
  obtain ⟨ws, hws, HB, hsz, hsz1, hblk, hblk1⟩ := box2 w (.cells #[.int .i64 S.J, .int .i64 S.D, .int .i64 S.Z, .slice a1 S.np c1] 24) (.cells #[.int .i64 0, .int .i64 0, .int .i64 0, .slice none 0 0] 24)
  have q0 := cell_blk hblk 0 rfl
  have q1 := cell_blk hblk 1 rfl
  have q2 := cell_blk hblk 2 rfl
  have q3 := cell_blk hblk 3 rfl
  have HBK := Lib.hid (h.go HB.out)
  have HZ1 := Lib.hid hblk1
  have HNP := Lib.hid hnp
  have HL := Lib.hid hl
  have hnp1 : S.np ≤ 1000000 := by omega
  clear hblk hblk1 h hnp hl
  go_enter Try.func75, Try.ntmps75
  go_upto_region 2 with (go_at_call 34; refine (copy_any N _ S _ HBK.out HNP.out HL.out).mono ?_; rintro e w1 ⟨v1, rfl, ⟨a2, c2, rv, rfl, hop⟩, hb1⟩; have HOP := Lib.hid hop; have HB1 : Hid (Below ws.heap.size ws w1) := hb1; clear hop hb1; obtain ⟨wo, hwo, HBo, hszo, hblko⟩ := box1 w1 (.cells #[.int .i64 0, .int .i64 0, .int .i64 0, .slice none 0 0] 24); have HZo := Lib.hid hblko; have z0 := cell_blk hblko 0 rfl; have z1 := cell_blk hblko 1 rfl; have z2 := cell_blk hblko 2 rfl; have z3 := cell_blk hblko 3 rfl; have f0 := free_blk hblko 0; have f1 := free_blk hblko 1; have f2 := free_blk hblko 2; have f3 := free_blk hblko 3; clear hblko)
  obtain ⟨w2, hw2, hz2, ho2, hb2⟩ := put4o HZo.out (.int .i64 S.J) (.int .i64 S.D) (.int .i64 S.Z) (.slice a2 S.np c2)
  rw [hw2]
  have HOP2 : Hid (OwnP ws.heap.size w2 40 (.slice a2 S.np c2) S.np S.sz rv S.pts) := HOP.out.keep fun g _ h => (hb2.block g h).trans (HBo.out.block g h)
  have HZ2 := Lib.hid hz2
  have HB2 : Hid (Below ws.heap.size ws w2) := HB1.out.trans ((HBo.out.trans hb2).mono HB1.out.size)
  have hs1w := HB1.out.size
  have hsw12 : w1.heap.size < w2.heap.size := Nat.lt_of_lt_of_le hszo hb2.size
  clear hw2 hz2 ho2 hb2 z0 z1 z2 z3 f0 f1 f2 f3 hwo HZo HBo HOP q0 q1 q2 q3
  obtain ⟨B, hB⟩ : ∃ B, w1.heap.size = B := ⟨_, rfl⟩
  rw [hB] at HZ2 hs1w hsw12 ⊢
  clear hB hszo
  go_wp2_with fail
  go_loopw [10] (fun i wr => ∃ k : Nat, k ≤ S.np ∧ i = .int .i64 k ∧ Hid ((∃ P, OwnP ws.heap.size wr 40 (.slice a2 S.np c2) S.np S.sz rv P ∧ ∀ j, j < S.np → P j = flK S p own oth k 0 j) ∧ wr.heap[B]? = some (.cells #[.int .i64 S.J, .int .i64 S.D, .int .i64 S.Z, .slice a2 S.np c2] 24) ∧ Below ws.heap.size ws wr)) (fun i _ => S.np - (intOf i).toNat)
  case atStart => exact ⟨0, Nat.zero_le _, rfl, ⟨S.pts, HOP2.out, fun j _ => by simp only [flK, Nat.not_lt_zero, if_false]; split <;> simp [filU_zero]⟩, HZ2.out, HB2.out⟩
  case round =>
    obtain ⟨k, hk, rfl, hI⟩ := hrel
    obtain ⟨⟨P, hop, hP⟩, hz, hb⟩ := hI
    have HOP := Lib.hid hop
    have HP := Lib.hid hP
    have HZ := Lib.hid hz
    have HBr := Lib.hid hb
    have t3 := cell_blk hz 3 rfl
    have hBw := heap_lt hz
    by_cases hkn : k < S.np
    · clear hop hP hz hb
      by_cases hkp : (k : Int) = p
      · have hkb : ((k : Int) == p) = true := by simp [hkp]
        have HEN : Hid ((if (k : Int) = p then own else oth) = own) := if_pos hkp
        have hki : (k : Int) < (S.np : Int) := by omega
        clear hkp
        go_upto_region 8 with fail
        obtain ⟨wo, hwo⟩ : ∃ wo, wo = wr := ⟨_, rfl⟩
        subst hwo
        go_wp2_with fail
        go_loopw [12] (fun i wr => ∃ m : Nat, m ≤ (S.pts k).length ∧ i = .int .i64 m ∧ Hid ((∃ P, OwnP ws.heap.size wr 40 (.slice a2 S.np c2) S.np S.sz rv P ∧ ∀ j, j < S.np → P j = flK S p own oth k m j) ∧ wr.heap[B]? = some (.cells #[.int .i64 S.J, .int .i64 S.D, .int .i64 S.Z, .slice a2 S.np c2] 24) ∧ Below ws.heap.size ws wr)) (fun i _ => (S.pts k).length - (intOf i).toNat)
        case atStart => exact ⟨0, Nat.zero_le _, rfl, ⟨P, HOP.out, HP.out⟩, HZ.out, HBr.out⟩
        case round =>
          obtain ⟨m, hm, rfl, hI⟩ := hrel
          obtain ⟨⟨Q, hop, hQ⟩, hz, hb⟩ := hI
          have hQk : Q k = filU own m (S.pts k) := by rw [hQ k hkn]; simp only [flK, Nat.lt_irrefl, if_false, if_true]; rw [HEN.out]
          have hQl : (Q k).length = (S.pts k).length := by rw [hQk, filU_len]
          obtain ⟨g, e, _, _, hg1, hg2, hgc, hgf, _⟩ := hop.pk.at (by omega)
          cases e
          have gk := (hgc k hkn).2
          have hrow := hop.row k hkn
          obtain ⟨ra, rc, hre⟩ := hrow.form
          have hHre := Lib.hid hre
          rw [hre] at gk hrow
          obtain ⟨L, hL⟩ : ∃ L, (S.pts k).length = L := ⟨_, rfl⟩
          rw [hQl, hL] at gk hrow
          rw [hL] at hm
          have HLL := Lib.hid hL
          have HOPm := Lib.hid hop
          have HQm := Lib.hid hQ
          have HZm := Lib.hid hz
          have HBm := Lib.hid hb
          have t3 := cell_blk hz 3 rfl
          have HQL := Lib.hid (hQl.trans hL)
          have HQK := Lib.hid hQk
          have hki : (k : Int) < (S.np : Int) := by omega
          have hL40 : L ≤ 40 := by have := HL.out k hkn; omega
          clear hop hQ hz hb hgc hgf hre hQl hQk hL
          by_cases hml : m < L
          · obtain ⟨rg, rfl, hq⟩ := hrow.addr (by rw [HQL.out]; omega)
            clear hq
            obtain ⟨hrw, hrl, hrc, hrf, _⟩ := hrow.at (by rw [HQL.out]; omega)
            obtain ⟨x, hx⟩ : ∃ x, (S.pts k).getD m 0 = x := ⟨_, rfl⟩
            have cm := hrc m (by rw [HQL.out]; omega)
            rw [HQK.out, filU_at, hx] at cm
            have fm := hrf m
            have HX := Lib.hid hx
            have HRE : Hid (rv k = .slice (some ⟨rg, 0, none⟩) L rc) := by have := hHre.out; rw [HQL.out] at this; exact this
            have hmi : (m : Int) < (L : Int) := by omega
            clear hrow hrc hrf hx
            by_cases hx1 : x = -1
            · have hx1b : (x == -1) = true := by simp [hx1]
              have HX1 := Lib.hid hx1
              clear hx1
              go_wp2_with fail
              obtain ⟨wn, hwn⟩ : ∃ wn, wr.setCell ⟨rg, m, none⟩ (.int .i64 own) = wn := ⟨_, rfl⟩
              rw [hwn]
              have HOPn : Hid (∃ P, OwnP ws.heap.size wn 40 (.slice (some ⟨g, 0, none⟩) S.np c2) S.np S.sz rv P ∧ ∀ j, j < S.np → P j = flK S p own oth k (m + 1) j) := by
                refine ⟨_, by rw [← hwn]; exact HOPm.out.point (by decide) hkn (by rw [HQL.out]; exact hml) own HRE.out, fun j hj => ?_⟩
                show (if j = k then (Q j).set m own else Q j) = _
                by_cases e : j = k
                · subst e
                  rw [if_pos rfl, HQK.out, filU_set (by rw [HLL.out]; exact hml) (by rw [HX.out]; exact HX1.out)]
                  simp only [flK, Nat.lt_irrefl, if_false, if_true]
                  rw [HEN.out]
                · rw [if_neg e, HQm.out j hj]
                  simp only [flK, if_neg e]
              have hBrg : B ≠ rg := fun e => by
                subst e
                obtain ⟨_, g', cap', cur', ev, k1, k2, k3, k4⟩ := (HOPm.out.row k hkn).resolve_left (fun hh => by have := HQL.out; rw [hh.1] at this; simp at this; omega)
                rw [HRE.out] at ev
                cases ev
                rw [HZm.out] at k3
                injection k3 with k3
                injection k3 with _ k3
                exact absurd k3 (by decide)
              have HZn : Hid (wn.heap[B]? = some (.cells #[.int .i64 S.J, .int .i64 S.D, .int .i64 S.Z, .slice (some ⟨g, 0, none⟩) S.np c2] 24)) := by rw [← hwn]; exact (Below.heap_setCell _ _ _ _ (by exact hBrg)).trans HZm.out
              have HBn : Hid (Below ws.heap.size ws wn) := by rw [← hwn]; exact HBm.out.setCell (p := ⟨rg, m, none⟩) hrl _
              clear hwn
              go_roundw
              case rel => exact ⟨m + 1, by have := HLL.out; omega, by go_num, HOPn.out, HZn.out, HBn.out⟩
              case measure => have := HLL.out; simp [intOf]; omega
            · have hx1b : (x == -1) = false := by simp [hx1]
              have HX1 := Lib.hid hx1
              clear hx1
              go_wp2_with fail
              go_roundw
              case rel => exact ⟨m + 1, by have := HLL.out; omega, by go_num, ⟨Q, HOPm.out, fun j hj => by
                rw [HQm.out j hj]
                by_cases e : j = k
                · subst e
                  simp only [flK, Nat.lt_irrefl, if_false, if_true]
                  rw [filU_skip (by rw [HLL.out]; exact hml) (by rw [HX.out]; exact HX1.out)]
                · simp only [flK, if_neg e]⟩, HZm.out, HBm.out⟩
              case measure => have := HLL.out; simp [intOf]; omega
          · have hmL : m = L := by omega
            have hmi : ¬ (m : Int) < (L : Int) := by omega
            have HML := Lib.hid hmL
            clear hmL hrow
            go_wp2_with fail
            go_roundw
            case rel => exact ⟨k + 1, by omega, by go_num, ⟨Q, HOPm.out, fun j hj => by
              rw [HQm.out j hj]
              by_cases e : j = k
              · subst e
                simp only [flK, Nat.lt_irrefl, if_false, if_true, Nat.lt_succ_self]
                rw [HML.out, ← HLL.out, filU_all]
              · by_cases e2 : j < k
                · simp only [flK, if_pos e2, if_pos (Nat.lt_succ_of_lt e2)]
                · simp only [flK, if_neg e2, if_neg e, if_neg (show ¬ j < k + 1 by omega)]
                  split
                  · exact (filU_zero _ _).symm
                  · rfl⟩, HZm.out, HBm.out⟩
            case measure => simp [intOf]; omega
      · have hkb : ((k : Int) == p) = false := by simp [hkp]
        have HEN : Hid ((if (k : Int) = p then own else oth) = oth) := if_neg hkp
        have hki : (k : Int) < (S.np : Int) := by omega
        clear hkp
        go_upto_region 8 with fail
        obtain ⟨wo, hwo⟩ : ∃ wo, wo = wr := ⟨_, rfl⟩
        subst hwo
        go_wp2_with fail
        go_loopw [12] (fun i wr => ∃ m : Nat, m ≤ (S.pts k).length ∧ i = .int .i64 m ∧ Hid ((∃ P, OwnP ws.heap.size wr 40 (.slice a2 S.np c2) S.np S.sz rv P ∧ ∀ j, j < S.np → P j = flK S p own oth k m j) ∧ wr.heap[B]? = some (.cells #[.int .i64 S.J, .int .i64 S.D, .int .i64 S.Z, .slice a2 S.np c2] 24) ∧ Below ws.heap.size ws wr)) (fun i _ => (S.pts k).length - (intOf i).toNat)
        case atStart => exact ⟨0, Nat.zero_le _, rfl, ⟨P, HOP.out, HP.out⟩, HZ.out, HBr.out⟩
        case round =>
          obtain ⟨m, hm, rfl, hI⟩ := hrel
          obtain ⟨⟨Q, hop, hQ⟩, hz, hb⟩ := hI
          have hQk : Q k = filU oth m (S.pts k) := by rw [hQ k hkn]; simp only [flK, Nat.lt_irrefl, if_false, if_true]; rw [HEN.out]
          have hQl : (Q k).length = (S.pts k).length := by rw [hQk, filU_len]
          obtain ⟨g, e, _, _, hg1, hg2, hgc, hgf, _⟩ := hop.pk.at (by omega)
          cases e
          have gk := (hgc k hkn).2
          have hrow := hop.row k hkn
          obtain ⟨ra, rc, hre⟩ := hrow.form
          have hHre := Lib.hid hre
          rw [hre] at gk hrow
          obtain ⟨L, hL⟩ : ∃ L, (S.pts k).length = L := ⟨_, rfl⟩
          rw [hQl, hL] at gk hrow
          rw [hL] at hm
          have HLL := Lib.hid hL
          have HOPm := Lib.hid hop
          have HQm := Lib.hid hQ
          have HZm := Lib.hid hz
          have HBm := Lib.hid hb
          have t3 := cell_blk hz 3 rfl
          have HQL := Lib.hid (hQl.trans hL)
          have HQK := Lib.hid hQk
          have hki : (k : Int) < (S.np : Int) := by omega
          have hL40 : L ≤ 40 := by have := HL.out k hkn; omega
          clear hop hQ hz hb hgc hgf hre hQl hQk hL
          by_cases hml : m < L
          · obtain ⟨rg, rfl, hq⟩ := hrow.addr (by rw [HQL.out]; omega)
            clear hq
            obtain ⟨hrw, hrl, hrc, hrf, _⟩ := hrow.at (by rw [HQL.out]; omega)
            obtain ⟨x, hx⟩ : ∃ x, (S.pts k).getD m 0 = x := ⟨_, rfl⟩
            have cm := hrc m (by rw [HQL.out]; omega)
            rw [HQK.out, filU_at, hx] at cm
            have fm := hrf m
            have HX := Lib.hid hx
            have HRE : Hid (rv k = .slice (some ⟨rg, 0, none⟩) L rc) := by have := hHre.out; rw [HQL.out] at this; exact this
            have hmi : (m : Int) < (L : Int) := by omega
            clear hrow hrc hrf hx
            by_cases hx1 : x = -1
            · have hx1b : (x == -1) = true := by simp [hx1]
              have HX1 := Lib.hid hx1
              clear hx1
              go_wp2_with fail
              obtain ⟨wn, hwn⟩ : ∃ wn, wr.setCell ⟨rg, m, none⟩ (.int .i64 oth) = wn := ⟨_, rfl⟩
              rw [hwn]
              have HOPn : Hid (∃ P, OwnP ws.heap.size wn 40 (.slice (some ⟨g, 0, none⟩) S.np c2) S.np S.sz rv P ∧ ∀ j, j < S.np → P j = flK S p own oth k (m + 1) j) := by
                refine ⟨_, by rw [← hwn]; exact HOPm.out.point (by decide) hkn (by rw [HQL.out]; exact hml) oth HRE.out, fun j hj => ?_⟩
                show (if j = k then (Q j).set m oth else Q j) = _
                by_cases e : j = k
                · subst e
                  rw [if_pos rfl, HQK.out, filU_set (by rw [HLL.out]; exact hml) (by rw [HX.out]; exact HX1.out)]
                  simp only [flK, Nat.lt_irrefl, if_false, if_true]
                  rw [HEN.out]
                · rw [if_neg e, HQm.out j hj]
                  simp only [flK, if_neg e]
              have hBrg : B ≠ rg := fun e => by
                subst e
                obtain ⟨_, g', cap', cur', ev, k1, k2, k3, k4⟩ := (HOPm.out.row k hkn).resolve_left (fun hh => by have := HQL.out; rw [hh.1] at this; simp at this; omega)
                rw [HRE.out] at ev
                cases ev
                rw [HZm.out] at k3
                injection k3 with k3
                injection k3 with _ k3
                exact absurd k3 (by decide)
              have HZn : Hid (wn.heap[B]? = some (.cells #[.int .i64 S.J, .int .i64 S.D, .int .i64 S.Z, .slice (some ⟨g, 0, none⟩) S.np c2] 24)) := by rw [← hwn]; exact (Below.heap_setCell _ _ _ _ (by exact hBrg)).trans HZm.out
              have HBn : Hid (Below ws.heap.size ws wn) := by rw [← hwn]; exact HBm.out.setCell (p := ⟨rg, m, none⟩) hrl _
              clear hwn
              go_roundw
              case rel => exact ⟨m + 1, by have := HLL.out; omega, by go_num, HOPn.out, HZn.out, HBn.out⟩
              case measure => have := HLL.out; simp [intOf]; omega
            · have hx1b : (x == -1) = false := by simp [hx1]
              have HX1 := Lib.hid hx1
              clear hx1
              go_wp2_with fail
              go_roundw
              case rel => exact ⟨m + 1, by have := HLL.out; omega, by go_num, ⟨Q, HOPm.out, fun j hj => by
                rw [HQm.out j hj]
                by_cases e : j = k
                · subst e
                  simp only [flK, Nat.lt_irrefl, if_false, if_true]
                  rw [filU_skip (by rw [HLL.out]; exact hml) (by rw [HX.out]; exact HX1.out)]
                · simp only [flK, if_neg e]⟩, HZm.out, HBm.out⟩
              case measure => have := HLL.out; simp [intOf]; omega
          · have hmL : m = L := by omega
            have hmi : ¬ (m : Int) < (L : Int) := by omega
            have HML := Lib.hid hmL
            clear hmL hrow
            go_wp2_with fail
            go_roundw
            case rel => exact ⟨k + 1, by omega, by go_num, ⟨Q, HOPm.out, fun j hj => by
              rw [HQm.out j hj]
              by_cases e : j = k
              · subst e
                simp only [flK, Nat.lt_irrefl, if_false, if_true, Nat.lt_succ_self]
                rw [HML.out, ← HLL.out, filU_all]
              · by_cases e2 : j < k
                · simp only [flK, if_pos e2, if_pos (Nat.lt_succ_of_lt e2)]
                · simp only [flK, if_neg e2, if_neg e, if_neg (show ¬ j < k + 1 by omega)]
                  split
                  · exact (filU_zero _ _).symm
                  · rfl⟩, HZm.out, HBm.out⟩
            case measure => simp [intOf]; omega
    · have t0 := cell_blk hz 0 rfl
      have t1 := cell_blk hz 1 rfl
      have t2 := cell_blk hz 2 rfl
      have hke : k = S.np := by omega
      have HKE := Lib.hid hke
      have hki : ¬ (k : Int) < (S.np : Int) := by omega
      have hzr := (HBr.out.block _ hsz1).trans HZ1.out
      have x0 := cell_blk hzr 0 rfl
      have x1 := cell_blk hzr 1 rfl
      have x2 := cell_blk hzr 2 rfl
      have x3 := cell_blk hzr 3 rfl
      have y0 := free_blk hzr 0
      have y1 := free_blk hzr 1
      have y2 := free_blk hzr 2
      have y3 := free_blk hzr 3
      have HZR := Lib.hid hzr
      clear hzr hop hP hz hb hke
      go_wp2_with fail
      obtain ⟨wz, hwz, hzz, hoz, hbz⟩ := put4o HZR.out (.int .i64 S.J) (.int .i64 S.D) (.int .i64 S.Z) (.slice a2 S.np c2)
      rw [hwz]
      refine bodyPost_ret (v := .agg #[.int .i64 S.J, .int .i64 S.D, .int .i64 S.Z, .slice a2 S.np c2]) (resShow rfl rfl rfl hzz) rfl ?_
      have hop := HOP.out.keep (W' := wz) fun g h1 _ => hoz g (by omega)
      refine ⟨_, rfl, ⟨a2, c2, rv, rfl, (hop.lower HB.out.size).congr fun j hj => ?_⟩, HB.out.trans ((HBr.out.mono HB.out.size).trans (hbz.mono (by omega)))⟩
      rw [HP.out j hj]
      have := HKE.out
      simp only [flK, if_pos (show j < k by omega)]
      rfl

theorem filled_ag (N : Nat) (v : Value) (S : JB) (p own oth : Int) (w : World) (h : ShowAt N w v S) (hnp : S.np ≤ 40) (hl : ∀ i, i < S.np → (S.pts i).length ≤ 40) :
    Calls Try.prog 75 #[v, .int .i64 p, .int .i64 own, .int .i64 oth] w fun e w' => ∃ a c rv, e = .returned (.agg #[.int .i64 S.J, .int .i64 S.D, .int .i64 S.Z, .slice a S.np c]) ∧ OwnP w.heap.size w' 40 (.slice a S.np c) S.np S.sz rv (filS S p own oth).pts ∧ Below w.heap.size w w' :=
  (filled_any N v S p own oth w h hnp hl).mono fun _ _ ⟨_, he, ⟨a, c, rv, hv, ho⟩, hb⟩ => ⟨a, c, rv, by rw [he, hv]; rfl, ho, hb⟩

end Go.Proofs.Ytffnlimgjnhmpaa
