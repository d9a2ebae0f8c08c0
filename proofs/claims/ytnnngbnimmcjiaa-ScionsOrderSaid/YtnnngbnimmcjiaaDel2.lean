/-
  Del2: slices.DeleteFunc of the wants of a garden.
-/
import Derived.Test.YtnnngbnimmcjiaaDel
namespace Go.Proofs.Ytnnngbnimmcjiaa
open Go.RowKit

/-- the block while it is closed up: those that are kept of the first j, and the others from j on -/
def DL (W : World) (g n : Nat) (x y : Nat → Int) (d : Int) (j : Nat) : Prop :=
  ∃ cur t, W.heap[g]? = some (.cells cur t) ∧ (∀ i, i < (keptL x d j).length → cur[i * 2]? = some (.int .i64 (x ((keptL x d j).getD i 0))) ∧ cur[i * 2 + 1]? = some (.int .i64 (y ((keptL x d j).getD i 0)))) ∧
    (∀ i, j ≤ i → i < n → cur[i * 2]? = some (.int .i64 (x i)) ∧ cur[i * 2 + 1]? = some (.int .i64 (y i))) ∧ n * 2 ≤ cur.size
theorem DL.keep {W W' : World} {g n : Nat} {x y : Nat → Int} {d : Int} {j : Nat} (h : DL W g n x y d j) (hk : W'.heap[g]? = W.heap[g]?) : DL W' g n x y d j := by
  obtain ⟨cur, t, h1, h2⟩ := h
  exact ⟨cur, t, hk.trans h1, h2⟩
theorem DL.skip {W : World} {g n : Nat} {x y : Nat → Int} {d : Int} {j : Nat} (h : DL W g n x y d j) (hd : x j = d) : DL W g n x y d (j + 1) := by
  obtain ⟨cur, t, h1, h2, h3, h4⟩ := h
  have e : keptL x d (j + 1) = keptL x d j := by simp [keptL, hd]
  exact ⟨cur, t, h1, by rw [e]; exact h2, fun i hi hn => h3 i (by omega) hn, h4⟩
theorem DL.put {W : World} {g n : Nat} {x y : Nat → Int} {d : Int} {j : Nat} (h : DL W g n x y d j) (hd : x j ≠ d) (hj : j < n) (hi : (keptL x d j).length < j) :
    DL ((W.setCell ⟨g, (keptL x d j).length * 2, none⟩ (.int .i64 (x j))).setCell ⟨g, (keptL x d j).length * 2 + 1, none⟩ (.int .i64 (y j))) g n x y d (j + 1) := by
  obtain ⟨cur, t, h1, h2, h3, h4⟩ := h
  have e : keptL x d (j + 1) = keptL x d j ++ [j] := by simp [keptL, hd]
  refine ⟨_, t, blk_set (blk_set h1 _ _) _ _, ?_, ?_, by simpa using h4⟩
  · rw [e]
    intro i hi'
    rw [List.length_append, List.length_singleton] at hi'
    by_cases hl : i < (keptL x d j).length
    · rw [Array.getElem?_setIfInBounds_ne (by omega), Array.getElem?_setIfInBounds_ne (by omega), Array.getElem?_setIfInBounds_ne (by omega), Array.getElem?_setIfInBounds_ne (by omega)]
      have := h2 i hl
      simpa [List.getD, List.getElem?_append_left hl] using this
    · have : i = (keptL x d j).length := by omega
      subst this
      rw [Array.getElem?_setIfInBounds_ne (by omega), Array.getElem?_setIfInBounds_self_of_lt (by omega), Array.getElem?_setIfInBounds_self_of_lt (by simp; omega)]
      simp [List.getD]
  · intro i hi' hn
    rw [Array.getElem?_setIfInBounds_ne (by omega), Array.getElem?_setIfInBounds_ne (by omega), Array.getElem?_setIfInBounds_ne (by omega), Array.getElem?_setIfInBounds_ne (by omega)]
    exact h3 i (by omega) hn
theorem DL.free {W : World} {g n : Nat} {x y : Nat → Int} {d : Int} {j : Nat} (h : DL W g n x y d j) (i : Nat) : W.frozen? ⟨g, i, none⟩ = false := by
  obtain ⟨cur, t, h1, _⟩ := h
  exact free_blk h1 i
theorem DL.isSome {W : World} {g n : Nat} {x y : Nat → Int} {d : Int} {j : Nat} (h : DL W g n x y d j) (i : Nat) (hi : i < n * 2) : ∃ v, W.cell? ⟨g, i, none⟩ = some v := by
  obtain ⟨cur, t, h1, _, _, h4⟩ := h
  exact ⟨cur[i], cell_blk h1 i (Array.getElem?_eq_getElem (by omega))⟩
theorem DL.at {W : World} {g n : Nat} {x y : Nat → Int} {d : Int} {j : Nat} (h : DL W g n x y d j) (hj : j < n) : W.cell? ⟨g, j * 2, none⟩ = some (.int .i64 (x j)) ∧ W.cell? ⟨g, j * 2 + 1, none⟩ = some (.int .i64 (y j)) := by
  obtain ⟨cur, t, h1, _, h3, _⟩ := h
  exact ⟨cell_blk h1 _ (h3 j (Nat.le_refl _) hj).1, cell_blk h1 _ (h3 j (Nat.le_refl _) hj).2⟩
theorem DL.lt {W : World} {g n : Nat} {x y : Nat → Int} {d : Int} {j : Nat} (h : DL W g n x y d j) : g < W.heap.size := by
  obtain ⟨cur, t, h1, _⟩ := h
  exact heap_lt h1

/-- what reads as pairs -/
def PR (lo : Nat) (W : World) (v : Value) (n : Nat) (x y : Nat → Int) : Prop := ∃ a c, v = .slice a n c ∧ (0 < n → ∃ b off, a = some ⟨b, off, none⟩ ∧ lo ≤ b) ∧ PairsAt W.heap.size W v n x y
theorem PR.keep {lo : Nat} {W W' : World} {v : Value} {n : Nat} {x y : Nat → Int} (h : PR lo W v n x y) (hk : ∀ g, lo ≤ g → g < W.heap.size → W'.heap[g]? = W.heap[g]?) (hs : W.heap.size ≤ W'.heap.size) : PR lo W' v n x y := by
  obtain ⟨a, c, rfl, h1, ao, cap, e, h2, h3, h4⟩ := h
  cases e
  refine ⟨_, _, rfl, h1, _, _, rfl, h2, h3, fun h0 => ?_⟩
  obtain ⟨b, off, e, hb⟩ := h1 h0
  obtain ⟨b2, off2, e2, hb2, hr⟩ := h4 h0
  rw [e] at e2
  cases e2
  refine ⟨b, off, e, by omega, fun i hi => ?_⟩
  have hh := hk b hb hb2
  exact ⟨(World.cell?_of_block (w := W) (a := ⟨b, off + i * 2, none⟩) hh).trans (hr i hi).1, (World.cell?_of_block (w := W) (a := ⟨b, off + i * 2 + 1, none⟩) hh).trans (hr i hi).2⟩

theorem least_ex {P : Nat → Prop} : ∀ n, P n → ∃ k, k ≤ n ∧ P k ∧ ∀ j, j < k → ¬ P j := by
  intro n
  induction n using Nat.strongRecOn with
  | ind n ih =>
    intro h
    by_cases e : ∃ m, m < n ∧ P m
    · obtain ⟨m, hm, hp⟩ := e
      obtain ⟨k, hk, h2⟩ := ih m hm hp
      exact ⟨k, by omega, h2⟩
    · exact ⟨n, Nat.le_refl _, h, fun j hj hp => e ⟨j, hj, hp⟩⟩
theorem DL.clear {W : World} {g n i : Nat} {x y : Nat → Int} {d : Int} (h : DL W g n x y d n) (zs : List Value) (hi : (keptL x d n).length = i) (hn : n ≤ 40) (cap : Nat) (hc : n ≤ cap) :
    PairsAt (W.setCells g (i * 2) zs).heap.size (W.setCells g (i * 2) zs) (.slice (some ⟨g, 0, none⟩) i cap) i (fun k => x ((keptL x d n).getD k 0)) (fun k => y ((keptL x d n).getD k 0)) := by
  have hl := keptL_len x d n
  obtain ⟨cur, t, h1, h2, h3, h4⟩ := h
  have hsz : ∀ (vs : List Value) (o : Nat) (w : World), (w.setCells g o vs).heap.size = w.heap.size := by
    intro vs
    induction vs with
    | nil => intro o w; rfl
    | cons a vs ih => intro o w; rw [World.setCells, ih]; simp [World.setCell]
  refine ⟨_, cap, rfl, by omega, by omega, fun _ => ⟨g, 0, rfl, by rw [hsz]; exact heap_lt h1, fun k hk => ?_⟩⟩
  rw [Nat.zero_add]
  rw [World.cell?_setCells_out g zs (i * 2) W ⟨g, k * 2, none⟩ (fun _ _ => .inl (by show k * 2 < i * 2; omega)), World.cell?_setCells_out g zs (i * 2) W ⟨g, k * 2 + 1, none⟩ (fun _ _ => .inl (by show k * 2 + 1 < i * 2; omega))]
  exact ⟨cell_blk h1 _ (h2 k (by omega)).1, cell_blk h1 _ (h2 k (by omega)).2⟩
theorem below_setCells {lo g : Nat} {w0 : World} (zs : List Value) : ∀ (o : Nat) (W : World), Below lo w0 W → lo ≤ g → Below lo w0 (W.setCells g o zs) := by
  induction zs with
  | nil => intro o W h _; exact h
  | cons a zs ih => intro o W h hg; exact ih _ _ (h.setCell (p := ⟨g, o, none⟩) hg a) hg

set_option maxRecDepth 100000 in
set_option maxHeartbeats 3200000 in
theorem deleteFunc_any (lo bp : Nat) (v : Value) (n : Nat) (x y : Nat → Int) (d : Int) (w : World) (h : PB lo w v n x y) (hn : n ≤ 40) (hp : w.cell? ⟨bp, 0, none⟩ = some (.int .i64 d)) (hb : bp < lo) (hl : lo ≤ w.heap.size) :
    Calls Try.prog 89 #[v, .func (.func 91) #[] #[.pointer (some ⟨bp, 0, none⟩)]] w fun e w' => (∃ v', e = .returned v' ∧ PR lo w' v' (keptL x d n).length (fun i => x ((keptL x d n).getD i 0)) (fun i => y ((keptL x d n).getD i 0))) ∧ Below lo w w' := by
  obtain ⟨av, cv, rfl⟩ := h.form
  have HP := Lib.hid (h.pairs (by omega))
  have HI := Lib.hid (indexDel_any w.heap.size bp _ n x y d w HP.out (Nat.le_refl _) hp (Nat.lt_of_lt_of_le hb hl))
  have HPP := Lib.hid hp
  have HL := Lib.hid hl
  have HOB : Hid (0 < n → ∃ b off, av = some ⟨b, off, none⟩ ∧ lo ≤ b) := fun h0 => by
    rcases h with ⟨h1, _⟩ | ⟨_, g, cap, cur, t, e, hg1, _⟩
    · omega
    · cases e; exact ⟨g, 0, rfl, hg1⟩
  by_cases hall : ∀ j, j < n → x j ≠ d
  · have HF : Hid ((firstI n fun i => decide (x i = d)) = -1) := firstI_none n _ fun j hj => decide_eq_false (hall j hj)
    rw [HF.out] at HI
    have hk := keptL_all n hall
    have HK := Lib.hid hk
    clear hall hp hk h
    go_enter Try.func89, Try.ntmps89
    go_wp2_with (go_at_call 95; refine HI.out.mono ?_; clear HI; rintro e w1 ⟨rfl, hb1⟩)
    go_ret
    refine ⟨⟨_, rfl, av, cv, by rw [HK.out]; simp, fun h0 => ?_, ?_⟩, hb1.mono HL.out⟩
    · rw [HK.out, List.length_range] at h0
      exact HOB.out h0
    rw [HK.out, List.length_range]
    obtain ⟨ao, cap, e, h1, h2, h3⟩ := HP.out.mono hb1 hb1.size
    refine ⟨ao, cap, e, h1, h2, fun h0 => ?_⟩
    obtain ⟨b, off, e2, hbb, hr⟩ := h3 h0
    refine ⟨b, off, e2, hbb, fun i hi => ?_⟩
    have e3 : (List.range n).getD i 0 = i := by simp [List.getD, hi]
    simp only [e3]
    exact hr i hi
  · obtain ⟨k1, hk1, hd1⟩ : ∃ k, k < n ∧ x k = d := by
      refine Classical.byContradiction fun e => hall fun j hj hjd => e ⟨j, hj, hjd⟩
    obtain ⟨k0, hk0, hd0, hlt⟩ := least_ex (P := fun k => x k = d) k1 hd1
    have hk0n : k0 < n := by omega
    have HF : Hid ((firstI n fun i => decide (x i = d)) = k0) := firstI_spec n _ hk0n (decide_eq_true hd0) fun j hj => decide_eq_false (hlt j hj)
    rw [HF.out] at HI
    have hkr := keptL_all k0 (fun j hj => hlt j hj)
    rcases h with ⟨h0, _⟩ | ⟨h0, g, cap, cur, t, e, hg1, hg2, hg3, hg4⟩
    · omega
    cases e
    have hcur : n * 2 ≤ cur.size := by
      have := (Array.getElem?_eq_some_iff.1 (hg4 (n - 1) (by omega)).2).1
      omega
    have HD0 : Hid (DL w g n x y d k0) := by
      refine ⟨cur, t, hg3, fun i hi => ?_, fun i _ hi => hg4 i hi, hcur⟩
      rw [hkr] at hi ⊢
      rw [List.length_range] at hi
      have e3 : (List.range k0).getD i 0 = i := by simp [List.getD, hi]
      rw [e3]
      exact hg4 i (by omega)
    have HD1 := Lib.hid (HD0.out.skip hd0)
    have e1 : keptL x d (k0 + 1) = keptL x d k0 := by simp [keptL, hd0]
    have HK1 : Hid ((keptL x d (k0 + 1)).length = k0) := by unfold Hid; rw [e1, hkr, List.length_range]
    have hgw : g < w.heap.size := heap_lt hg3
    have hki : (k0 : Int) < (n : Int) := by omega
    have hk1000 : k0 ≤ 40 := by omega
    have hkb : ((k0 : Int) == -1) = false := by rw [beq_eq_false_iff_ne]; omega
    clear hall hk1 hd1 hk0 hd0 hlt hkr hg3 hg4 e1 hp hcur HD0
    go_enter Try.func89, Try.ntmps89
    go_wp2_with (go_at_call 95; refine HI.out.mono ?_; clear HI; rintro e w1 ⟨rfl, hb1⟩; have HB1 := Lib.hid hb1; clear hb1)
    have HD2 := Lib.hid (HD1.out.keep (HB1.out.block g hgw))
    go_loopw [5, 6] (fun i j wr => ∃ m : Nat, k0 + 1 ≤ m ∧ m ≤ n ∧ j = .int .i64 m ∧ i = .int .i64 ((keptL x d m).length : Nat) ∧ Hid ((keptL x d m).length < m) ∧ Hid (DL wr g n x y d m) ∧ Hid (Below lo w wr)) (fun _ j _ => n - (intOf j).toNat)
    case atStart => exact ⟨k0 + 1, Nat.le_refl _, by omega, by go_num, by rw [HK1.out], by unfold Hid; rw [HK1.out]; omega, HD2.out, HB1.out.mono HL.out⟩
    case round =>
      obtain ⟨m, hm0, hm, rfl, rfl, hlm, HD, HBr⟩ := hrel
      by_cases hmn : m < n
      · have hmi : (m : Int) < (n : Int) := by omega
        obtain ⟨c0, c1⟩ := HD.out.at hmn
        have hgr : g < wr.heap.size := HD.out.lt
        have hpr : wr.cell? ⟨bp, 0, none⟩ = some (.int .i64 d) := (HBr.out.cell (p := ⟨bp, 0, none⟩) hb).trans HPP.out
        obtain ⟨wv, hwv, HBv, hszv, hblkv⟩ := box1 wr (.cells #[.int .i64 (x m), .int .i64 (y m)] 43)
        have p0 := cell_blk hblkv 0 rfl
        have p1 := cell_blk hblkv 1 rfl
        have hlw : lo ≤ wr.heap.size := Nat.le_trans HL.out HBr.out.size
        have HQ := Lib.hid (isOf_any (x m) (y m) d bp wv ((HBv.out.cell (p := ⟨bp, 0, none⟩) (show bp < wr.heap.size by omega)).trans hpr) (by omega))
        have HVB := Lib.hid hblkv
        clear hblkv hpr
        cases hxy : decide (x m = d) with
        | true =>
          have hxd : x m = d := of_decide_eq_true hxy
          rw [hxy] at HQ
          have HKK : Hid ((keptL x d (m + 1)).length = (keptL x d m).length) := by unfold Hid; simp [keptL, hxd]
          have HXD := Lib.hid hxd
          clear hxy hxd
          go_wp2_with (go_at_call 91; refine HQ.out.mono ?_; clear HQ; rintro e w2 ⟨rfl, hb2⟩; have HB2 := Lib.hid (bel HBv.out hb2); clear hb2)
          go_roundw
          case rel => exact ⟨m + 1, by omega, by omega, by go_num, by rw [HKK.out], by unfold Hid; rw [HKK.out]; have := hlm.out; omega, (HD.out.skip HXD.out).keep (HB2.out.block g hgr), HBr.out.trans (HB2.out.mono hlw)⟩
          case measure => simp [intOf]; omega
        | false =>
          have hxd : x m ≠ d := of_decide_eq_false hxy
          rw [hxy] at HQ
          have HKK : Hid ((keptL x d (m + 1)).length = (keptL x d m).length + 1) := by unfold Hid; simp [keptL, hxd]
          have HXD := Lib.hid hxd
          have HLM := hlm
          have hkl := keptL_len x d m
          obtain ⟨q, hq⟩ : ∃ q, (keptL x d m).length = q := ⟨_, rfl⟩
          have HQE := Lib.hid hq
          have hqn : (q : Int) < (n : Int) := by have := hlm.out; omega
          have hqm : q < n := by have := hlm.out; omega
          rw [hq] at hkl ⊢
          clear hxy hxd hq
          go_wp2_with (go_at_call 91; refine HQ.out.mono ?_; clear HQ; rintro e w2 ⟨rfl, hb2⟩; have HB2 := Lib.hid (bel HBv.out hb2); have r0 := (hb2.cell (p := ⟨wr.heap.size, 0, none⟩) hszv).trans p0; have r1 := (hb2.cell (p := ⟨wr.heap.size, 1, none⟩) hszv).trans p1; have HD2 := Lib.hid (HD.out.keep (HB2.out.block g hgr)); obtain ⟨s0, hs0⟩ := HD2.out.isSome (q * 2) (by omega); obtain ⟨s1, hs1⟩ := HD2.out.isSome (q * 2 + 1) (by omega); have z0 := HD2.out.free (q * 2); have z1 := HD2.out.free (q * 2 + 1); clear hb2)
          have HD3 : Hid (DL _ g n x y d (m + 1)) := HD2.out.put HXD.out hmn HLM.out
          rw [HQE.out] at HD3
          go_roundw
          case rel => exact ⟨m + 1, by omega, by omega, by go_num, by rw [HKK.out, HQE.out]; go_num, by unfold Hid; rw [HKK.out]; have := hlm.out; omega, HD3, (((HBr.out.trans (HB2.out.mono hlw)).setCell (p := ⟨g, q * 2, none⟩) hg1 _).setCell (p := ⟨g, q * 2 + 1, none⟩) hg1 _)⟩
          case measure => simp [intOf]; omega
      · have hmn' : m = n := by omega
        subst hmn'
        have hkl := keptL_len x d m
        obtain ⟨q, hq⟩ : ∃ q, (keptL x d m).length = q := ⟨_, rfl⟩
        have HQE := Lib.hid hq
        have hqm : q < m := by have := hlm.out; omega
        have hqi : (q : Int) < (m : Int) := by omega
        have hqc : q < cv := by omega
        have hqci : (q : Int) ≤ (cv : Int) := by omega
        have hne : ¬ q = cv := by omega
        rw [hq] at hkl ⊢
        clear hq
        have hcl : ∀ ty, (Builtin.clear_ #[24] ty #[.slice (some ⟨g, q * 2, none⟩) (m - q) (cv - q)]).run Try.prog wr = .ok (.tuple #[]) (wr.setCells g (q * 2) (Builtin.zeroCells #[.int .i64 0, .int .i64 0] (m - q)).toList) := fun ty =>
          run_clear2 wr ty g (q * 2) (m - q) (cv - q) (by omega) (fun j hj => by obtain ⟨v, hv⟩ := HD.out.isSome (q * 2 + j) (by omega); rw [hv]; rfl) (fun j hj => HD.out.free _)
        have HPR := Lib.hid (HD.out.clear (Builtin.zeroCells #[.int .i64 0, .int .i64 0] (m - q)).toList HQE.out hn cv hg2)
        have HBE := Lib.hid (below_setCells (Builtin.zeroCells #[.int .i64 0, .int .i64 0] (m - q)).toList (q * 2) wr HBr.out hg1)
        obtain ⟨w5, hw5⟩ : ∃ w5, wr.setCells g (q * 2) (Builtin.zeroCells #[.int .i64 0, .int .i64 0] (m - q)).toList = w5 := ⟨_, rfl⟩
        rw [hw5] at hcl HPR HBE
        clear hw5
        go_wp2
        go_ret
        refine ⟨⟨.slice (some ⟨g, 0, none⟩) q cv, rfl, ?_⟩, HBE.out⟩
        rw [HQE.out]
        exact ⟨_, _, rfl, fun _ => ⟨g, 0, rfl, hg1⟩, HPR.out⟩

end Go.Proofs.Ytnnngbnimmcjiaa
