/-
  JTurn: turned of the chapter.
-/
import Derived.Test.YtffnlimgjnhmpaaJTrn2
import Derived.Test.YtffnlimgjnhmpaaJRefD
namespace Go.Proofs.Ytffnlimgjnhmpaa
open Go.RowKit

theorem OwnP.size2 {lo : Nat} {W : World} {TP : TypeId} {g np cap : Nat} {sz : Nat → Int} {rv : Nat → Value} {pts : Nat → List Int} (h : OwnP lo W TP (.slice (some ⟨g, 0, none⟩) np cap) np sz rv pts) (hT : TP ≠ 3) {i : Nat} (hi : i < np) (x : Int) :
    OwnP lo (W.setCell ⟨g, i * 2, none⟩ (.int .i64 x)) TP (.slice (some ⟨g, 0, none⟩) np cap) np (fun j => if j = i then x else sz j) rv pts := by
  rcases h.body with ⟨h0, _⟩ | ⟨h0, gp, cap', cur, e, h1, h2, h3, h4⟩
  · omega
  cases e
  have hoth : ∀ b, b ≠ g → (W.setCell ⟨g, i * 2, none⟩ (.int .i64 x)).heap[b]? = W.heap[b]? := fun b hb => Below.heap_setCell _ _ _ _ (by exact hb)
  have hk : ∀ {v : Value} {m : List Int}, RI lo W v m → RI lo (W.setCell ⟨g, i * 2, none⟩ (.int .i64 x)) v m := fun {v m} hv => by
    rcases hv with h0 | ⟨h0, g', cap', cur', ev, k1, k2, k3, k4⟩
    · exact .inl h0
    · exact .inr ⟨h0, g', cap', cur', ev, k1, k2, (hoth g' (types_ne k3 h3 (fun e => hT e.symm))).trans k3, k4⟩
  refine ⟨fun j hj => hk (h.row j hj), h.apart, .inr ⟨h0, g, cap, _, rfl, h1, h2, blk_set h3 (i * 2) (.int .i64 x), fun j hj => ?_⟩⟩
  obtain ⟨k1, k2⟩ := h4 j hj
  have hs : i * 2 < cur.size := (Array.getElem?_eq_some_iff.1 (h4 i hi).1).1
  rw [Array.getElem?_setIfInBounds, Array.getElem?_setIfInBounds, if_neg (show ¬ i * 2 = j * 2 + 1 by omega)]
  refine ⟨?_, k2⟩
  by_cases e : j = i
  · subst e; rw [if_pos rfl, if_pos hs, if_pos rfl]
  · rw [if_neg (by omega), if_neg e]; exact k1

theorem RI.low2 {lo : Nat} {W : World} {v : Value} {l : List Int} (h : RI lo W v l) {b : Nat} (hb : blockOf v = some b) (h0 : 0 < l.length) : lo ≤ b := by
  rcases h with ⟨e, _⟩ | ⟨_, g, cap, cur, rfl, h1, h2, h3, h4⟩
  · rw [e] at h0; cases h0
  · cases hb; exact h1
/-- a row while it is turned: the first k numbers have moved -/
def rotU (b : Nat) (l : List Int) (k : Nat) : List Int := (List.range l.length).map fun j => if shb b l.length j < k then l.getD (shb b l.length j) 0 else l.getD j 0
theorem rotU_len (b : Nat) (l : List Int) (k : Nat) : (rotU b l k).length = l.length := by simp [rotU]
theorem rotU_zero (b : Nat) (l : List Int) : rotU b l 0 = l := by
  unfold rotU
  simp only [Nat.not_lt_zero, if_false]
  exact list_range l
theorem rotU_all (b : Nat) (l : List Int) : rotU b l l.length = rotL b l := by
  unfold rotU rotL
  exact List.map_congr_left fun j hj => if_pos (shb_lt (List.mem_range.1 hj))
theorem rotU_set (b : Nat) {l : List Int} {k : Nat} (hk : k < l.length) : (rotU b l k).set (shf b l.length k) (l.getD k 0) = rotU b l (k + 1) := by
  apply List.ext_getElem
  · simp [rotU_len]
  · intro j h1 h2
    have hj : j < l.length := by rw [rotU_len] at h2; exact h2
    simp only [List.getElem_set, rotU, List.getElem_map, List.getElem_range]
    by_cases e : shf b l.length k = j
    · rw [if_pos e, ← e, shb_shf hk, if_pos (Nat.lt_succ_self k)]
    · rw [if_neg e]
      have hne : shb b l.length j ≠ k := fun h => e (by rw [← h]; exact shf_shb hj)
      by_cases h3 : shb b l.length j < k
      · rw [if_pos h3, if_pos (by omega)]
      · rw [if_neg h3, if_neg (by omega)]
theorem OwnP.congrS {lo : Nat} {W : World} {TP : TypeId} {v : Value} {np : Nat} {sz sz' : Nat → Int} {rv : Nat → Value} {pts : Nat → List Int} (h : OwnP lo W TP v np sz rv pts) (e : ∀ i, i < np → sz i = sz' i) : OwnP lo W TP v np sz' rv pts := by
  refine ⟨h.row, h.apart, ?_⟩
  rcases h.body with hb | ⟨h0, g, cap, cur, e1, h1, h2, h3, h4⟩
  · exact .inl hb
  · exact .inr ⟨h0, g, cap, cur, e1, h1, h2, h3, fun i hi => by rw [← e i hi]; exact h4 i hi⟩
theorem RI.keepU {lo B : Nat} {W W' : World} {t : TypeId} {cs : Array Value} {v : Value} {l : List Int} (h : RI lo W v l) (hB : W.heap[B]? = some (.cells cs t)) (h1 : 3 ≠ t) (ho : ∀ b, b ≠ B → W'.heap[b]? = W.heap[b]?) : RI lo W' v l := by
  rcases h with h0 | ⟨h0, g, cap, cur, e, k1, k2, k3, k4⟩
  · exact .inl h0
  · exact .inr ⟨h0, g, cap, cur, e, k1, k2, (ho g (types_ne k3 hB h1)).trans k3, k4⟩

set_option maxHeartbeats 6400000 in
set_option maxRecDepth 100000 in
theorem turned_any (N : Nat) (v : Value) (S : JB) (a b : Nat) (w : World) (h : ShowAt N w v S) (hG : GoodS S) (ha : a ≤ 100) (hb : b ≤ 100) :
    Calls Try.prog 30 #[v, .int .i64 a, .int .i64 b] w fun e w' => ∃ v', e = .returned v' ∧ OwnS w.heap.size w' v' (turnS S a b) ∧ Below w.heap.size w w' := by
  obtain ⟨a1, c1, rfl⟩ := h.form
  obtain ⟨wv, hwv, HBv, hszv, hblk⟩ := box1 w (.cells #[.int .i64 S.J, .int .i64 S.D, .int .i64 S.Z, .slice a1 S.np c1] 24)
  obtain ⟨ws, hws, HBs, hszs, hblks⟩ := box1 wv (.cells #[.int .i64 0, .int .i64 0, .int .i64 0, .slice none 0 0] 24)
  have HB : Hid (Below w.heap.size w ws) := HBv.out.trans (HBs.out.mono HBv.out.size)
  have hz0 := (HBs.out.block _ hszv).trans hblk
  have hsz := Nat.lt_of_lt_of_le hszv HBs.out.size
  have q0 := cell_blk hz0 0 rfl
  have q1 := cell_blk hz0 1 rfl
  have q2 := cell_blk hz0 2 rfl
  have q3 := cell_blk hz0 3 rfl
  have HBK := Lib.hid (h.go HB.out)
  have HSQ : Hid (∀ W, Below ws.heap.size ws W → (W.cell? ⟨w.heap.size, 0, none⟩ = some (.int .i64 S.J) ∧ W.cell? ⟨w.heap.size, 1, none⟩ = some (.int .i64 S.D) ∧ W.cell? ⟨w.heap.size, 2, none⟩ = some (.int .i64 S.Z) ∧ W.cell? ⟨w.heap.size, 3, none⟩ = some (.slice a1 S.np c1))) := fun W hW => ⟨(hW.cell (p := ⟨w.heap.size, 0, none⟩) hsz).trans q0, (hW.cell (p := ⟨w.heap.size, 1, none⟩) hsz).trans q1, (hW.cell (p := ⟨w.heap.size, 2, none⟩) hsz).trans q2, (hW.cell (p := ⟨w.heap.size, 3, none⟩) hsz).trans q3⟩
  have HZ1 := Lib.hid hblks
  have HVW : Hid (w.heap.size ≤ wv.heap.size) := HBv.out.size
  have HG := Lib.hid hG
  have hJ1 := hG.J1
  have hJ5 := hG.J5
  have hNS : N ≤ ws.heap.size := HBK.out.1
  have HNP : Hid (S.np ≤ 6) := hG.np
  have HL40 : Hid (∀ i, i < S.np → (S.pts i).length ≤ 40) := fun i hi => by have := hG.len i hi; omega
  obtain ⟨A, C, hcap, hnpe, hrows, hcells⟩ := HBK.out.plates.open
  have HRW := Lib.hid hrows
  have HCL := Lib.hid hcells
  clear hblk h hz0 hblks hG hrows hcells hnpe
  go_enter Try.func30, Try.ntmps30
  go_upto_region 1 with fail
  clear hwv
  go_upto_region 2 with (go_at_call 34; refine (copy_any N _ S _ HBK.out (by have := HNP.out; omega) HL40.out).mono ?_; rintro e w1 ⟨v1, rfl, ⟨a2, c2, rv, rfl, hop⟩, hb1⟩; have HOP := Lib.hid hop; have HB1 : Hid (Below ws.heap.size ws w1) := hb1; clear hop hb1; obtain ⟨wo, hwo, HBo, hszo, hblko⟩ := box1 w1 (.cells #[.int .i64 0, .int .i64 0, .int .i64 0, .slice none 0 0] 24); have HZo := Lib.hid hblko; have z0 := cell_blk hblko 0 rfl; have z1 := cell_blk hblko 1 rfl; have z2 := cell_blk hblko 2 rfl; have z3 := cell_blk hblko 3 rfl; have f0 := free_blk hblko 0; have f1 := free_blk hblko 1; have f2 := free_blk hblko 2; have f3 := free_blk hblko 3; clear hblko)
  clear hws
  obtain ⟨w2, hw2, hz2, ho2, hb2⟩ := put4o HZo.out (.int .i64 S.J) (.int .i64 S.D) (.int .i64 S.Z) (.slice a2 S.np c2)
  rw [hw2]
  have HOP2 : Hid (OwnP ws.heap.size w2 40 (.slice a2 S.np c2) S.np S.sz rv S.pts) := HOP.out.keep fun g _ h => (hb2.block g h).trans (HBo.out.block g h)
  have HB2 : Hid (Below ws.heap.size ws w2) := HB1.out.trans ((HBo.out.trans hb2).mono HB1.out.size)
  have HZ2 := Lib.hid hz2
  have hBs : Hid (ws.heap.size ≤ w1.heap.size) := HB1.out.size
  clear hw2 ho2 hb2 z0 z1 z2 z3 f0 f1 f2 f3 hwo HZo HBo HOP hszo
  obtain ⟨B, hB⟩ : ∃ B, w1.heap.size = B := ⟨_, rfl⟩
  rw [hB] at hz2 HZ2 hBs ⊢
  clear hB hz2 q0 q1 q2 q3
  go_wp2_with fail
  go_loopw [8] (fun i wr => ∃ k : Nat, k ≤ S.np ∧ i = .int .i64 k ∧ Hid (wr.heap[B]? = some (.cells #[.int .i64 S.J, .int .i64 S.D, .int .i64 S.Z, .slice a2 S.np c2] 24)) ∧ Hid (∃ rv sz pts, OwnP ws.heap.size wr 40 (.slice a2 S.np c2) S.np sz rv pts ∧ ∀ j, j < S.np → sz j = (if shb a S.np j < k then (turnS S a b).sz j else S.sz j) ∧ pts j = (if shb a S.np j < k then (turnS S a b).pts j else S.pts j)) ∧ Hid (Below ws.heap.size ws wr)) (fun i _ => S.np - (intOf i).toNat)
  case atStart => exact ⟨0, Nat.zero_le _, rfl, HZ2, ⟨rv, S.sz, S.pts, HOP2.out, fun j _ => ⟨(if_neg (Nat.not_lt_zero _)).symm, (if_neg (Nat.not_lt_zero _)).symm⟩⟩, HB2⟩
  case round =>
    obtain ⟨k, hk, rfl, HZr, ⟨rw, sz, pts, hop, hsp⟩, HBr⟩ := hrel
    have HOP := Lib.hid hop
    have HSPS := Lib.hid hsp
    clear hop hsp
    have hnp6 := HNP.out
    obtain ⟨r0, r1, r2, r3⟩ := HSQ.out wr HBr.out
    by_cases hkn : k < S.np
    · have hki : (k : Int) < (S.np : Int) := by omega
      obtain ⟨bb, off, rfl, hbN, hrr⟩ := HCL.out (by omega)
      obtain ⟨hlC, hli⟩ := HRW.out k hkn
      have hlJ := HG.out.len k hkn
      obtain ⟨gr, or, hA, hgr, _⟩ := hli.cell (by omega)
      have e1 := (hrr k hkn).1
      have e2 := (hrr k hkn).2
      rw [hA] at e2 hli
      obtain ⟨sk, hsk⟩ : ∃ s, S.sz k = s := ⟨_, rfl⟩
      have HSK := Lib.hid hsk
      rw [hsk] at e1
      obtain ⟨l, hl⟩ : ∃ l, S.pts k = l := ⟨_, rfl⟩
      have HPL := Lib.hid hl
      rw [hl] at e2 hlC hlJ hli
      obtain ⟨n, hn⟩ : ∃ n, l.length = n := ⟨_, rfl⟩
      have HLN := Lib.hid hn
      rw [hn] at e2 hlC hlJ hli
      obtain ⟨cu, hcu⟩ : ∃ cu, C k = cu := ⟨_, rfl⟩
      rw [hcu] at e2 hlC hli
      have HLJ := Lib.hid hlJ
      have hn5 : n ≤ 5 := by omega
      have hn1 : 1 ≤ n := by omega
      have hbw : bb < ws.heap.size := by omega
      have HLI : Hid (LI N wr (.slice (some ⟨gr, or, none⟩) n cu) l) := hli.go hNS HBr.out
      have HNQ : Hid (N ≤ wr.heap.size) := by have := HBr.out.size; unfold Hid; omega
      have HST : Hid (∀ W, Below wr.heap.size wr W → ((W.cell? ⟨w.heap.size, 0, none⟩ = some (.int .i64 S.J) ∧ W.cell? ⟨w.heap.size, 1, none⟩ = some (.int .i64 S.D) ∧ W.cell? ⟨w.heap.size, 2, none⟩ = some (.int .i64 S.Z) ∧ W.cell? ⟨w.heap.size, 3, none⟩ = some (.slice (some ⟨bb, off, none⟩) S.np c1)) ∧ W.cell? ⟨bb, off + k * 2, none⟩ = some (.int .i64 sk) ∧ W.cell? ⟨bb, off + k * 2 + 1, none⟩ = some (.slice (some ⟨gr, or, none⟩) n cu))) := fun W hW => by
        have hc := bel HBr.out hW
        exact ⟨HSQ.out W hc, (hc.cell (p := ⟨bb, off + k * 2, none⟩) hbw).trans e1, (hc.cell (p := ⟨bb, off + k * 2 + 1, none⟩) hbw).trans e2⟩
      clear hrr hlC hli hlJ hA e1 e2 hsk hl hn hcu
      go_upto_region 5 with fail
      clear r0 r1 r2 r3
      go_cut [9] (fun s9 wx => Hid (∃ g9 af cf, s9 = .pointer (some ⟨g9, 0, none⟩) ∧ wx.heap[g9]? = some (.cells #[.int .i64 sk, .slice af n cf] 40) ∧ RI wr.heap.size wx (.slice af n cf) l ∧ wr.heap.size ≤ g9 ∧ Below wr.heap.size wr wx))
      case first =>
        obtain ⟨wd, hwd⟩ : ∃ wd, wr.drew = wd := ⟨_, rfl⟩
        have HBd : Hid (Below wr.heap.size wr wd) := by rw [← hwd]; exact (Below.refl _ _).drew
        have hSd := HST.out wd HBd.out
        refine wp_region_held_drew (S := fun W => ((W.cell? ⟨w.heap.size, 0, none⟩ = some (.int .i64 S.J) ∧ W.cell? ⟨w.heap.size, 1, none⟩ = some (.int .i64 S.D) ∧ W.cell? ⟨w.heap.size, 2, none⟩ = some (.int .i64 S.Z) ∧ W.cell? ⟨w.heap.size, 3, none⟩ = some (.slice (some ⟨bb, off, none⟩) S.np c1)) ∧ W.cell? ⟨bb, off + k * 2, none⟩ = some (.int .i64 sk) ∧ W.cell? ⟨bb, off + k * 2 + 1, none⟩ = some (.slice (some ⟨gr, or, none⟩) n cu))) (by kernel_rfl) (by rw [hwd]; exact hSd) (fun hHeld => ?_)
        rw [hwd]
        clear hwd
        (refine wpAnyH_take (i := 0) (v := ?_) rfl (by kernel_rfl) (by kernel_rfl) (by kernel_rfl) (fun _ _ _ h => h) (Or.inl ⟨by rfl, ?_⟩) (by assumption) ?_; rotate_left; (focus (intro w hSw; (try dsimp only at hSw); go_simp; (try with_reducible rfl))); (try simp only [List.getElem_toArray, List.getElem_cons_zero, List.getElem_cons_succ, Act.put, List.setIfInBounds_toArray, List.set_cons_zero, List.set_cons_succ])); (refine wpAnyH_take (i := 1) (v := ?_) rfl (by kernel_rfl) (by kernel_rfl) (by kernel_rfl) (fun _ _ _ h => h) (Or.inl ⟨by rfl, ?_⟩) (by assumption) ?_; rotate_left; (focus (intro w hSw; (try dsimp only at hSw); go_simp; (try with_reducible rfl))); (try simp only [List.getElem_toArray, List.getElem_cons_zero, List.getElem_cons_succ, Act.put, List.setIfInBounds_toArray, List.set_cons_zero, List.set_cons_succ])); (refine wpAnyH_take (i := 2) (v := ?_) rfl (by kernel_rfl) (by kernel_rfl) (by kernel_rfl) (fun _ _ _ h => h) (Or.inl ⟨by rfl, ?_⟩) (by assumption) ?_; rotate_left; (focus (intro w hSw; (try dsimp only at hSw); go_simp; (try with_reducible rfl))); (try simp only [List.getElem_toArray, List.getElem_cons_zero, List.getElem_cons_succ, Act.put, List.setIfInBounds_toArray, List.set_cons_zero, List.set_cons_succ])); (refine wpAnyH_take (i := 3) (v := ?_) rfl (by kernel_rfl) (by kernel_rfl) (by kernel_rfl) (fun _ _ _ h => h) (Or.inl ⟨by rfl, ?_⟩) (by assumption) ?_; rotate_left; (focus (intro w hSw; (try dsimp only at hSw); go_simp; (try with_reducible rfl))); (try simp only [List.getElem_toArray, List.getElem_cons_zero, List.getElem_cons_succ, Act.put, List.setIfInBounds_toArray, List.set_cons_zero, List.set_cons_succ])); (refine wpAnyH_take (i := 4) (v := ?_) rfl (by kernel_rfl) (by kernel_rfl) (by kernel_rfl) (fun _ _ _ h => h) (Or.inl ⟨by rfl, ?_⟩) (by assumption) ?_; rotate_left; (focus (intro w hSw; (try dsimp only at hSw); go_simp; (try with_reducible rfl))); (try simp only [List.getElem_toArray, List.getElem_cons_zero, List.getElem_cons_succ, Act.put, List.setIfInBounds_toArray, List.set_cons_zero, List.set_cons_succ])); (refine wpAnyH_take (i := 5) (v := ?_) rfl (by kernel_rfl) (by kernel_rfl) (by kernel_rfl) (fun _ _ _ h => h) (Or.inl ⟨by rfl, ?_⟩) (by assumption) ?_; rotate_left; (focus (intro w hSw; (try dsimp only at hSw); go_simp; (try with_reducible rfl))); (try simp only [List.getElem_toArray, List.getElem_cons_zero, List.getElem_cons_succ, Act.put, List.setIfInBounds_toArray, List.set_cons_zero, List.set_cons_succ]))
        (refine wpAnyH_take (i := 7) (v := ?_) rfl (by kernel_rfl) (by kernel_rfl) (by kernel_rfl) (fun _ _ _ h => h) (Or.inl ⟨by rfl, ?_⟩) (by assumption) ?_; rotate_left; (focus (intro w hSw; (try dsimp only at hSw); go_simp; (try with_reducible rfl))); (try simp only [List.getElem_toArray, List.getElem_cons_zero, List.getElem_cons_succ, Act.put, List.setIfInBounds_toArray, List.set_cons_zero, List.set_cons_succ])); (refine wpAnyH_take (i := 8) (v := ?_) rfl (by kernel_rfl) (by kernel_rfl) (by kernel_rfl) (fun _ _ _ h => h) (Or.inl ⟨by rfl, ?_⟩) (by assumption) ?_; rotate_left; (focus (intro w hSw; (try dsimp only at hSw); go_simp; (try with_reducible rfl))); (try simp only [List.getElem_toArray, List.getElem_cons_zero, List.getElem_cons_succ, Act.put, List.setIfInBounds_toArray, List.set_cons_zero, List.set_cons_succ])); (refine wpAnyH_take (i := 9) (v := ?_) rfl (by kernel_rfl) (by kernel_rfl) (by kernel_rfl) (fun _ _ _ h => h) (Or.inl ⟨by rfl, ?_⟩) (by assumption) ?_; rotate_left; (focus (intro w hSw; (try dsimp only at hSw); go_simp; (try with_reducible rfl))); (try simp only [List.getElem_toArray, List.getElem_cons_zero, List.getElem_cons_succ, Act.put, List.setIfInBounds_toArray, List.set_cons_zero, List.set_cons_succ])); (refine wpAnyH_take (i := 10) (v := ?_) rfl (by kernel_rfl) (by kernel_rfl) (by kernel_rfl) (fun _ _ _ h => h) (Or.inl ⟨by rfl, ?_⟩) (by assumption) ?_; rotate_left; (focus (intro w hSw; (try dsimp only at hSw); go_simp; (try with_reducible rfl))); (try simp only [List.getElem_toArray, List.getElem_cons_zero, List.getElem_cons_succ, Act.put, List.setIfInBounds_toArray, List.set_cons_zero, List.set_cons_succ])); (refine wpAnyH_take (i := 11) (v := ?_) rfl (by kernel_rfl) (by kernel_rfl) (by kernel_rfl) (fun _ _ _ h => h) (Or.inl ⟨by rfl, ?_⟩) (by assumption) ?_; rotate_left; (focus (intro w hSw; (try dsimp only at hSw); go_simp; (try with_reducible rfl))); (try simp only [List.getElem_toArray, List.getElem_cons_zero, List.getElem_cons_succ, Act.put, List.setIfInBounds_toArray, List.set_cons_zero, List.set_cons_succ])); (refine wpAnyH_take (i := 12) (v := ?_) rfl (by kernel_rfl) (by kernel_rfl) (by kernel_rfl) (fun _ _ _ h => h) (Or.inl ⟨by rfl, ?_⟩) (by assumption) ?_; rotate_left; (focus (intro w hSw; (try dsimp only at hSw); go_simp; (try with_reducible rfl))); (try simp only [List.getElem_toArray, List.getElem_cons_zero, List.getElem_cons_succ, Act.put, List.setIfInBounds_toArray, List.set_cons_zero, List.set_cons_succ]))
        refine wpAnyH_ready (rs := [6, 15]) (by kernel_rfl) (by simp) ?_
        refine (AllReadyH.cons rfl (fun K hK => ?_) (AllReadyH.cons rfl (fun K hK => ?_) AllReadyH.nil))
        ·
          go_simp
          obtain ⟨w1, hwn, hbn⟩ : ∃ wa, wd.alloc (.cells #[] 3) = wa ∧ Below wd.heap.size wd wa := ⟨_, rfl, below_alloc (Nat.le_refl _) _⟩
          rw [hwn]
          have HB1 := Lib.hid (bel HBd.out hbn)
          have HM1 := Lib.hid hbn
          have hS1 := HST.out w1 HB1.out
          clear hwn hbn
          refine hK.out _ _ hS1 (fun hHeld => ?_)
          clear hK K
          (try simp only [List.getElem_toArray, List.getElem_cons_zero, List.getElem_cons_succ, Act.put, List.setIfInBounds_toArray, List.set_cons_zero, List.set_cons_succ])
          refine wpAnyH_ready (rs := [13, 15]) (by kernel_rfl) (by simp) ?_
          refine (AllReadyH.cons rfl (fun K hK => ?_) (AllReadyH.cons rfl (fun K hK => ?_) AllReadyH.nil))
          ·
            rw [if_pos (by rfl)]
            refine wp_cloneI _ (.tmp 26) (.tmp 32) rfl rfl N _ _ n cu l HLN.out.symm rfl rfl (HLI.out.go HNQ.out HB1.out) (by have := HB1.out.size; have := HNQ.out; omega) (by omega) ?_
            intro vf w2 hrf hbf
            obtain ⟨af, cf, rfl⟩ := hrf.form
            rw [HLN.out] at hrf ⊢
            have HRF : Hid (RI wr.heap.size w2 (.slice af n cf) l) := hrf.lower HB1.out.size
            have HF2 := Lib.hid hbf
            have HB2 := Lib.hid (bel HB1.out hbf)
            have hS2 := HST.out w2 HB2.out
            clear hrf hbf
            refine hK.out _ _ hS2 (fun hHeld => ?_)
            clear hK K
            (try simp only [List.getElem_toArray, List.getElem_cons_zero, List.getElem_cons_succ, Act.put, List.setIfInBounds_toArray, List.set_cons_zero, List.set_cons_succ])
            (refine wpAnyH_take (i := 14) (v := ?_) rfl (by kernel_rfl) (by kernel_rfl) (by kernel_rfl) (fun _ _ _ h => h) (Or.inl ⟨by rfl, ?_⟩) (by assumption) ?_; rotate_left; (focus (intro w hSw; (try dsimp only at hSw); go_simp; (try with_reducible rfl))); (try simp only [List.getElem_toArray, List.getElem_cons_zero, List.getElem_cons_succ, Act.put, List.setIfInBounds_toArray, List.set_cons_zero, List.set_cons_succ]))
            refine wpAnyH_ready (rs := [15]) (by kernel_rfl) (by simp) ?_
            refine AllReadyH.cons rfl (fun K hK => ?_) AllReadyH.nil
            go_simp
            obtain ⟨w3, hwn, hbn, hszn, hblkn⟩ := box1 w2 (.cells #[.int .i64 0, .slice none 0 0] 40)
            rw [hwn]
            replace hbn := hbn.out
            have HB3 := Lib.hid (bel HB2.out hbn)
            have HN3 := Lib.hid hbn
            have hS3 := HST.out w3 HB3.out
            obtain ⟨g9, hg⟩ : ∃ g, w2.heap.size = g := ⟨_, rfl⟩
            have HG9 : Hid (wr.heap.size ≤ g9) := by rw [← hg]; exact HB2.out.size
            rw [hg] at hblkn ⊢
            have HA3 := Lib.hid hblkn
            clear hblkn hwn hbn hg hszn
            refine hK.out _ _ hS3 (fun hHeld => ?_)
            clear hK K
            (try simp only [List.getElem_toArray, List.getElem_cons_zero, List.getElem_cons_succ, Act.put, List.setIfInBounds_toArray, List.set_cons_zero, List.set_cons_succ])
            have HR3 := Lib.hid (HRF.out.keep fun g _ _ h => HN3.out.block g h)
            refine wpAnyH_ready (rs := [16]) (by kernel_rfl) (by simp) ?_
            refine AllReadyH.cons rfl (fun K hK => ?_) AllReadyH.nil
            have x0 := cell_blk HA3.out 0 rfl
            have z0 := free_blk HA3.out 0
            have x1 := cell_blk HA3.out 1 rfl
            have z1 := free_blk HA3.out 1
            go_simp
            obtain ⟨w6, hwn, hzn, hon, hbn⟩ := put2o HA3.out (.int .i64 sk) (.slice af n cf)
            rw [hwn]
            have HR6 := Lib.hid (HR3.out.keepU HA3.out (by decide) hon)
            have HA6 := Lib.hid hzn
            have HB6 := Lib.hid (HB3.out.trans (hbn.mono HG9.out))
            have hS6 := HST.out w6 HB6.out
            clear hwn hzn hon hbn x0 x1 z0 z1
            refine hK.out _ _ hS6 (fun hHeld => ?_)
            clear hK K
            (try simp only [List.getElem_toArray, List.getElem_cons_zero, List.getElem_cons_succ, Act.put, List.setIfInBounds_toArray, List.set_cons_zero, List.set_cons_succ])
            refine wpAnyH_done (by kernel_rfl) ?_ _; clear hHeld
            go_wp2_with fail
            go_meet
            exact ⟨_, _, _, rfl, HA6.out, HR6.out, HG9.out, HB6.out⟩
          ·
            go_simp
            obtain ⟨w2, hwn, hbn, hszn, hblkn⟩ := box1 w1 (.cells #[.int .i64 0, .slice none 0 0] 40)
            rw [hwn]
            replace hbn := hbn.out
            have HB2 := Lib.hid (bel HB1.out hbn)
            have HN2 := Lib.hid hbn
            have hS2 := HST.out w2 HB2.out
            obtain ⟨g9, hg⟩ : ∃ g, w1.heap.size = g := ⟨_, rfl⟩
            have HG9 : Hid (wr.heap.size ≤ g9) := by rw [← hg]; exact HB1.out.size
            rw [hg] at hblkn ⊢
            have HA2 := Lib.hid hblkn
            clear hblkn hwn hbn hg hszn
            refine hK.out _ _ hS2 (fun hHeld => ?_)
            clear hK K
            (try simp only [List.getElem_toArray, List.getElem_cons_zero, List.getElem_cons_succ, Act.put, List.setIfInBounds_toArray, List.set_cons_zero, List.set_cons_succ])
            refine wpAnyH_ready (rs := [13]) (by kernel_rfl) (by simp) ?_
            refine AllReadyH.cons rfl (fun K hK => ?_) AllReadyH.nil
            rw [if_pos (by rfl)]
            refine wp_cloneI _ (.tmp 26) (.tmp 32) rfl rfl N _ _ n cu l HLN.out.symm rfl rfl (HLI.out.go HNQ.out HB2.out) (by have := HB2.out.size; have := HNQ.out; omega) (by omega) ?_
            intro vf w3 hrf hbf
            obtain ⟨af, cf, rfl⟩ := hrf.form
            rw [HLN.out] at hrf ⊢
            have HRF : Hid (RI wr.heap.size w3 (.slice af n cf) l) := hrf.lower HB2.out.size
            have HF3 := Lib.hid hbf
            have HB3 := Lib.hid (bel HB2.out hbf)
            have hS3 := HST.out w3 HB3.out
            clear hrf hbf
            refine hK.out _ _ hS3 (fun hHeld => ?_)
            clear hK K
            (try simp only [List.getElem_toArray, List.getElem_cons_zero, List.getElem_cons_succ, Act.put, List.setIfInBounds_toArray, List.set_cons_zero, List.set_cons_succ])
            (refine wpAnyH_take (i := 14) (v := ?_) rfl (by kernel_rfl) (by kernel_rfl) (by kernel_rfl) (fun _ _ _ h => h) (Or.inl ⟨by rfl, ?_⟩) (by assumption) ?_; rotate_left; (focus (intro w hSw; (try dsimp only at hSw); go_simp; (try with_reducible rfl))); (try simp only [List.getElem_toArray, List.getElem_cons_zero, List.getElem_cons_succ, Act.put, List.setIfInBounds_toArray, List.set_cons_zero, List.set_cons_succ]))
            have HA3 := Lib.hid ((HF3.out.block _ (heap_lt HA2.out)).trans HA2.out)
            refine wpAnyH_ready (rs := [16]) (by kernel_rfl) (by simp) ?_
            refine AllReadyH.cons rfl (fun K hK => ?_) AllReadyH.nil
            have x0 := cell_blk HA3.out 0 rfl
            have z0 := free_blk HA3.out 0
            have x1 := cell_blk HA3.out 1 rfl
            have z1 := free_blk HA3.out 1
            go_simp
            obtain ⟨w6, hwn, hzn, hon, hbn⟩ := put2o HA3.out (.int .i64 sk) (.slice af n cf)
            rw [hwn]
            have HR6 := Lib.hid (HRF.out.keepU HA3.out (by decide) hon)
            have HA6 := Lib.hid hzn
            have HB6 := Lib.hid (HB3.out.trans (hbn.mono HG9.out))
            have hS6 := HST.out w6 HB6.out
            clear hwn hzn hon hbn x0 x1 z0 z1
            refine hK.out _ _ hS6 (fun hHeld => ?_)
            clear hK K
            (try simp only [List.getElem_toArray, List.getElem_cons_zero, List.getElem_cons_succ, Act.put, List.setIfInBounds_toArray, List.set_cons_zero, List.set_cons_succ])
            refine wpAnyH_done (by kernel_rfl) ?_ _; clear hHeld
            go_wp2_with fail
            go_meet
            exact ⟨_, _, _, rfl, HA6.out, HR6.out, HG9.out, HB6.out⟩
        ·
          go_simp
          obtain ⟨w1, hwn, hbn, hszn, hblkn⟩ := box1 wd (.cells #[.int .i64 0, .slice none 0 0] 40)
          rw [hwn]
          replace hbn := hbn.out
          have HB1 := Lib.hid (bel HBd.out hbn)
          have HN1 := Lib.hid hbn
          have hS1 := HST.out w1 HB1.out
          obtain ⟨g9, hg⟩ : ∃ g, wd.heap.size = g := ⟨_, rfl⟩
          have HG9 : Hid (wr.heap.size ≤ g9) := by rw [← hg]; exact HBd.out.size
          rw [hg] at hblkn ⊢
          have HA1 := Lib.hid hblkn
          clear hblkn hwn hbn hg hszn
          refine hK.out _ _ hS1 (fun hHeld => ?_)
          clear hK K
          (try simp only [List.getElem_toArray, List.getElem_cons_zero, List.getElem_cons_succ, Act.put, List.setIfInBounds_toArray, List.set_cons_zero, List.set_cons_succ])
          refine wpAnyH_ready (rs := [6]) (by kernel_rfl) (by simp) ?_
          refine AllReadyH.cons rfl (fun K hK => ?_) AllReadyH.nil
          go_simp
          obtain ⟨w2, hwn, hbn⟩ : ∃ wa, w1.alloc (.cells #[] 3) = wa ∧ Below w1.heap.size w1 wa := ⟨_, rfl, below_alloc (Nat.le_refl _) _⟩
          rw [hwn]
          have HB2 := Lib.hid (bel HB1.out hbn)
          have HM2 := Lib.hid hbn
          have hS2 := HST.out w2 HB2.out
          clear hwn hbn
          refine hK.out _ _ hS2 (fun hHeld => ?_)
          clear hK K
          (try simp only [List.getElem_toArray, List.getElem_cons_zero, List.getElem_cons_succ, Act.put, List.setIfInBounds_toArray, List.set_cons_zero, List.set_cons_succ])
          refine wpAnyH_ready (rs := [13]) (by kernel_rfl) (by simp) ?_
          refine AllReadyH.cons rfl (fun K hK => ?_) AllReadyH.nil
          rw [if_pos (by rfl)]
          refine wp_cloneI _ (.tmp 26) (.tmp 32) rfl rfl N _ _ n cu l HLN.out.symm rfl rfl (HLI.out.go HNQ.out HB2.out) (by have := HB2.out.size; have := HNQ.out; omega) (by omega) ?_
          intro vf w3 hrf hbf
          obtain ⟨af, cf, rfl⟩ := hrf.form
          rw [HLN.out] at hrf ⊢
          have HRF : Hid (RI wr.heap.size w3 (.slice af n cf) l) := hrf.lower HB2.out.size
          have HF3 := Lib.hid hbf
          have HB3 := Lib.hid (bel HB2.out hbf)
          have hS3 := HST.out w3 HB3.out
          clear hrf hbf
          refine hK.out _ _ hS3 (fun hHeld => ?_)
          clear hK K
          (try simp only [List.getElem_toArray, List.getElem_cons_zero, List.getElem_cons_succ, Act.put, List.setIfInBounds_toArray, List.set_cons_zero, List.set_cons_succ])
          (refine wpAnyH_take (i := 14) (v := ?_) rfl (by kernel_rfl) (by kernel_rfl) (by kernel_rfl) (fun _ _ _ h => h) (Or.inl ⟨by rfl, ?_⟩) (by assumption) ?_; rotate_left; (focus (intro w hSw; (try dsimp only at hSw); go_simp; (try with_reducible rfl))); (try simp only [List.getElem_toArray, List.getElem_cons_zero, List.getElem_cons_succ, Act.put, List.setIfInBounds_toArray, List.set_cons_zero, List.set_cons_succ]))
          have HA2 := Lib.hid ((HM2.out.block _ (heap_lt HA1.out)).trans HA1.out)
          have HA3 := Lib.hid ((HF3.out.block _ (heap_lt HA2.out)).trans HA2.out)
          refine wpAnyH_ready (rs := [16]) (by kernel_rfl) (by simp) ?_
          refine AllReadyH.cons rfl (fun K hK => ?_) AllReadyH.nil
          have x0 := cell_blk HA3.out 0 rfl
          have z0 := free_blk HA3.out 0
          have x1 := cell_blk HA3.out 1 rfl
          have z1 := free_blk HA3.out 1
          go_simp
          obtain ⟨w6, hwn, hzn, hon, hbn⟩ := put2o HA3.out (.int .i64 sk) (.slice af n cf)
          rw [hwn]
          have HR6 := Lib.hid (HRF.out.keepU HA3.out (by decide) hon)
          have HA6 := Lib.hid hzn
          have HB6 := Lib.hid (HB3.out.trans (hbn.mono HG9.out))
          have hS6 := HST.out w6 HB6.out
          clear hwn hzn hon hbn x0 x1 z0 z1
          refine hK.out _ _ hS6 (fun hHeld => ?_)
          clear hK K
          (try simp only [List.getElem_toArray, List.getElem_cons_zero, List.getElem_cons_succ, Act.put, List.setIfInBounds_toArray, List.set_cons_zero, List.set_cons_succ])
          refine wpAnyH_done (by kernel_rfl) ?_ _; clear hHeld
          go_wp2_with fail
          go_meet
          exact ⟨_, _, _, rfl, HA6.out, HR6.out, HG9.out, HB6.out⟩
      case rest =>
        obtain ⟨g9, af, cf, rfl, hz9, hri, hg9, hb9⟩ := hcut
        have HZ9 := Lib.hid hz9
        have HRI : Hid (RI wr.heap.size wc (.slice af n cf) (rotU b l 0)) := by rw [rotU_zero]; exact hri
        have HBc := Lib.hid hb9
        clear hz9 hri hb9
        obtain ⟨wo, hwo⟩ : ∃ wo, wo = wr := ⟨_, rfl⟩
        subst hwo
        go_wp2_with fail
        go_loopw [10] (fun i wr => ∃ q : Nat, q ≤ n ∧ i = .int .i64 q ∧ Hid (wr.heap[g9]? = some (.cells #[.int .i64 sk, .slice af n cf] 40)) ∧ Hid (RI wo.heap.size wr (.slice af n cf) (rotU b l q)) ∧ Hid (Below wo.heap.size wo wr)) (fun i _ => n - (intOf i).toNat)
        case atStart => exact ⟨0, Nat.zero_le _, rfl, HZ9, HRI, HBc⟩
        case round =>
          obtain ⟨q, hq, rfl, HZq, HRq, HBq⟩ := hrel
          have hSq := HST.out wr HBq.out
          by_cases hqn : q < n
          · have hqi : (q : Int) < S.J := by have := HLJ.out; omega
            have hqi2 : (q : Int) < (n : Int) := by omega
            obtain ⟨g5, rfl, hxx⟩ := HRq.out.addr (by rw [rotU_len, HLN.out]; omega)
            clear hxx
            obtain ⟨h5w, h5l, h5c, h5f, c5, hc5⟩ := HRq.out.at (by rw [rotU_len, HLN.out]; omega)
            obtain ⟨t, ht⟩ : ∃ t, shf b n q = t := ⟨_, rfl⟩
            have htn : t < n := by rw [← ht]; exact shf_lt hqn
            have hti : (t : Int) < (n : Int) := by omega
            have cx := h5c t (by rw [rotU_len, HLN.out]; exact htn)
            have fx := h5f t
            have hne9 : g9 ≠ g5 := types_ne HZq.out hc5 (by decide)
            have hJ0 : ¬ S.J = 0 := by omega
            have hwq : IntKind.i64.wrap ((q : Int) + (b : Int)) = (q : Int) + (b : Int) := IntWalk.i64_in _ (by omega)
            have hrm : Int.tmod ((q : Int) + (b : Int)) S.J = (t : Int) := by
              rw [← HLJ.out, ← ht]
              unfold shf
              rw [← Int.natCast_add, Int.tmod_eq_emod_of_nonneg (by omega)]
              rfl
            obtain ⟨x, hx⟩ : ∃ x, l.getD q 0 = x := ⟨_, rfl⟩
            have HX := Lib.hid hx
            have sx : wr.cell? ⟨gr, or + q, none⟩ = some (.int .i64 x) := by
              obtain ⟨b', o', e', _, hc'⟩ := (HLI.out.go HNQ.out HBq.out).cell (by rw [HLN.out]; omega)
              cases e'
              rw [← hx]; exact hc' q (by rw [HLN.out]; exact hqn)
            have hgrN : gr < N := by
              obtain ⟨b', o', e', hb', _⟩ := HLI.out.cell (by rw [HLN.out]; omega)
              cases e'; exact hb'
            have hgr5 : gr ≠ g5 := by have := HNQ.out; omega
            have hw5 : w.heap.size ≠ g5 := by have := HBr.out.size; omega
            have hbb5 : bb ≠ g5 := by have := HBr.out.size; omega
            have p1 := cell_blk HZq.out 1 rfl
            have HT := Lib.hid ht
            clear h5c h5f hc5 hx ht
            go_upto_region 9 with fail
            obtain ⟨wd, hwd⟩ : ∃ wd, wr.drew = wd := ⟨_, rfl⟩
            have hSd : (((wd.cell? ⟨w.heap.size, 0, none⟩ = some (.int .i64 S.J) ∧ wd.cell? ⟨w.heap.size, 1, none⟩ = some (.int .i64 S.D) ∧ wd.cell? ⟨w.heap.size, 2, none⟩ = some (.int .i64 S.Z) ∧ wd.cell? ⟨w.heap.size, 3, none⟩ = some (.slice (some ⟨bb, off, none⟩) S.np c1)) ∧ wd.cell? ⟨bb, off + k * 2, none⟩ = some (.int .i64 sk) ∧ wd.cell? ⟨bb, off + k * 2 + 1, none⟩ = some (.slice (some ⟨gr, or, none⟩) n cu))) ∧ wd.cell? ⟨g9, 1, none⟩ = some (.slice (some ⟨g5, 0, none⟩) n cf) ∧ wd.cell? ⟨gr, or + q, none⟩ = some (.int .i64 x) := by rw [← hwd]; exact ⟨hSq, p1, sx⟩
            have cxd : wd.cell? ⟨g5, t, none⟩ = some (.int .i64 ((rotU b l q).getD t 0)) := by rw [← hwd]; exact cx
            have fxd : wd.frozen? ⟨g5, t, none⟩ = false := by rw [← hwd]; exact fx
            have HBd : Hid (Below wo.heap.size wo wd) := by rw [← hwd]; exact HBq.out.drew
            have HRd : Hid (RI wo.heap.size wd (.slice (some ⟨g5, 0, none⟩) n cf) (rotU b l q)) := by rw [← hwd]; exact HRq.out.keep fun _ _ _ _ => rfl
            have HZd : Hid (wd.heap[g9]? = some (.cells #[.int .i64 sk, .slice (some ⟨g5, 0, none⟩) n cf] 40)) := by rw [← hwd]; exact HZq.out
            refine wp_region_held_drew (S := fun W => (((W.cell? ⟨w.heap.size, 0, none⟩ = some (.int .i64 S.J) ∧ W.cell? ⟨w.heap.size, 1, none⟩ = some (.int .i64 S.D) ∧ W.cell? ⟨w.heap.size, 2, none⟩ = some (.int .i64 S.Z) ∧ W.cell? ⟨w.heap.size, 3, none⟩ = some (.slice (some ⟨bb, off, none⟩) S.np c1)) ∧ W.cell? ⟨bb, off + k * 2, none⟩ = some (.int .i64 sk) ∧ W.cell? ⟨bb, off + k * 2 + 1, none⟩ = some (.slice (some ⟨gr, or, none⟩) n cu))) ∧ W.cell? ⟨g9, 1, none⟩ = some (.slice (some ⟨g5, 0, none⟩) n cf) ∧ W.cell? ⟨gr, or + q, none⟩ = some (.int .i64 x)) (by kernel_rfl) (by rw [hwd]; exact hSd) (fun hHeld => ?_)
            rw [hwd]
            clear hwd cx fx hSq p1 sx
            (refine wpAnyH_take (i := 0) (v := ?_) rfl (by kernel_rfl) (by kernel_rfl) (by kernel_rfl) (fun _ _ _ h => h) (Or.inl ⟨by rfl, ?_⟩) (by assumption) ?_; rotate_left; (focus (intro w hSw; (try dsimp only at hSw); go_simp; (try with_reducible rfl))); (try simp only [List.getElem_toArray, List.getElem_cons_zero, List.getElem_cons_succ, Act.put, List.setIfInBounds_toArray, List.set_cons_zero, List.set_cons_succ])); (refine wpAnyH_take (i := 1) (v := ?_) rfl (by kernel_rfl) (by kernel_rfl) (by kernel_rfl) (fun _ _ _ h => h) (Or.inl ⟨by rfl, ?_⟩) (by assumption) ?_; rotate_left; (focus (intro w hSw; (try dsimp only at hSw); go_simp; (try with_reducible rfl))); (try simp only [List.getElem_toArray, List.getElem_cons_zero, List.getElem_cons_succ, Act.put, List.setIfInBounds_toArray, List.set_cons_zero, List.set_cons_succ])); (refine wpAnyH_take (i := 2) (v := ?_) rfl (by kernel_rfl) (by kernel_rfl) (by kernel_rfl) (fun _ _ _ h => h) (Or.inl ⟨by rfl, ?_⟩) (by assumption) ?_; rotate_left; (focus (intro w hSw; (try dsimp only at hSw); go_simp; (try with_reducible rfl))); (try simp only [List.getElem_toArray, List.getElem_cons_zero, List.getElem_cons_succ, Act.put, List.setIfInBounds_toArray, List.set_cons_zero, List.set_cons_succ])); (refine wpAnyH_take (i := 3) (v := ?_) rfl (by kernel_rfl) (by kernel_rfl) (by kernel_rfl) (fun _ _ _ h => h) (Or.inl ⟨by rfl, ?_⟩) (by assumption) ?_; rotate_left; (focus (intro w hSw; (try dsimp only at hSw); go_simp; (try with_reducible rfl))); (try simp only [List.getElem_toArray, List.getElem_cons_zero, List.getElem_cons_succ, Act.put, List.setIfInBounds_toArray, List.set_cons_zero, List.set_cons_succ])); (refine wpAnyH_take (i := 4) (v := ?_) rfl (by kernel_rfl) (by kernel_rfl) (by kernel_rfl) (fun _ _ _ h => h) (Or.inl ⟨by rfl, ?_⟩) (by assumption) ?_; rotate_left; (focus (intro w hSw; (try dsimp only at hSw); go_simp; (try with_reducible rfl))); (try simp only [List.getElem_toArray, List.getElem_cons_zero, List.getElem_cons_succ, Act.put, List.setIfInBounds_toArray, List.set_cons_zero, List.set_cons_succ])); (refine wpAnyH_take (i := 5) (v := ?_) rfl (by kernel_rfl) (by kernel_rfl) (by kernel_rfl) (fun _ _ _ h => h) (Or.inl ⟨by rfl, ?_⟩) (by assumption) ?_; rotate_left; (focus (intro w hSw; (try dsimp only at hSw); go_simp; (try with_reducible rfl))); (try simp only [List.getElem_toArray, List.getElem_cons_zero, List.getElem_cons_succ, Act.put, List.setIfInBounds_toArray, List.set_cons_zero, List.set_cons_succ])); (refine wpAnyH_take (i := 6) (v := ?_) rfl (by kernel_rfl) (by kernel_rfl) (by kernel_rfl) (fun _ _ _ h => h) (Or.inl ⟨by rfl, ?_⟩) (by assumption) ?_; rotate_left; (focus (intro w hSw; (try dsimp only at hSw); go_simp; (try with_reducible rfl))); (try simp only [List.getElem_toArray, List.getElem_cons_zero, List.getElem_cons_succ, Act.put, List.setIfInBounds_toArray, List.set_cons_zero, List.set_cons_succ])); (refine wpAnyH_take (i := 7) (v := ?_) rfl (by kernel_rfl) (by kernel_rfl) (by kernel_rfl) (fun _ _ _ h => h) (Or.inl ⟨by rfl, ?_⟩) (by assumption) ?_; rotate_left; (focus (intro w hSw; (try dsimp only at hSw); go_simp; (try with_reducible rfl))); (try simp only [List.getElem_toArray, List.getElem_cons_zero, List.getElem_cons_succ, Act.put, List.setIfInBounds_toArray, List.set_cons_zero, List.set_cons_succ])); (refine wpAnyH_take (i := 8) (v := ?_) rfl (by kernel_rfl) (by kernel_rfl) (by kernel_rfl) (fun _ _ _ h => h) (Or.inl ⟨by rfl, ?_⟩) (by assumption) ?_; rotate_left; (focus (intro w hSw; (try dsimp only at hSw); go_simp; (try with_reducible rfl))); (try simp only [List.getElem_toArray, List.getElem_cons_zero, List.getElem_cons_succ, Act.put, List.setIfInBounds_toArray, List.set_cons_zero, List.set_cons_succ])); (refine wpAnyH_take (i := 9) (v := ?_) rfl (by kernel_rfl) (by kernel_rfl) (by kernel_rfl) (fun _ _ _ h => h) (Or.inl ⟨by rfl, ?_⟩) (by assumption) ?_; rotate_left; (focus (intro w hSw; (try dsimp only at hSw); go_simp; (try with_reducible rfl))); (try simp only [List.getElem_toArray, List.getElem_cons_zero, List.getElem_cons_succ, Act.put, List.setIfInBounds_toArray, List.set_cons_zero, List.set_cons_succ])); (refine wpAnyH_take (i := 10) (v := ?_) rfl (by kernel_rfl) (by kernel_rfl) (by kernel_rfl) (fun _ _ _ h => h) (Or.inl ⟨by rfl, ?_⟩) (by assumption) ?_; rotate_left; (focus (intro w hSw; (try dsimp only at hSw); go_simp; (try with_reducible rfl))); (try simp only [List.getElem_toArray, List.getElem_cons_zero, List.getElem_cons_succ, Act.put, List.setIfInBounds_toArray, List.set_cons_zero, List.set_cons_succ])); (refine wpAnyH_take (i := 11) (v := ?_) rfl (by kernel_rfl) (by kernel_rfl) (by kernel_rfl) (fun _ _ _ h => h) (Or.inl ⟨by rfl, ?_⟩) (by assumption) ?_; rotate_left; (focus (intro w hSw; (try dsimp only at hSw); go_simp; (try with_reducible rfl))); (try simp only [List.getElem_toArray, List.getElem_cons_zero, List.getElem_cons_succ, Act.put, List.setIfInBounds_toArray, List.set_cons_zero, List.set_cons_succ])); (refine wpAnyH_take (i := 12) (v := ?_) rfl (by kernel_rfl) (by kernel_rfl) (by kernel_rfl) (fun _ _ _ h => h) (Or.inl ⟨by rfl, ?_⟩) (by assumption) ?_; rotate_left; (focus (intro w hSw; (try dsimp only at hSw); go_simp; (try with_reducible rfl))); (try simp only [List.getElem_toArray, List.getElem_cons_zero, List.getElem_cons_succ, Act.put, List.setIfInBounds_toArray, List.set_cons_zero, List.set_cons_succ])); (refine wpAnyH_take (i := 13) (v := ?_) rfl (by kernel_rfl) (by kernel_rfl) (by kernel_rfl) (fun _ _ _ h => h) (Or.inl ⟨by rfl, ?_⟩) (by assumption) ?_; rotate_left; (focus (intro w hSw; (try dsimp only at hSw); go_simp; (try with_reducible rfl))); (try simp only [List.getElem_toArray, List.getElem_cons_zero, List.getElem_cons_succ, Act.put, List.setIfInBounds_toArray, List.set_cons_zero, List.set_cons_succ])); (refine wpAnyH_take (i := 14) (v := ?_) rfl (by kernel_rfl) (by kernel_rfl) (by kernel_rfl) (fun _ _ _ h => h) (Or.inl ⟨by rfl, ?_⟩) (by assumption) ?_; rotate_left; (focus (intro w hSw; (try dsimp only at hSw); go_simp; (try with_reducible rfl))); (try simp only [List.getElem_toArray, List.getElem_cons_zero, List.getElem_cons_succ, Act.put, List.setIfInBounds_toArray, List.set_cons_zero, List.set_cons_succ])); (refine wpAnyH_take (i := 15) (v := ?_) rfl (by kernel_rfl) (by kernel_rfl) (by kernel_rfl) (fun _ _ _ h => h) (Or.inl ⟨by rfl, ?_⟩) (by assumption) ?_; rotate_left; (focus (intro w hSw; (try dsimp only at hSw); go_simp; (try with_reducible rfl))); (try simp only [List.getElem_toArray, List.getElem_cons_zero, List.getElem_cons_succ, Act.put, List.setIfInBounds_toArray, List.set_cons_zero, List.set_cons_succ])); (refine wpAnyH_take (i := 16) (v := ?_) rfl (by kernel_rfl) (by kernel_rfl) (by kernel_rfl) (fun _ _ _ h => h) (Or.inl ⟨by rfl, ?_⟩) (by assumption) ?_; rotate_left; (focus (intro w hSw; (try dsimp only at hSw); go_simp; (try with_reducible rfl))); (try simp only [List.getElem_toArray, List.getElem_cons_zero, List.getElem_cons_succ, Act.put, List.setIfInBounds_toArray, List.set_cons_zero, List.set_cons_succ])); (refine wpAnyH_take (i := 17) (v := ?_) rfl (by kernel_rfl) (by kernel_rfl) (by kernel_rfl) (fun _ _ _ h => h) (Or.inl ⟨by rfl, ?_⟩) (by assumption) ?_; rotate_left; (focus (intro w hSw; (try dsimp only at hSw); go_simp; (try with_reducible rfl))); (try simp only [List.getElem_toArray, List.getElem_cons_zero, List.getElem_cons_succ, Act.put, List.setIfInBounds_toArray, List.set_cons_zero, List.set_cons_succ]))
            refine wpAnyH_ready (rs := [18]) (by kernel_rfl) (by simp) ?_; refine AllReadyH.cons rfl (fun K hK => ?_) AllReadyH.nil; go_simp
            obtain ⟨we, hwe⟩ : ∃ we, wd.setCell ⟨g5, t, none⟩ (.int .i64 x) = we := ⟨_, rfl⟩
            rw [hwe]
            have hoe : ∀ b, b ≠ g5 → we.heap[b]? = wd.heap[b]? := fun b hb => by rw [← hwe]; exact Below.heap_setCell _ _ _ _ (by exact hb)
            have HBe : Hid (Below wo.heap.size wo we) := by rw [← hwe]; exact HBd.out.setCell (p := ⟨g5, t, none⟩) h5l _
            have HRe : Hid (RI wo.heap.size we (.slice (some ⟨g5, 0, none⟩) n cf) (rotU b l (q + 1))) := by
              have h1 := HRd.out.set (k := t) (by rw [rotU_len, HLN.out]; exact htn) x
              rw [hwe] at h1
              have h2 := rotU_set b (l := l) (k := q) (by rw [HLN.out]; exact hqn)
              rw [HLN.out, HT.out, HX.out] at h2
              rw [h2] at h1; exact h1
            have HZe := Lib.hid ((hoe g9 hne9).trans HZd.out)
            have hSe : (((we.cell? ⟨w.heap.size, 0, none⟩ = some (.int .i64 S.J) ∧ we.cell? ⟨w.heap.size, 1, none⟩ = some (.int .i64 S.D) ∧ we.cell? ⟨w.heap.size, 2, none⟩ = some (.int .i64 S.Z) ∧ we.cell? ⟨w.heap.size, 3, none⟩ = some (.slice (some ⟨bb, off, none⟩) S.np c1)) ∧ we.cell? ⟨bb, off + k * 2, none⟩ = some (.int .i64 sk) ∧ we.cell? ⟨bb, off + k * 2 + 1, none⟩ = some (.slice (some ⟨gr, or, none⟩) n cu))) ∧ we.cell? ⟨g9, 1, none⟩ = some (.slice (some ⟨g5, 0, none⟩) n cf) ∧ we.cell? ⟨gr, or + q, none⟩ = some (.int .i64 x) :=
              ⟨HST.out we HBe.out, cell_blk HZe.out 1 rfl, (World.cell?_of_block (w := wd) (hoe gr hgr5)).trans hSd.2.2⟩
            clear hwe hoe hSd cxd fxd
            refine hK.out _ _ hSe (fun hHeld => ?_); clear hK K; (try simp only [List.getElem_toArray, List.getElem_cons_zero, List.getElem_cons_succ, Act.put, List.setIfInBounds_toArray, List.set_cons_zero, List.set_cons_succ])
            refine wpAnyH_done (by kernel_rfl) ?_ _; clear hHeld
            clear hSe
            go_wp2_with fail
            go_roundw
            case rel => exact ⟨q + 1, by omega, by go_num, HZe, HRe, HBe⟩
            case measure => simp [intOf]; omega
          · have hqi : ¬ (q : Int) < S.J := by have := HLJ.out; omega
            have hqe : q = n := by omega
            have HRF : Hid (RI wo.heap.size wr (.slice af n cf) (rotL b l)) := by
              have h1 := HRq.out
              rw [hqe, ← HLN.out, rotU_all, HLN.out] at h1
              exact h1
            have HBs : Hid (Below ws.heap.size ws wr) := bel HBr.out HBq.out
            have HZB := Lib.hid ((HBq.out.block _ (heap_lt HZr.out)).trans HZr.out)
            have HOPr : Hid (OwnP ws.heap.size wr 40 (.slice a2 S.np c2) S.np sz rw pts) := HOP.out.keep fun g _ h => HBq.out.block g h
            obtain ⟨g, rfl, hnn, _, hgl, hgs, hgc, hgf, cgp, hcgp⟩ := HOPr.out.pk.at (by omega)
            clear hnn hqe
            obtain ⟨t2, ht2⟩ : ∃ t, shf a S.np k = t := ⟨_, rfl⟩
            have ht2n : t2 < S.np := by rw [← ht2]; exact shf_lt hkn
            have ht2i : (t2 : Int) < (S.np : Int) := by omega
            have gx0 := (hgc t2 ht2n).1
            have gx1 := (hgc t2 ht2n).2
            have gf0 := hgf (t2 * 2)
            have gf1 := hgf (t2 * 2 + 1)
            have hnz : ¬ (S.np : Int) = 0 := by omega
            have hnz2 : ¬ S.np = 0 := by omega
            have hnzd : decide (S.np = 0) = false := decide_eq_false hnz2
            have hwk : IntKind.i64.wrap ((k : Int) + (a : Int)) = (k : Int) + (a : Int) := IntWalk.i64_in _ (by omega)
            have hrm : Int.tmod ((k : Int) + (a : Int)) (S.np : Int) = (t2 : Int) := by
              rw [← ht2]
              unfold shf
              rw [← Int.natCast_add, Int.tmod_eq_emod_of_nonneg (by omega)]
              rfl
            have hBg : B ≠ g := types_ne HZB.out hcgp (by decide)
            have hwg : w.heap.size ≠ g := by omega
            have hbg : bb ≠ g := by omega
            have HCP := Lib.hid hcgp
            have b3 := cell_blk HZB.out 3 rfl
            have p0 := cell_blk HZq.out 0 rfl
            have p1 := cell_blk HZq.out 1 rfl
            have h9g : g ≠ g9 := by
              obtain ⟨g', e, _, _, _, hgs', _⟩ := HOP.out.pk.at (show 0 < S.np by omega)
              cases e
              omega
            have HT2 := Lib.hid ht2
            clear hgc hgf hcgp ht2
            go_upto_region 10 with fail
            obtain ⟨wd, hwd⟩ : ∃ wd, wr.drew = wd := ⟨_, rfl⟩
            have hSd : ((((wd.cell? ⟨w.heap.size, 0, none⟩ = some (.int .i64 S.J) ∧ wd.cell? ⟨w.heap.size, 1, none⟩ = some (.int .i64 S.D) ∧ wd.cell? ⟨w.heap.size, 2, none⟩ = some (.int .i64 S.Z) ∧ wd.cell? ⟨w.heap.size, 3, none⟩ = some (.slice (some ⟨bb, off, none⟩) S.np c1)) ∧ wd.cell? ⟨bb, off + k * 2, none⟩ = some (.int .i64 sk) ∧ wd.cell? ⟨bb, off + k * 2 + 1, none⟩ = some (.slice (some ⟨gr, or, none⟩) n cu))) ∧ wd.cell? ⟨B, 3, none⟩ = some (.slice (some ⟨g, 0, none⟩) S.np c2)) ∧ wd.cell? ⟨g9, 0, none⟩ = some (.int .i64 sk) ∧ wd.cell? ⟨g9, 1, none⟩ = some (.slice af n cf) := by rw [← hwd]; exact ⟨⟨hSq, b3⟩, p0, p1⟩
            have gx0d : wd.cell? ⟨g, t2 * 2, none⟩ = some (.int .i64 (sz t2)) := by rw [← hwd]; exact gx0
            have gx1d : wd.cell? ⟨g, t2 * 2 + 1, none⟩ = some (rw t2) := by rw [← hwd]; exact gx1
            have gf0d : wd.frozen? ⟨g, t2 * 2, none⟩ = false := by rw [← hwd]; exact gf0
            have gf1d : wd.frozen? ⟨g, t2 * 2 + 1, none⟩ = false := by rw [← hwd]; exact gf1
            have HBd : Hid (Below ws.heap.size ws wd) := by rw [← hwd]; exact HBs.out.drew
            have HRd : Hid (RI wo.heap.size wd (.slice af n cf) (rotL b l)) := by rw [← hwd]; exact HRF.out.keep fun _ _ _ _ => rfl
            have HOPd : Hid (OwnP ws.heap.size wd 40 (.slice (some ⟨g, 0, none⟩) S.np c2) S.np sz rw pts) := by rw [← hwd]; exact HOPr.out.keep fun _ _ _ => rfl
            have HCPd : Hid (wd.heap[g]? = some (.cells cgp 40)) := by rw [← hwd]; exact HCP.out
            have HZd : Hid (wd.heap[B]? = some (.cells #[.int .i64 S.J, .int .i64 S.D, .int .i64 S.Z, .slice (some ⟨g, 0, none⟩) S.np c2] 24)) := by rw [← hwd]; exact HZB.out
            refine wp_region_held_drew (S := fun W => ((((W.cell? ⟨w.heap.size, 0, none⟩ = some (.int .i64 S.J) ∧ W.cell? ⟨w.heap.size, 1, none⟩ = some (.int .i64 S.D) ∧ W.cell? ⟨w.heap.size, 2, none⟩ = some (.int .i64 S.Z) ∧ W.cell? ⟨w.heap.size, 3, none⟩ = some (.slice (some ⟨bb, off, none⟩) S.np c1)) ∧ W.cell? ⟨bb, off + k * 2, none⟩ = some (.int .i64 sk) ∧ W.cell? ⟨bb, off + k * 2 + 1, none⟩ = some (.slice (some ⟨gr, or, none⟩) n cu))) ∧ W.cell? ⟨B, 3, none⟩ = some (.slice (some ⟨g, 0, none⟩) S.np c2)) ∧ W.cell? ⟨g9, 0, none⟩ = some (.int .i64 sk) ∧ W.cell? ⟨g9, 1, none⟩ = some (.slice af n cf)) (by kernel_rfl) (by rw [hwd]; exact hSd) (fun hHeld => ?_)
            rw [hwd]
            clear hwd gx0 gx1 gf0 gf1 hSq b3 p0 p1
            (refine wpAnyH_take (i := 0) (v := ?_) rfl (by kernel_rfl) (by kernel_rfl) (by kernel_rfl) (fun _ _ _ h => h) (Or.inl ⟨by rfl, ?_⟩) (by assumption) ?_; rotate_left; (focus (intro w hSw; (try dsimp only at hSw); go_simp; (try with_reducible rfl))); (try simp only [List.getElem_toArray, List.getElem_cons_zero, List.getElem_cons_succ, Act.put, List.setIfInBounds_toArray, List.set_cons_zero, List.set_cons_succ])); (refine wpAnyH_take (i := 1) (v := ?_) rfl (by kernel_rfl) (by kernel_rfl) (by kernel_rfl) (fun _ _ _ h => h) (Or.inl ⟨by rfl, ?_⟩) (by assumption) ?_; rotate_left; (focus (intro w hSw; (try dsimp only at hSw); go_simp; (try with_reducible rfl))); (try simp only [List.getElem_toArray, List.getElem_cons_zero, List.getElem_cons_succ, Act.put, List.setIfInBounds_toArray, List.set_cons_zero, List.set_cons_succ])); (refine wpAnyH_take (i := 2) (v := ?_) rfl (by kernel_rfl) (by kernel_rfl) (by kernel_rfl) (fun _ _ _ h => h) (Or.inl ⟨by rfl, ?_⟩) (by assumption) ?_; rotate_left; (focus (intro w hSw; (try dsimp only at hSw); go_simp; (try with_reducible rfl))); (try simp only [List.getElem_toArray, List.getElem_cons_zero, List.getElem_cons_succ, Act.put, List.setIfInBounds_toArray, List.set_cons_zero, List.set_cons_succ])); (refine wpAnyH_take (i := 3) (v := ?_) rfl (by kernel_rfl) (by kernel_rfl) (by kernel_rfl) (fun _ _ _ h => h) (Or.inl ⟨by rfl, ?_⟩) (by assumption) ?_; rotate_left; (focus (intro w hSw; (try dsimp only at hSw); go_simp; (try with_reducible rfl))); (try simp only [List.getElem_toArray, List.getElem_cons_zero, List.getElem_cons_succ, Act.put, List.setIfInBounds_toArray, List.set_cons_zero, List.set_cons_succ])); (refine wpAnyH_take (i := 4) (v := ?_) rfl (by kernel_rfl) (by kernel_rfl) (by kernel_rfl) (fun _ _ _ h => h) (Or.inl ⟨by rfl, ?_⟩) (by assumption) ?_; rotate_left; (focus (intro w hSw; (try dsimp only at hSw); go_simp; (try with_reducible rfl))); (try simp only [List.getElem_toArray, List.getElem_cons_zero, List.getElem_cons_succ, Act.put, List.setIfInBounds_toArray, List.set_cons_zero, List.set_cons_succ])); (refine wpAnyH_take (i := 5) (v := ?_) rfl (by kernel_rfl) (by kernel_rfl) (by kernel_rfl) (fun _ _ _ h => h) (Or.inl ⟨by rfl, ?_⟩) (by assumption) ?_; rotate_left; (focus (intro w hSw; (try dsimp only at hSw); go_simp; (try with_reducible rfl))); (try simp only [List.getElem_toArray, List.getElem_cons_zero, List.getElem_cons_succ, Act.put, List.setIfInBounds_toArray, List.set_cons_zero, List.set_cons_succ])); (refine wpAnyH_take (i := 6) (v := ?_) rfl (by kernel_rfl) (by kernel_rfl) (by kernel_rfl) (fun _ _ _ h => h) (Or.inl ⟨by rfl, ?_⟩) (by assumption) ?_; rotate_left; (focus (intro w hSw; (try dsimp only at hSw); go_simp; (try with_reducible rfl))); (try simp only [List.getElem_toArray, List.getElem_cons_zero, List.getElem_cons_succ, Act.put, List.setIfInBounds_toArray, List.set_cons_zero, List.set_cons_succ])); (refine wpAnyH_take (i := 7) (v := ?_) rfl (by kernel_rfl) (by kernel_rfl) (by kernel_rfl) (fun _ _ _ h => h) (Or.inl ⟨by rfl, ?_⟩) (by assumption) ?_; rotate_left; (focus (intro w hSw; (try dsimp only at hSw); go_simp; (try with_reducible rfl))); (try simp only [List.getElem_toArray, List.getElem_cons_zero, List.getElem_cons_succ, Act.put, List.setIfInBounds_toArray, List.set_cons_zero, List.set_cons_succ])); (refine wpAnyH_take (i := 8) (v := ?_) rfl (by kernel_rfl) (by kernel_rfl) (by kernel_rfl) (fun _ _ _ h => h) (Or.inl ⟨by rfl, ?_⟩) (by assumption) ?_; rotate_left; (focus (intro w hSw; (try dsimp only at hSw); go_simp; (try with_reducible rfl))); (try simp only [List.getElem_toArray, List.getElem_cons_zero, List.getElem_cons_succ, Act.put, List.setIfInBounds_toArray, List.set_cons_zero, List.set_cons_succ])); (refine wpAnyH_take (i := 9) (v := ?_) rfl (by kernel_rfl) (by kernel_rfl) (by kernel_rfl) (fun _ _ _ h => h) (Or.inl ⟨by rfl, ?_⟩) (by assumption) ?_; rotate_left; (focus (intro w hSw; (try dsimp only at hSw); go_simp; (try with_reducible rfl))); (try simp only [List.getElem_toArray, List.getElem_cons_zero, List.getElem_cons_succ, Act.put, List.setIfInBounds_toArray, List.set_cons_zero, List.set_cons_succ])); (refine wpAnyH_take (i := 10) (v := ?_) rfl (by kernel_rfl) (by kernel_rfl) (by kernel_rfl) (fun _ _ _ h => h) (Or.inl ⟨by rfl, ?_⟩) (by assumption) ?_; rotate_left; (focus (intro w hSw; (try dsimp only at hSw); go_simp; (try with_reducible rfl))); (try simp only [List.getElem_toArray, List.getElem_cons_zero, List.getElem_cons_succ, Act.put, List.setIfInBounds_toArray, List.set_cons_zero, List.set_cons_succ]))
            refine wpAnyH_ready (rs := [11]) (by kernel_rfl) (by simp) ?_; refine AllReadyH.cons rfl (fun K hK => ?_) AllReadyH.nil; go_simp
            obtain ⟨we, hwe⟩ : ∃ we, (wd.setCell ⟨g, t2 * 2, none⟩ (.int .i64 sk)).setCell ⟨g, t2 * 2 + 1, none⟩ (.slice af n cf) = we := ⟨_, rfl⟩
            rw [hwe]
            have hoe : ∀ b, b ≠ g → we.heap[b]? = wd.heap[b]? := fun b hb => by rw [← hwe, Below.heap_setCell _ _ _ _ (by exact hb), Below.heap_setCell _ _ _ _ (by exact hb)]
            have HBe : Hid (Below ws.heap.size ws we) := by rw [← hwe]; exact (HBd.out.setCell (p := ⟨g, t2 * 2, none⟩) hgl _).setCell (p := ⟨g, t2 * 2 + 1, none⟩) hgl _
            have HZe := Lib.hid ((hoe B hBg).trans HZd.out)
            have HOPe : Hid (∃ rv sz pts, OwnP ws.heap.size we 40 (.slice (some ⟨g, 0, none⟩) S.np c2) S.np sz rv pts ∧ ∀ j, j < S.np → sz j = (if shb a S.np j < k + 1 then (turnS S a b).sz j else S.sz j) ∧ pts j = (if shb a S.np j < k + 1 then (turnS S a b).pts j else S.pts j)) := by
              have h1 := HOPd.out.size2 (by decide) ht2n sk
              have h2 : RI ws.heap.size (wd.setCell ⟨g, t2 * 2, none⟩ (.int .i64 sk)) (.slice af n cf) (rotL b l) := (HRd.out.keepU HCPd.out (by decide) fun b hb => Below.heap_setCell _ _ _ _ (by exact hb)).lower HBr.out.size
              have h3 := h1.newRow (by decide) ht2n h2 fun b' hb h0 j hj hjm hbj => by
                rcases Nat.eq_zero_or_pos ((pts j).length) with h4 | h4
                · exact h4
                · have h5 := (HOP.out.row j hj).blk hbj h4
                  have h6 := HRF.out.low2 hb h0
                  omega
              rw [hwe] at h3
              refine ⟨_, _, _, h3, fun j hj => ?_⟩
              have hsp := HSPS.out j hj
              have hsk : shb a S.np t2 = k := by rw [← HT2.out]; exact shb_shf hkn
              by_cases e : j = t2
              · subst e
                refine ⟨?_, ?_⟩
                · rw [if_pos rfl, hsk, if_pos (Nat.lt_succ_self k)]
                  show sk = S.sz (shb a S.np j)
                  rw [hsk, HSK.out]
                · rw [if_pos rfl, hsk, if_pos (Nat.lt_succ_self k)]
                  show rotL b l = rotL b (S.pts (shb a S.np j))
                  rw [hsk, HPL.out]
              · have hne : shb a S.np j ≠ k := fun h => e (by rw [← HT2.out, ← h]; exact (shf_shb hj).symm)
                rw [if_neg e, if_neg e, hsp.1, hsp.2]
                by_cases h3 : shb a S.np j < k
                · rw [if_pos h3, if_pos h3, if_pos (by omega), if_pos (by omega)]; exact ⟨rfl, rfl⟩
                · rw [if_neg h3, if_neg h3, if_neg (by omega), if_neg (by omega)]; exact ⟨rfl, rfl⟩
            have hSe : ((((we.cell? ⟨w.heap.size, 0, none⟩ = some (.int .i64 S.J) ∧ we.cell? ⟨w.heap.size, 1, none⟩ = some (.int .i64 S.D) ∧ we.cell? ⟨w.heap.size, 2, none⟩ = some (.int .i64 S.Z) ∧ we.cell? ⟨w.heap.size, 3, none⟩ = some (.slice (some ⟨bb, off, none⟩) S.np c1)) ∧ we.cell? ⟨bb, off + k * 2, none⟩ = some (.int .i64 sk) ∧ we.cell? ⟨bb, off + k * 2 + 1, none⟩ = some (.slice (some ⟨gr, or, none⟩) n cu))) ∧ we.cell? ⟨B, 3, none⟩ = some (.slice (some ⟨g, 0, none⟩) S.np c2)) ∧ we.cell? ⟨g9, 0, none⟩ = some (.int .i64 sk) ∧ we.cell? ⟨g9, 1, none⟩ = some (.slice af n cf) := by
              have hc := fun b o (hb : b ≠ g) => World.cell?_of_block (a := ⟨b, o, none⟩) (w := wd) (hoe b hb)
              obtain ⟨⟨⟨⟨s0, s1, s2, s3⟩, s4, s5⟩, s6⟩, s7, s8⟩ := hSd
              exact ⟨⟨⟨⟨(hc _ _ hwg).trans s0, (hc _ _ hwg).trans s1, (hc _ _ hwg).trans s2, (hc _ _ hwg).trans s3⟩, (hc _ _ hbg).trans s4, (hc _ _ hbg).trans s5⟩, (hc _ _ hBg).trans s6⟩, (hc _ _ h9g.symm).trans s7, (hc _ _ h9g.symm).trans s8⟩
            clear hwe hoe hSd gx0d gx1d gf0d gf1d
            refine hK.out _ _ hSe (fun hHeld => ?_); clear hK K; (try simp only [List.getElem_toArray, List.getElem_cons_zero, List.getElem_cons_succ, Act.put, List.setIfInBounds_toArray, List.set_cons_zero, List.set_cons_succ])
            refine wpAnyH_done (by kernel_rfl) ?_ _; clear hHeld
            clear hSe
            go_wp2_with fail
            go_roundw
            case rel => exact ⟨k + 1, by omega, by go_num, HZe, HOPe, HBe⟩
            case measure => simp [intOf]; omega
    · have hki : ¬ (k : Int) < (S.np : Int) := by omega
      have hke : k = S.np := by omega
      have HKE : Hid (∀ j, j < S.np → sz j = (turnS S a b).sz j ∧ pts j = (turnS S a b).pts j) := fun j hj => by
        have h1 := HSPS.out j hj
        have h2 : shb a S.np j < k := by rw [hke]; exact shb_lt hj
        rw [if_pos h2, if_pos h2] at h1; exact h1
      have HZs := Lib.hid ((HBr.out.block _ (show wv.heap.size < ws.heap.size from hszs)).trans HZ1.out)
      have v0 := cell_blk HZs.out 0 rfl
      have v1 := cell_blk HZs.out 1 rfl
      have v2 := cell_blk HZs.out 2 rfl
      have v3 := cell_blk HZs.out 3 rfl
      have e0 := free_blk HZs.out 0
      have e1 := free_blk HZs.out 1
      have e2 := free_blk HZs.out 2
      have e3 := free_blk HZs.out 3
      have u0 := cell_blk HZr.out 0 rfl
      have u1 := cell_blk HZr.out 1 rfl
      have u2 := cell_blk HZr.out 2 rfl
      have u3 := cell_blk HZr.out 3 rfl
      clear hke
      go_wp2_with fail
      obtain ⟨w6, hw6, hz6, ho6, hb6⟩ := put4o HZs.out (.int .i64 S.J) (.int .i64 S.D) (.int .i64 S.Z) (.slice a2 S.np c2)
      rw [hw6]
      have s0 := cell_blk hz6 0 rfl
      have s1 := cell_blk hz6 1 rfl
      have s2 := cell_blk hz6 2 rfl
      have s3 := cell_blk hz6 3 rfl
      have hBf : Below w.heap.size w w6 := HB.out.trans ((HBr.out.mono HB.out.size).trans (hb6.mono HVW.out))
      have hop6 := ((HOP.out.keep (W' := w6) fun g' h1 _ => ho6 g' (by omega)).congr (pts' := (turnS S a b).pts) fun i hi => (HKE.out i hi).2).congrS (sz' := (turnS S a b).sz) fun i hi => (HKE.out i hi).1
      have hlo : w.heap.size ≤ ws.heap.size := HB.out.size
      exact bodyPost_ret (v := .agg #[.int .i64 S.J, .int .i64 S.D, .int .i64 S.Z, .slice a2 S.np c2]) (by simp [results, Try.results30, go_sem, s0, s1, s2, s3]) rfl ⟨_, rfl, ⟨_, _, rw, rfl, hop6.lower hlo⟩, hBf⟩

end Go.Proofs.Ytffnlimgjnhmpaa
